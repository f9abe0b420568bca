/- Texts of ours put together: RdTn, IxTa. -/
import Derived.Test.YtjnikogaleofaaaDoorG21
import Derived.Test.YtjnikogaleofaaaDoorG17
import Derived.Deep.RegionHeld3
import Derived.Deep.RegionLaw
import Derived.Deep.AppendLies
namespace Go.Proofs.YtjnikogaleofaaaDoor
open Go.ChangeShapes Go.WideShapes Go.ChangeAt Go.RowKit
/-- What holds of the counts. -/
def RdInv (ph : Nat) (s : RdS) : Prop := s.bs.length ≤ 5 ∧ s.ms.length ≤ 10 ∧ s.bd.length ≤ 40 ∧ (ph = 1 → s.bs.length ≤ 4) ∧ (ph = 2 → s.bs.length ≤ 4 ∧ s.ms.length ≤ 9)
theorem step_inv {num : Int} {ph ph' : Nat} {s s' : RdS} {g : Seg} (hi : RdInv ph s) (h : rdStep num ph s g = .inr (ph', s')) : RdInv ph' s' := by
  obtain ⟨h1, h2, h3, h4, h5⟩ := hi
  unfold rdStep at h
  by_cases p0 : ph = 0
  · subst p0
    rw [if_pos rfl] at h
    repeat' split at h
    all_goals first
      | (cases h; done)
      | (simp only [Sum.inr.injEq, Prod.mk.injEq] at h
         obtain ⟨rfl, rfl⟩ := h
         refine ⟨?_, ?_, ?_, ?_, ?_⟩ <;> first | omega | (simp; done) | (simp; omega))
  · rw [if_neg p0] at h
    by_cases p1 : ph = 1
    · subst p1
      have := h4 rfl
      rw [if_pos rfl] at h
      repeat' split at h
      all_goals first
        | (cases h; done)
        | (simp only [Sum.inr.injEq, Prod.mk.injEq] at h
           obtain ⟨rfl, rfl⟩ := h
           refine ⟨?_, ?_, ?_, ?_, ?_⟩ <;> first | omega | (simp; done) | (simp; omega))
    · rw [if_neg p1] at h
      by_cases p2 : ph = 2
      · subst p2
        have := h5 rfl
        rw [if_pos rfl] at h
        repeat' split at h
        all_goals first
          | (cases h; done)
          | (simp only [Sum.inr.injEq, Prod.mk.injEq] at h
             obtain ⟨rfl, rfl⟩ := h
             refine ⟨?_, ?_, ?_, ?_, ?_⟩ <;> first | omega | (simp; done) | (simp; omega))
      · rw [if_neg p2] at h
        cases h
theorem go_inv {num : Int} : ∀ (l : List Seg) (ph : Nat) (s : RdS) (ph' : Nat) (s' : RdS), RdInv ph s → rdGo num l ph s = some (ph', s') → RdInv ph' s'
  | [], ph, s, ph', s', hi, h => by simp [rdGo] at h; obtain ⟨rfl, rfl⟩ := h; exact hi
  | g :: r, ph, s, ph', s', hi, h => by
    simp only [rdGo] at h
    cases e : rdStep num ph s g with
    | inl c => rw [e] at h; cases h
    | inr x => rw [e] at h; exact go_inv r _ _ _ _ (step_inv hi e) h
theorem go_split {num : Int} : ∀ (a : List Seg) (g : Seg) (r : List Seg) (ph : Nat) (s : RdS) (z : Nat × RdS), rdGo num (a ++ g :: r) ph s = some z → ∃ ph1 s1 y, rdGo num a ph s = some (ph1, s1) ∧ rdStep num ph1 s1 g = .inr y
  | [], g, r, ph, s, z, h => by
    simp only [List.nil_append, rdGo] at h
    cases e : rdStep num ph s g with
    | inl c => rw [e] at h; cases h
    | inr x => exact ⟨ph, s, x, rfl, e⟩
  | b :: a, g, r, ph, s, z, h => by
    simp only [List.cons_append, rdGo] at h ⊢
    cases e : rdStep num ph s b with
    | inl c => rw [e] at h; cases h
    | inr x => rw [e] at h; exact go_split a g r _ _ z h
/-- A trailer's tag. -/
def isTr (t : ByteArray) : Prop := t = ⟨#[77, 83, 84]⟩ ∨ t = ⟨#[71, 82, 84]⟩ ∨ t = ⟨#[73, 88, 84]⟩
theorem endC_turn {n : Int} {c : Nat} {t : ByteArray} {es : List (List ByteArray)} {e1 : List ByteArray} (h : endC n c (t, es) = 0) (hc : c ≠ 77) (he : es[1]? = some e1) : endC n c (t, [[⟨#[55, 55]⟩], e1]) = 5 := by
  have h7 : numT (⟨#[55, 55]⟩ : ByteArray).data.toList = some 77 := by rfl
  have hne : (⟨#[55, 55]⟩ : ByteArray) ≠ decS (c : Int) := fun e => by
    have h := numT_cnt c
    rw [← e, h7] at h
    simp at h
    omega
  unfold endC at h
  split at h
  · rename_i a b e
    dsimp only at e
    subst e
    simp at he
    subst he
    split at h
    · rename_i hs
      simp only [Bool.and_eq_true] at hs
      simp [endC, h7, hne, hs.2]
    · cases h
  · cases h
theorem turn_step {num : Int} {ph : Nat} {s : RdS} {t : ByteArray} {es : List (List ByteArray)} {e1 : List ByteArray} {y : Nat × RdS} (hi : RdInv ph s) (ht : isTr t) (h : rdStep num ph s (t, es) = .inr y) (he : es[1]? = some e1) : rdStep num ph s (t, [[⟨#[55, 55]⟩], e1]) = .inl 5 := by
  obtain ⟨h1, h2, h3, h4, h5⟩ := hi
  unfold rdStep at h ⊢
  by_cases p0 : ph = 0
  · subst p0
    rw [if_pos rfl] at h ⊢
    dsimp only at h ⊢
    by_cases q : t = ⟨#[73, 88, 84]⟩
    · rw [if_pos q] at h ⊢
      split at h
      · cases h
      · rename_i hb
        rw [if_neg hb]
        split at h
        · rename_i h0
          have := endC_turn h0 (by omega) he
          rw [this]
          rfl
        · cases h
    · rw [if_neg q] at h
      have q2 : t ≠ ⟨#[71, 82, 72]⟩ := by rcases ht with rfl | rfl | rfl <;> decide
      rw [if_neg (fun g => q2 g.1)] at h
      cases h
  · rw [if_neg p0] at h ⊢
    by_cases p1 : ph = 1
    · subst p1
      rw [if_pos rfl] at h ⊢
      dsimp only at h ⊢
      by_cases q : t = ⟨#[71, 82, 84]⟩
      · rw [if_pos q] at h ⊢
        split at h
        · cases h
        · rename_i hb
          rw [if_neg hb]
          split at h
          · rename_i h0
            have := endC_turn h0 (by omega) he
            rw [this]
            rfl
          · cases h
      · rw [if_neg q] at h
        have q2 : t ≠ ⟨#[77, 83, 72]⟩ := by rcases ht with rfl | rfl | rfl <;> decide
        rw [if_neg (fun g => q2 g.1)] at h
        cases h
    · rw [if_neg p1] at h ⊢
      by_cases p2 : ph = 2
      · subst p2
        rw [if_pos rfl] at h ⊢
        dsimp only at h ⊢
        by_cases q : t = ⟨#[77, 83, 84]⟩
        · rw [if_pos q] at h ⊢
          split at h
          · rename_i h0
            have := endC_turn h0 (by omega) he
            rw [this]
            rfl
          · cases h
        · rw [if_neg q] at h
          have q2 : bodyB (t, es) ≠ true := fun g => by
            rcases ht with rfl | rfl | rfl <;> simp [bodyB, ownT] at g
          rw [if_neg (fun g => q2 g.1)] at h
          cases h
      · rw [if_neg p2] at h
        cases h
/-- A right interchange's segments behind the head, one trailer turned: read to the trailer, the code is 5. -/
theorem rd_turned {x : Ixc} (h : ixB x = true) {k : Nat} {t : ByteArray} {es : List (List ByteArray)} {e1 : List ByteArray} (hg : (x.buns.flatMap bunSegs ++ [hdS tIXT [decS x.buns.length, decS x.num]])[k]? = some (t, es)) (ht : isTr t) (he : es[1]? = some e1) (r : List Seg) :
    (rdIx x.num ((x.buns.flatMap bunSegs ++ [hdS tIXT [decS x.buns.length, decS x.num]]).take k ++ (t, [[⟨#[55, 55]⟩], e1]) :: r) 0 ⟨[], 0, 0, [], 0, []⟩).1 = 5 ∧ (rdIx x.num ((x.buns.flatMap bunSegs ++ [hdS tIXT [decS x.buns.length, decS x.num]]).take k ++ (t, [[⟨#[55, 55]⟩], e1]) :: r) 0 ⟨[], 0, 0, [], 0, []⟩).2.1 = k := by
  obtain ⟨s', hgo, _⟩ := go_ix h
  generalize x.buns.flatMap bunSegs ++ [hdS tIXT [decS x.buns.length, decS x.num]] = L at hg hgo ⊢
  have hlt := (List.getElem?_eq_some_iff.1 hg).1
  have hL : L = L.take k ++ (t, es) :: L.drop (k + 1) := by
    have e := (List.getElem?_eq_some_iff.1 hg).2
    rw [← e, ← List.drop_eq_getElem_cons hlt, List.take_append_drop]
  rw [hL] at hgo
  obtain ⟨ph1, s1, y, g1, g2⟩ := go_split _ _ _ _ _ _ hgo
  have hi := go_inv _ _ _ _ _ (show RdInv 0 ⟨[], 0, 0, [], 0, []⟩ from ⟨by simp, by simp, by simp, by simp, by simp⟩) g1
  have hst := turn_step hi ht g2 he
  rw [rdIx_app x.num _ _ _ _ _ _ g1]
  simp only [rdIx, hst, List.length_take]
  exact ⟨trivial, by omega⟩
end Go.Proofs.YtjnikogaleofaaaDoor
namespace Go.Proofs.YtjnikogaleofaaaDoor
open Go.ChangeShapes Go.WideShapes Go.ChangeAt Go.RowKit
theorem infoStr : (Tryd.prog.info? 9).map (fun i => (i.zero, i.size, i.bytes)) = some (some (.string ⟨#[]⟩), 1, 16) := by kernel_rfl
theorem row_n' {n₀ t k N C : Nat} {W : World} {A : Option Addr} {xs : List Value} (h : W.ownsRow n₀ t 1 (.slice A N C) k xs) : N = k := by
  rcases h.2 with ⟨e, h0⟩ | ⟨g, cap, cur, e, _⟩
  · simp only [Value.slice.injEq] at e
    omega
  · simp only [Value.slice.injEq] at e
    exact e.2.1
theorem row1 (w : World) (t : ByteArray) (hz : t.size ≤ 9223372036854775807) : RowS (w.alloc (.cells #[.string t] 9)) (.slice (some ⟨w.heap.size, 0, none⟩) 1 1) [t] := by
  refine ⟨⟨_, _, rfl, fun _ => ⟨w.heap.size, 0, rfl, fun i s hi => ?_⟩⟩, by simp, fun i s hi => ?_⟩
  · rcases i with _ | i
    · simp at hi
      subst hi
      simp [go_sem]
    · simp at hi
  · rcases i with _ | i
    · simp at hi
      subst hi
      exact hz
    · simp at hi
/-- A segment at hand in block B, the answer's block R ahead of it. -/
structure GB (R B : Nat) (w W : World) (tag : ByteArray) (u : Value) (vals : List Value) (es : List (List ByteArray)) : Prop where
  r : W.heap[R]? = some (.cells #[.string ⟨#[]⟩, .slice none 0 0] 33)
  g : W.heap[B]? = some (.cells #[.string tag, u] 33)
  own : OwnV (B + 1) W u vals es
  bel : Below w.heap.size w W
  wr : w.heap.size ≤ R
  rb : R < B
theorem GB.lt {R B : Nat} {w W : World} {tag : ByteArray} {u : Value} {vals : List Value} {es : List (List ByteArray)} (h : GB R B w W tag u vals es) : B + 1 ≤ W.heap.size := (Array.getElem?_eq_some_iff.1 h.g).1
theorem GB.below {R B : Nat} {w W W' : World} {tag : ByteArray} {u : Value} {vals : List Value} {es : List (List ByteArray)} (h : GB R B w W tag u vals es) (hb : Below W.heap.size W W') : GB R B w W' tag u vals es :=
  ⟨(hb.block _ (Array.getElem?_eq_some_iff.1 h.r).1).trans h.r, (hb.block _ (Array.getElem?_eq_some_iff.1 h.g).1).trans h.g, h.own.below hb, h.bel.trans (hb.mono h.bel.size), h.wr, h.rb⟩
theorem GB.cells {R B : Nat} {w W : World} {tag : ByteArray} {u : Value} {vals : List Value} {es : List (List ByteArray)} (h : GB R B w W tag u vals es) : W.cell? ⟨B, 0, none⟩ = some (.string tag) ∧ W.cell? ⟨B, 1, none⟩ = some u := by
  have := h.g
  exact ⟨by simp [World.cell?, this], by simp [World.cell?, this]⟩
/-- One element more: appended in w4, then stored. -/
theorem GB.push {R B : Nat} {w W W2 W3 w4 : World} {tag : ByteArray} {u x u' : Value} {vals : List Value} {es : List (List ByteArray)} {e : List ByteArray} (h : GB R B w W tag u vals es) (hb2 : Below W.heap.size W W2) (hx : W2.ownsRow W.heap.size 9 1 x e.length (e.map Value.string)) (he : 0 < e.length) (hb3 : Below W2.heap.size W2 W3)
    (hown : w4.ownsRow (B + 1) 36 1 u' (es.length + 1) (vals ++ [x])) (hg : W3.grownBy w4 u.ownBlock) :
    (w4.cell? ⟨B, 1, none⟩ = some u ∧ w4.frozen? ⟨B, 1, none⟩ = false) ∧ GB R B w (w4.setCell ⟨B, 1, none⟩ u') tag u' (vals ++ [x]) (es ++ [e]) := by
  have h3 := (h.below hb2).below hb3
  have l3 := h3.lt
  have q1 := h.wr
  have q2 := h.rb
  have hO := h.own.push h.lt hb2 hx he hb3 hown hg
  have hold : ∀ k, k < B + 1 → w4.heap[k]? = W3.heap[k]? := fun k hk => hg.block k (by omega) (row_lt h3.own.row hk)
  have hgg : w4.heap[B]? = some (.cells #[.string tag, u] 33) := (hold _ (by omega)).trans h3.g
  have hbb : Below w.heap.size W3 w4 := ⟨hg.os, hg.tape, hg.output, hg.size, fun k hk => hold k (by omega)⟩
  have hset : (w4.setCell ⟨B, 1, none⟩ u').heap[B]? = some (.cells #[.string tag, u'] 33) := by
    have := heap_setCell_same w4 B 1 _ _ u' hgg
    simpa using this
  refine ⟨⟨by simp [World.cell?, hgg], by simp [World.frozen?, hgg]⟩, ?_, hset, hO.set (by omega) 1 u', (h3.bel.trans hbb).setCell (show w.heap.size ≤ B by omega) _, q1, q2⟩
  rw [Below.heap_setCell w4 ⟨B, 1, none⟩ u' R (show R ≠ B by omega)]
  exact (hold _ (by omega)).trans h3.r
end Go.Proofs.YtjnikogaleofaaaDoor
