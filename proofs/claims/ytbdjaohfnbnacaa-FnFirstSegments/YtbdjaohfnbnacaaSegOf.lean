/- Contract of impl.segmentOf: of a right syntax and a text of at most 20000 bytes it tells what segR tells, in memory of its own; nothing that was there is written. -/
import Derived.Test.YtbdjaohfnbnacaaElemOf
import Derived.Test.YtbdjaohfnbnacaaRowG
namespace Go.Proofs.Ytbdjaohfnbnacaa
open Go.ChangeShapes Go.WideShapes Go.ChangeAt Go.RowKit
/-- The elements, one by one. -/
def sgScan (a b c d : Int) : List ByteArray → Nat → Int → List (List ByteArray) → Int ⊕ List (List ByteArray)
  | [], _, _, acc => .inr acc
  | p :: t, i, at_, acc => if i = 10 then .inl at_ else
    match elemR a b c d p with
    | .inl e => .inl (at_ + e)
    | .inr ps => sgScan a b c d t (i + 1) (at_ + p.size + 1) (acc ++ [ps])
/-- What is read of what stands ahead of a Seg. -/
def segR (a b c d : Int) (s : ByteArray) : Int ⊕ Seg :=
  let L := piecesS d b s
  let tag := L[0]?.getD ⟨#[]⟩
  if tagB tag = true then
    match sgScan a b c d (L.drop 1) 0 (tag.size + 1) [] with
    | .inl e => .inl e
    | .inr es => if blankB es = true then .inl s.size else .inr (tag, es)
  else .inl 0
/-- Elements in rows of the call's own, each in a block for itself. -/
structure OwnV (n₀ : Nat) (W : World) (v : Value) (vals : List Value) (es : List (List ByteArray)) : Prop where
  len : vals.length = es.length
  row : W.ownsRow n₀ 74 1 v es.length vals
  parts : ∀ (i : Nat) (u : Value) (e : List ByteArray), vals[i]? = some u → es[i]? = some e → W.ownsRow n₀ 9 1 u e.length (e.map Value.string) ∧ 0 < e.length
  apart : ∀ (i j : Nat) (u x : Value), i < j → vals[i]? = some u → vals[j]? = some x → u.ownBlock ≠ x.ownBlock
def OwnEs (n₀ : Nat) (W : World) (v : Value) (es : List (List ByteArray)) : Prop := ∃ vals, OwnV n₀ W v vals es
theorem row_keep {n₀ t k : Nat} {W W' : World} {v : Value} {xs : List Value} (h : W.ownsRow n₀ t 1 v k xs) (hb : Below W.heap.size W W') : W'.ownsRow n₀ t 1 v k xs := by
  refine h.kept (show W.grownBy W' none from ⟨hb.os, hb.tape, hb.output, hb.size, fun k hk _ => hb.block k hk⟩) ?_
  cases v.ownBlock with
  | none => exact .inl rfl
  | some k => exact .inr (by simp)
theorem OwnV.below {n₀ : Nat} {W W' : World} {v : Value} {vals : List Value} {es : List (List ByteArray)} (h : OwnV n₀ W v vals es) (hb : Below W.heap.size W W') : OwnV n₀ W' v vals es :=
  ⟨h.len, row_keep h.row hb, fun i u e hu he => ⟨row_keep (h.parts i u e hu he).1 hb, (h.parts i u e hu he).2⟩, h.apart⟩
theorem OwnV.set {n₀ B : Nat} {W : World} {v : Value} {vals : List Value} {es : List (List ByteArray)} (h : OwnV n₀ W v vals es) (hB : B < n₀) (i : Nat) (x : Value) : OwnV n₀ (W.setCell ⟨B, i, none⟩ x) v vals es := by
  have k : ∀ {t k : Nat} {u : Value} {xs : List Value}, W.ownsRow n₀ t 1 u k xs → (W.setCell ⟨B, i, none⟩ x).ownsRow n₀ t 1 u k xs := fun hr => hr.kept (show W.grownBy (W.setCell ⟨B, i, none⟩ x) (some B) from ⟨rfl, rfl, rfl, by simp, fun k _ hk => Below.heap_setCell W ⟨B, i, none⟩ x k (fun e => hk (by rw [e]))⟩) (.inr (row_lt hr hB).symm)
  exact ⟨h.len, k h.row, fun i u e hu he => ⟨k (h.parts i u e hu he).1, (h.parts i u e hu he).2⟩, h.apart⟩
theorem OwnV.mono {n₀ n₁ : Nat} {W : World} {v : Value} {vals : List Value} {es : List (List ByteArray)} (h : OwnV n₁ W v vals es) (hn : n₀ ≤ n₁) : OwnV n₀ W v vals es :=
  ⟨h.len, row_mono h.row hn, fun i u e hu he => ⟨row_mono (h.parts i u e hu he).1 hn, (h.parts i u e hu he).2⟩, h.apart⟩
theorem row_own {n₀ t k : Nat} {W : World} {v : Value} {xs : List Value} (h : W.ownsRow n₀ t 1 v k xs) (hk : 0 < k) : ∃ g, v.ownBlock = some g ∧ g < W.heap.size ∧ n₀ ≤ g := by
  rcases h.2 with ⟨rfl, h0⟩ | ⟨g, cap, cur, rfl, hg, hgb, _⟩
  · omega
  · exact ⟨g, rfl, (Array.getElem?_eq_some_iff.1 hgb).1, hg⟩
/-- One element more. -/
theorem OwnV.push {n₀ : Nat} {W W2 W3 w4 : World} {v v' u : Value} {vals : List Value} {es : List (List ByteArray)} {e : List ByteArray} (h : OwnV n₀ W v vals es) (hn : n₀ ≤ W.heap.size) (hb2 : Below W.heap.size W W2) (hu : W2.ownsRow W.heap.size 9 1 u e.length (e.map Value.string)) (he : 0 < e.length) (hb3 : Below W2.heap.size W2 W3)
    (hown : w4.ownsRow n₀ 74 1 v' (es.length + 1) (vals ++ [u])) (hg : W3.grownBy w4 v.ownBlock) : OwnV n₀ w4 v' (vals ++ [u]) (es ++ [e]) := by
  have h3 := (h.below hb2).below hb3
  have u3 := row_keep hu hb3
  refine ⟨by simp [h.len], by simpa using hown, fun i x y hx hy => ?_, fun i j x y hij hx hy => ?_⟩
  · rcases Nat.lt_or_ge i vals.length with q | q
    · rw [List.getElem?_append_left q] at hx
      rw [List.getElem?_append_left (by rw [← h.len]; exact q)] at hy
      obtain ⟨p1, p2⟩ := h3.parts i x y hx hy
      exact ⟨p1.kept hg (rows_apart p1 h3.row (by decide)), p2⟩
    · have hi : i = vals.length := by
        have := (List.getElem?_eq_some_iff.1 hx).1
        simp at this
        omega
      subst hi
      rw [List.getElem?_append_right (Nat.le_refl _)] at hx
      rw [h.len, List.getElem?_append_right (Nat.le_refl _)] at hy
      simp at hx hy
      subst hx hy
      exact ⟨(row_mono u3 hn).kept hg (rows_apart u3 h3.row (by decide)), he⟩
  · rcases Nat.lt_or_ge j vals.length with q | q
    · rw [List.getElem?_append_left q] at hy
      rw [List.getElem?_append_left (by omega)] at hx
      exact h.apart i j x y hij hx hy
    · have hj : j = vals.length := by
        have := (List.getElem?_eq_some_iff.1 hy).1
        simp at this
        omega
      subst hj
      rw [List.getElem?_append_left hij] at hx
      rw [List.getElem?_append_right (Nat.le_refl _)] at hy
      simp at hy
      subst hy
      have hie : i < es.length := by rw [← h.len]; exact hij
      obtain ⟨p1, p2⟩ := h.parts i x _ hx (List.getElem?_eq_getElem hie)
      obtain ⟨g1, e1, l1, _⟩ := row_own p1 p2
      obtain ⟨g2, e2, _, l2⟩ := row_own hu he
      rw [e1, e2]
      simp
      omega
theorem elScan_facts {a b c d : Int} : ∀ (L : List ByteArray) (y : Int) (acc ps : List ByteArray), elScan a b c d L y acc = .inr ps → (∀ t ∈ acc, t.size ≤ 40) → ps.length = acc.length + L.length ∧ ∀ t ∈ ps, t.size ≤ 40 := by
  intro L
  induction L with
  | nil =>
    intro y acc ps h ha
    simp only [elScan, Sum.inr.injEq] at h
    subst h
    exact ⟨rfl, ha⟩
  | cons p t ih =>
    intro y acc ps h ha
    simp only [elScan] at h
    split at h
    · cases h
    · split at h
      · rename_i hP
        obtain ⟨h1, h2⟩ := ih _ _ _ h (fun x hx => by
          rcases List.mem_append.1 hx with q | q
          · exact ha x q
          · simp only [List.mem_cons, List.not_mem_nil, or_false] at q
            rw [q]
            exact partB_size hP)
        simp only [List.length_append, List.length_cons, List.length_nil] at h1 ⊢
        exact ⟨by omega, h2⟩
      · cases h
theorem elemR_facts {a b c d : Int} {s : ByteArray} {ps : List ByteArray} (h : elemR a b c d s = .inr ps) : 0 < ps.length ∧ ps.length ≤ 4 ∧ ∀ t ∈ ps, t.size ≤ 40 := by
  unfold elemR at h
  split at h
  · cases h
  · rename_i h4
    cases he : elScan a b c d (piecesS d c s) 0 [] with
    | inl e => rw [he] at h; cases h
    | inr qs =>
      rw [he] at h
      simp only at h
      split at h
      · cases h
      · simp only [Sum.inr.injEq] at h
        subst h
        obtain ⟨h1, h2⟩ := elScan_facts _ _ _ _ he (by simp)
        have := pieces_pos d c s
        simp only [List.length_nil] at h1
        exact ⟨by omega, by omega, h2⟩
theorem faultF_bd (a b c d : Int) (p : ByteArray) : -1 ≤ faultF a b c d p ∧ faultF a b c d p ≤ p.size := by
  unfold faultF
  split
  · rename_i k hk
    rw [List.findIdx?_eq_some_iff_getElem] at hk
    obtain ⟨h1, _⟩ := hk
    rw [upto_length] at h1
    split <;> omega
  · split <;> omega
theorem elScan_bd {a b c d : Int} : ∀ (L : List ByteArray) (y : Int) (acc : List ByteArray) (e : Int), elScan a b c d L y acc = .inl e → 0 ≤ y → (∀ p ∈ L, p.size ≤ 20000) → 0 ≤ e ∧ e ≤ y + 20001 * L.length := by
  intro L
  induction L with
  | nil => intro y acc e h; simp [elScan] at h
  | cons p t ih =>
    intro y acc e h hy hz
    have hp := hz p (by simp)
    have hf := faultF_bd a b c d p
    simp only [elScan] at h
    simp only [List.length_cons]
    split at h
    · simp only [Sum.inl.injEq] at h
      omega
    · split at h
      · have := ih _ _ _ h (by omega) (fun q hq => hz q (by simp [hq]))
        omega
      · simp only [Sum.inl.injEq] at h
        omega
theorem elemR_bd {a b c d : Int} {s : ByteArray} {e : Int} (h : elemR a b c d s = .inl e) (hs : s.size ≤ 20000) : 0 ≤ e ∧ e ≤ 80004 := by
  unfold elemR at h
  split at h
  · simp only [Sum.inl.injEq] at h
    omega
  · rename_i h4
    cases he : elScan a b c d (piecesS d c s) 0 [] with
    | inl x =>
      rw [he] at h
      simp only [Sum.inl.injEq] at h
      have := elScan_bd _ _ _ _ he (by omega) (fun p hp => Nat.le_trans (pieces_size d c s p hp) hs)
      omega
    | inr qs =>
      rw [he] at h
      simp only at h
      split at h
      · simp only [Sum.inl.injEq] at h
        omega
      · cases h
/-- Bounds of elements that were read. -/
def BdX (es : List (List ByteArray)) : Prop := ∀ e ∈ es, e.length ≤ 4 ∧ ∀ t ∈ e, t.size ≤ 40
theorem BdX.bdE {es : List (List ByteArray)} (h : BdX es) (hl : es.length ≤ 1048576) : BdE 1048576 es :=
  ⟨hl, fun i e hi => ⟨Nat.le_trans (h e (List.mem_of_getElem? hi)).1 (by omega), fun j t ht => Nat.le_trans ((h e (List.mem_of_getElem? hi)).2 t (List.mem_of_getElem? ht)) (by omega)⟩⟩
theorem OwnV.rowE {n₀ : Nat} {W : World} {v : Value} {vals : List Value} {es : List (List ByteArray)} (h : OwnV n₀ W v vals es) (hX : BdX es) (hl : es.length ≤ 1048576) : RowE W v es := by
  refine ⟨?_, by omega⟩
  rcases h.row.2 with ⟨rfl, h0⟩ | ⟨g, cap, cur, rfl, _⟩
  · exact ⟨none, 0, by rw [h0], fun hn => absurd (List.length_eq_zero_iff.1 h0) hn⟩
  · refine ⟨_, _, rfl, fun _ => ⟨g, 0, rfl, fun i e hi => ?_⟩⟩
    have hlt := (List.getElem?_eq_some_iff.1 hi).1
    have hv : vals[i]? = some (vals[i]'(by rw [h.len]; exact hlt)) := List.getElem?_eq_getElem _
    have h1 := h.row.cells (g := g) rfl i _ hv
    have e1 : (⟨g, 0, none⟩ : Addr).add i = ⟨g, 0 + i, none⟩ := by unfold Addr.add; split <;> simp_all
    rw [e1] at h1
    have hx := hX e (List.mem_of_getElem? hi)
    exact ⟨_, h1, own_rowS (h.parts i _ e hv hi).1 rfl (by omega) hx.2⟩
theorem infoElm : (Try.prog.info? 74).map (fun i => (i.zero, i.size, i.bytes)) = some (some (.agg #[.slice none 0 0]), 1, 24) := by kernel_rfl
theorem row_slice {n₀ t k : Nat} {W : World} {v : Value} {xs : List Value} (h : W.ownsRow n₀ t 1 v k xs) : ∃ A N C, v = .slice A N C := by
  rcases h.2 with ⟨rfl, _⟩ | ⟨g, cap, cur, rfl, _⟩
  · exact ⟨_, _, _, rfl⟩
  · exact ⟨_, _, _, rfl⟩
/-- The state once an element has been appended, and ahead of the store. -/
structure Stp (w1 w4 : World) (B : Nat) (tag : ByteArray) (v : Value) (vals : List Value) (es : List (List ByteArray)) : Prop where
  own : OwnV (B + 1) w4 v vals es
  box : ∃ u, w4.heap[B]? = some (.cells #[.string tag, u] 44)
  below : Below B w1 w4
  z : w4.frozen? ⟨B, 1, none⟩ = false
  cell : ∃ u, w4.cell? ⟨B, 1, none⟩ = some u
  sz : B < w4.heap.size
theorem stp {w1 wr w2 w4 : World} {tag : ByteArray} {A A' A4 : Option Addr} {N C L' C' N4 C4 : Nat} {vals : List Value} {acc : List (List ByteArray)} {ps : List ByteArray} {x : Obj}
    (hp : OwnV (w1.heap.size + 1) wr (.slice A N C) vals acc ∧ Below wr.heap.size wr w2 ∧ w2.ownsRow wr.heap.size 9 1 (.slice A' L' C') ps.length (ps.map Value.string) ∧ 0 < ps.length ∧ OwnV (w1.heap.size + 1) (w2.alloc (.cells #[.slice A' L' C'] 74)) (.slice A N C) vals acc ∧ (w2.alloc (.cells #[.slice A' L' C'] 74)).heap[w1.heap.size]? = some (.cells #[.string tag, .slice A N C] 44) ∧ Below w1.heap.size w1 (w2.alloc (.cells #[.slice A' L' C'] 74)))
    (hg : ((w2.alloc (.cells #[.slice A' L' C'] 74)).alloc x).grownBy w4 (Value.slice A N C).ownBlock) (hown : w4.ownsRow (w1.heap.size + 1) 74 1 (.slice A4 N4 C4) (acc.length + 1) (vals ++ [.slice A' L' C'])) (hw : w1.heap.size + 1 ≤ wr.heap.size) : Stp w1 w4 w1.heap.size tag (.slice A4 N4 C4) (vals ++ [.slice A' L' C']) (acc ++ [ps]) := by
  obtain ⟨hO, hb2, hrow2, hp0, hO3, hG3, hbb⟩ := hp
  have hb3 : Below w2.heap.size w2 ((w2.alloc (.cells #[.slice A' L' C'] 74)).alloc x) := ((Below.refl _ _).alloc (Nat.le_refl _) _).alloc (by simp) _
  have hs2 := hb2.size
  have hG4 : w4.heap[w1.heap.size]? = some (.cells #[.string tag, .slice A N C] 44) := by
    rw [hg.block w1.heap.size (by simp; omega) (row_lt hO.row (by omega)), Below.heap_alloc _ _ _ (by simp; omega)]
    exact hG3
  refine ⟨hO.push hw hb2 hrow2 hp0 hb3 hown hg, ⟨_, hG4⟩, (hbb.alloc (by simp; omega) _).grown hg (by simp; omega) (fun j hj => Nat.le_of_succ_le (row_base hO.row j hj)), by simp [World.frozen?, hG4], ⟨.slice A N C, by simp [World.cell?, hG4]⟩, (Array.getElem?_eq_some_iff.1 hG4).1⟩
/-- What segmentOf hands back. -/
def SgOut (n₀ : Nat) (W : World) (r : Int ⊕ Seg) (tag : ByteArray) (v : Value) (f : Int) : Prop :=
  match r with
  | .inl e => f = e ∧ tag = ⟨#[]⟩ ∧ v = .slice none 0 0
  | .inr g => f = -1 ∧ tag = g.1 ∧ OwnEs n₀ W v g.2
set_option maxRecDepth 20000 in
set_option maxHeartbeats 4000000 in
theorem segmentOf_any (a b c d : Int) (s : ByteArray) (w : World) (hr : rightB a b c d = true) (hs : s.size ≤ 20000) :
    Calls Try.prog 42 #[.agg #[.int .i64 a, .int .i64 b, .int .i64 c, .int .i64 d], .string s] w fun e w' => ∃ (tag : ByteArray) (v : Value) (f : Int), e = .returned (.tuple #[.agg #[.string tag, v], .int .i64 f]) ∧ SgOut w.heap.size w' (segR a b c d s) tag v f ∧ Below w.heap.size w w' := by
  have hcb : cutB a b c b = true := by simp [cutB]
  go_enter Try.func42, Try.ntmps42
  go_wp2_with fail
  refine (cut_right a b c d s b _ hr hs hcb).mono ?_
  rintro e w1 ⟨vp, rfl, hrow, hb1⟩
  rw [strs_pieces, show (cutZ b (upto s d s.size)).1.length + 1 = (piecesS d b s).length by simp [piecesS]] at hrow
  have hs1 : w.heap.size + 2 ≤ w1.heap.size := by have := hb1.size; simp at this; omega
  have sx1 : w1.heap[w.heap.size]? = some (.cells #[.int .i64 a, .int .i64 b, .int .i64 c, .int .i64 d] 24) := (hb1.block w.heap.size (by simp; omega)).trans ((Below.heap_alloc _ _ _ (by simp)).trans (World.alloc_heap_new w _))
  have rx1 : w1.heap[w.heap.size + 1]? = some (.cells #[.string ⟨#[]⟩, .slice none 0 0] 44) := (hb1.block (w.heap.size + 1) (by simp)).trans (heap_new2 w _ _)
  have hb1' : Below w.heap.size w w1 := (((Below.refl _ _).alloc (Nat.le_refl _) _).alloc (by simp) _).trans (hb1.mono (by simp; omega))
  have hpl := pieces_len d b s
  have hpp := pieces_pos d b s
  rcases hrow.2 with ⟨rfl, h0⟩ | ⟨g, cap, cur, rfl, hg, hgb, hcp, _⟩
  · omega
  have hcell : ∀ (j : Nat) (p : ByteArray), (piecesS d b s)[j]? = some p → w1.cell? ⟨g, j, none⟩ = some (.string p) := fun j p hj => by
    have h := hrow.cells (g := g) rfl j (.string p) (by simp [hj])
    have e : (⟨g, 0, none⟩ : Addr).add j = ⟨g, j, none⟩ := by unfold Addr.add; split <;> simp_all
    rwa [e] at h
  have hglt := (Array.getElem?_eq_some_iff.1 hgb).1
  have H1 : Hid (Below w.heap.size w w1 ∧ w1.heap[w.heap.size]? = some (.cells #[.int .i64 a, .int .i64 b, .int .i64 c, .int .i64 d] 24) ∧ w1.heap[w.heap.size + 1]? = some (.cells #[.string ⟨#[]⟩, .slice none 0 0] 44) ∧ (∀ (j : Nat) (p : ByteArray), (piecesS d b s)[j]? = some p → w1.cell? ⟨g, j, none⟩ = some (.string p))) := ⟨hb1', sx1, rx1, hcell⟩
  clear hrow hgb hcell hb1 hb1' sx1 rx1 hg
  have hsz := pieces_size d b s
  obtain ⟨L, hL⟩ : ∃ L, L = piecesS d b s := ⟨_, rfl⟩
  have hEl : segR a b c d s = if tagB (L[0]?.getD (⟨#[]⟩ : ByteArray)) = true then (match sgScan a b c d (L.drop 1) 0 ((L[0]?.getD (⟨#[]⟩ : ByteArray)).size + 1) [] with | .inl e => .inl e | .inr es => if blankB es = true then .inl s.size else .inr (L[0]?.getD (⟨#[]⟩ : ByteArray), es)) else .inl 0 := by rw [hL]; rfl
  rw [← hL] at H1 hpl hpp hsz hcp ⊢
  obtain ⟨tag, htag⟩ : ∃ tag, L[0]? = some tag := ⟨_, List.getElem?_eq_getElem hpp⟩
  rw [htag, Option.getD_some] at hEl
  have HE : Hid (segR a b c d s = (if tagB tag = true then (match sgScan a b c d (L.drop 1) 0 (tag.size + 1) [] with | .inl e => .inl e | .inr es => if blankB es = true then .inl s.size else .inr (tag, es)) else .inl 0)) := hEl
  have HZ : Hid (∀ p ∈ L, p.size ≤ s.size) := hsz
  have hts := hsz tag (List.mem_of_getElem? htag)
  have hc0 := H1.out.2.2.2 0 tag htag
  have hpp' : (0 : Int) < (L.length : Int) := by omega
  clear hEl hL hsz
  go_wp2_with fail
  refine (isTag_any tag _).mono ?_
  rintro e w2 ⟨rfl, rfl⟩
  have hbG : Below w1.heap.size w1 (w1.alloc (.cells #[.string tag, .slice none 0 0] 44)) := (Below.refl _ _).alloc (Nat.le_refl _) _
  cases hT : tagB tag
  · have HN : Hid (segR a b c d s = .inl 0) := by
      show segR a b c d s = .inl 0
      rw [HE.out, hT]
      rfl
    have rx := (hbG.block (w.heap.size + 1) (by omega)).trans H1.out.2.2.1
    have c1 : (w1.alloc (.cells #[.string tag, .slice none 0 0] 44)).cell? ⟨w.heap.size + 1, 0, none⟩ = some (.string ⟨#[]⟩) := by simp [World.cell?, rx]
    have c2 : (w1.alloc (.cells #[.string tag, .slice none 0 0] 44)).cell? ⟨w.heap.size + 1, 1, none⟩ = some (.slice none 0 0) := by simp [World.cell?, rx]
    have z1 : ∀ o, (w1.alloc (.cells #[.string tag, .slice none 0 0] 44)).frozen? ⟨w.heap.size + 1, o, none⟩ = false := fun o => by simp [World.frozen?, rx]
    clear rx
    go_wp2
    exact bodyPost_ret (v := .tuple #[.agg #[.string ⟨#[]⟩, .slice none 0 0], .int .i64 (0)]) (by simp [results, Try.results42, go_sem, c1, c2]) rfl ⟨_, _, _, rfl, by rw [HN.out]; exact ⟨rfl, rfl, rfl⟩, ((H1.out.1.trans (hbG.mono (by omega))).setCell (show w.heap.size ≤ w.heap.size + 1 by omega) _).setCell (show w.heap.size ≤ w.heap.size + 1 by omega) _⟩
  · by_cases hcap : cap = 1
    · subst hcap
      go_wp2_with fail
      have hGn := World.alloc_heap_new w1 (.cells #[.string tag, .slice none 0 0] 44)
      go_loopw [8, 34] (fun x i wr => ∃ (k y : Nat) (acc : List (List ByteArray)) (v : Value) (vals : List Value), x = .int .i64 (y : Int) ∧ i = .int .i64 (k : Int) ∧ k ≤ L.length - 1 ∧ acc.length = k ∧ k ≤ 10 ∧ y ≤ 20001 * (k + 1) ∧ BdX acc ∧ sgScan a b c d (L.drop 1) 0 (tag.size + 1) [] = sgScan a b c d (L.drop (k + 1)) k y acc ∧ wr.heap[w1.heap.size]? = some (.cells #[.string tag, v] 44) ∧ OwnV (w1.heap.size + 1) wr v vals acc ∧ Below w1.heap.size w1 wr) (fun _ i _ => L.length - 1 - (intOf i).toNat)
      case atStart => exact ⟨0, tag.size + 1, [], .slice none 0 0, [], by go_num, rfl, by omega, rfl, by omega, by omega, fun e he => by simp at he, rfl, hGn, ⟨rfl, World.ownsRow_nil _ _ _ _, fun i u e hu => by simp at hu, fun i j u x _ hu => by simp at hu⟩, hbG⟩
      case round =>
        obtain ⟨k, y, acc, v, vals, rfl, rfl, hk, hac, hk10, hyk, hX, hsc, hG, hO, hb⟩ := hrel
        have hwr := hb.size
        have hGlt := (Array.getElem?_eq_some_iff.1 hG).1
        have hbw : Below w.heap.size w wr := H1.out.1.trans (hb.mono (by omega))
        have sx := (hb.block w.heap.size (by omega)).trans H1.out.2.1
        have rx := (hb.block (w.heap.size + 1) (by omega)).trans H1.out.2.2.1
        by_cases hlt : k < L.length - 1
        · omega
        · skip
          obtain rfl : k = L.length - 1 := by omega
          have hlt' : ¬ ((L.length - 1 : Nat) : Int) < ((L.length - 1 : Nat) : Int) := by omega
          rw [show L.length - 1 + 1 = L.length by omega, List.drop_length] at hsc
          have hEl4 : segR a b c d s = if blankB acc = true then .inl (s.size : Int) else .inr (tag, acc) := by
            have := HE.out
            rw [hT, if_pos rfl, hsc] at this
            exact this
          obtain ⟨A, N, C, hv⟩ := row_slice hO.row
          subst hv
          have g0 : wr.cell? ⟨w1.heap.size, 0, none⟩ = some (.string tag) := by simp [World.cell?, hG]
          have g1 : wr.cell? ⟨w1.heap.size, 1, none⟩ = some (.slice A N C) := by simp [World.cell?, hG]
          have c1 : wr.cell? ⟨w.heap.size + 1, 0, none⟩ = some (.string ⟨#[]⟩) := by simp [World.cell?, rx]
          have c2 : wr.cell? ⟨w.heap.size + 1, 1, none⟩ = some (.slice none 0 0) := by simp [World.cell?, rx]
          have z1 : ∀ o, wr.frozen? ⟨w.heap.size + 1, o, none⟩ = false := fun o => by simp [World.frozen?, rx]
          have HR : Hid (OwnV (w1.heap.size + 1) wr (.slice A N C) vals acc ∧ Below w.heap.size w wr ∧ BdX acc) := ⟨hO, hbw, hX⟩
          clear hsc hO hb hbw sx hG rx hlt hX
          go_wp2_with fail
          refine (endsBlank_any _ acc _ (HR.out.1.rowE HR.out.2.2 (by omega)) (HR.out.2.2.bdE (by omega))).mono ?_
          rintro e w2 ⟨rfl, rfl⟩
          cases hend : blankB acc
          · have HN : Hid (segR a b c d s = .inr (tag, acc)) := by
              show segR a b c d s = .inr (tag, acc)
              rw [hEl4, hend]
              rfl
            clear hEl4
            go_wp2
            refine bodyPost_ret (v := .tuple #[.agg #[.string tag, .slice A N C], .int .i64 (-1)]) (by simp [results, Try.results42, go_sem, c1, c2]) rfl ⟨_, _, _, rfl, ?_, ((HR.out.2.1).setCell (show w.heap.size ≤ w.heap.size + 1 by omega) _).setCell (show w.heap.size ≤ w.heap.size + 1 by omega) _⟩
            rw [HN.out]
            exact ⟨rfl, rfl, vals, ((HR.out.1.set (by omega) _ _).set (by omega) _ _).mono (by omega)⟩
          · have HN : Hid (segR a b c d s = .inl (s.size : Int)) := by
              show segR a b c d s = .inl (s.size : Int)
              rw [hEl4, hend]
              rfl
            clear hEl4
            go_wp2
            exact bodyPost_ret (v := .tuple #[.agg #[.string ⟨#[]⟩, .slice none 0 0], .int .i64 (s.size : Int)]) (by simp [results, Try.results42, go_sem, c1, c2]) rfl ⟨_, _, _, rfl, by rw [HN.out]; exact ⟨rfl, rfl, rfl⟩, ((HR.out.2.1).setCell (show w.heap.size ≤ w.heap.size + 1 by omega) _).setCell (show w.heap.size ≤ w.heap.size + 1 by omega) _⟩
    · go_wp2_with fail
      have hGn := World.alloc_heap_new w1 (.cells #[.string tag, .slice none 0 0] 44)
      go_loopw [8, 34] (fun x i wr => ∃ (k y : Nat) (acc : List (List ByteArray)) (v : Value) (vals : List Value), x = .int .i64 (y : Int) ∧ i = .int .i64 (k : Int) ∧ k ≤ L.length - 1 ∧ acc.length = k ∧ k ≤ 10 ∧ y ≤ 20001 * (k + 1) ∧ BdX acc ∧ sgScan a b c d (L.drop 1) 0 (tag.size + 1) [] = sgScan a b c d (L.drop (k + 1)) k y acc ∧ wr.heap[w1.heap.size]? = some (.cells #[.string tag, v] 44) ∧ OwnV (w1.heap.size + 1) wr v vals acc ∧ Below w1.heap.size w1 wr) (fun _ i _ => L.length - 1 - (intOf i).toNat)
      case atStart => exact ⟨0, tag.size + 1, [], .slice none 0 0, [], by go_num, rfl, by omega, rfl, by omega, by omega, fun e he => by simp at he, rfl, hGn, ⟨rfl, World.ownsRow_nil _ _ _ _, fun i u e hu => by simp at hu, fun i j u x _ hu => by simp at hu⟩, hbG⟩
      case round =>
        obtain ⟨k, y, acc, v, vals, rfl, rfl, hk, hac, hk10, hyk, hX, hsc, hG, hO, hb⟩ := hrel
        have hwr := hb.size
        have hGlt := (Array.getElem?_eq_some_iff.1 hG).1
        have hbw : Below w.heap.size w wr := H1.out.1.trans (hb.mono (by omega))
        have sx := (hb.block w.heap.size (by omega)).trans H1.out.2.1
        have rx := (hb.block (w.heap.size + 1) (by omega)).trans H1.out.2.2.1
        by_cases hlt : k < L.length - 1
        · have hlt' : (k : Int) < ((L.length - 1 : Nat) : Int) := by omega
          obtain ⟨p, hp⟩ : ∃ p, L[k + 1]? = some p := ⟨_, List.getElem?_eq_getElem (by omega)⟩
          have hps := HZ.out p (List.mem_of_getElem? hp)
          have hck : wr.cell? ⟨g, 1 + k, none⟩ = some (.string p) := by
            rw [Nat.add_comm 1 k]
            exact (hb.cell (p := ⟨g, k + 1, none⟩) hglt).trans (H1.out.2.2.2 (k + 1) p hp)
          have hdr : L.drop (k + 1) = p :: L.drop (k + 1 + 1) := by
            rw [List.drop_eq_getElem_cons (show k + 1 < L.length by omega)]
            rw [List.getElem?_eq_getElem (show k + 1 < L.length by omega)] at hp
            rw [Option.some.inj hp]
          rw [hdr] at hsc
          have hseg : segR a b c d s = (match sgScan a b c d (p :: L.drop (k + 1 + 1)) k y acc with | .inl e => .inl e | .inr es => if blankB es = true then .inl s.size else .inr (tag, es)) := by
            rw [HE.out, hT, if_pos rfl, hsc]
          by_cases h10 : k = 10
          · have d10 : ((k : Int) == 10) = true := by rw [beq_iff_eq]; omega
            have HN : Hid (segR a b c d s = .inl (y : Int)) := by
              have h1 : sgScan a b c d (p :: L.drop (k + 1 + 1)) k y acc = .inl (y : Int) := by simp only [sgScan]; rw [if_pos h10]
              show segR a b c d s = .inl (y : Int)
              rw [hseg, h1]
            have c1 : wr.cell? ⟨w.heap.size + 1, 0, none⟩ = some (.string ⟨#[]⟩) := by simp [World.cell?, rx]
            have c2 : wr.cell? ⟨w.heap.size + 1, 1, none⟩ = some (.slice none 0 0) := by simp [World.cell?, rx]
            have z1 : ∀ o, wr.frozen? ⟨w.heap.size + 1, o, none⟩ = false := fun o => by simp [World.frozen?, rx]
            have HBw : Hid (Below w.heap.size w wr) := hbw
            clear hseg hsc hdr hO hb hbw rx sx hG h10
            go_wp2
            exact bodyPost_ret (v := .tuple #[.agg #[.string ⟨#[]⟩, .slice none 0 0], .int .i64 ((y : Int))]) (by simp [results, Try.results42, go_sem, c1, c2]) rfl ⟨_, _, _, rfl, by rw [HN.out]; exact ⟨rfl, rfl, rfl⟩, ((HBw.out).setCell (show w.heap.size ≤ w.heap.size + 1 by omega) _).setCell (show w.heap.size ≤ w.heap.size + 1 by omega) _⟩
          · have d10 : ((k : Int) == 10) = false := by rw [beq_eq_false_iff_ne]; omega
            have x0 : wr.cell? ⟨w.heap.size, 0, none⟩ = some (.int .i64 a) := by simp [World.cell?, sx]
            have x1 : wr.cell? ⟨w.heap.size, 1, none⟩ = some (.int .i64 b) := by simp [World.cell?, sx]
            have x2 : wr.cell? ⟨w.heap.size, 2, none⟩ = some (.int .i64 c) := by simp [World.cell?, sx]
            have x3 : wr.cell? ⟨w.heap.size, 3, none⟩ = some (.int .i64 d) := by simp [World.cell?, sx]
            have HS : Hid (segR a b c d s = (match sgScan a b c d (p :: L.drop (k + 1 + 1)) k y acc with | .inl e => .inl e | .inr es => if blankB es = true then .inl s.size else .inr (tag, es)) ∧ sgScan a b c d (L.drop 1) 0 (tag.size + 1) [] = sgScan a b c d (p :: L.drop (k + 1 + 1)) k y acc ∧ wr.heap[w1.heap.size]? = some (.cells #[.string tag, v] 44) ∧ OwnV (w1.heap.size + 1) wr v vals acc ∧ Below w1.heap.size w1 wr ∧ Below w.heap.size w wr ∧ wr.heap[w.heap.size + 1]? = some (.cells #[.string ⟨#[]⟩, .slice none 0 0] 44)) := ⟨hseg, hsc, hG, hO, hb, hbw, rx⟩
            have H10 : Hid (k ≠ 10) := h10
            clear hseg hsc hG hO hb hbw rx sx hdr h10
            go_wp2_with fail
            refine (elementOf_any a b c d p _ hr (by omega)).mono ?_
            rintro e w2 ⟨v2, f, rfl, hel, hb2⟩
            have hw2 := hb2.size
            cases her : elemR a b c d p with
            | inl e0 =>
              rw [her] at hel
              obtain ⟨rfl, rfl⟩ := hel
              have hbd := elemR_bd her (by omega)
              have HN : Hid (segR a b c d s = .inl ((y : Int) + f)) := by
                have h1 : sgScan a b c d (p :: L.drop (k + 1 + 1)) k y acc = .inl ((y : Int) + f) := by simp only [sgScan]; rw [if_neg H10.out, her]
                show segR a b c d s = .inl ((y : Int) + f)
                rw [HS.out.1, h1]
              have rx2 := (hb2.block (w.heap.size + 1) (by omega)).trans HS.out.2.2.2.2.2.2
              have hbE : Below w2.heap.size w2 (w2.alloc (.cells #[.slice none 0 0] 74)) := (Below.refl _ _).alloc (Nat.le_refl _) _
              have rx3 := (hbE.block (w.heap.size + 1) (by omega)).trans rx2
              have c1 : (w2.alloc (.cells #[.slice none 0 0] 74)).cell? ⟨w.heap.size + 1, 0, none⟩ = some (.string ⟨#[]⟩) := by simp [World.cell?, rx3]
              have c2 : (w2.alloc (.cells #[.slice none 0 0] 74)).cell? ⟨w.heap.size + 1, 1, none⟩ = some (.slice none 0 0) := by simp [World.cell?, rx3]
              have z1 : ∀ o, (w2.alloc (.cells #[.slice none 0 0] 74)).frozen? ⟨w.heap.size + 1, o, none⟩ = false := fun o => by simp [World.frozen?, rx3]
              have HBw : Hid (Below w.heap.size w (w2.alloc (.cells #[.slice none 0 0] 74))) := (HS.out.2.2.2.2.2.1.trans (hb2.mono (by omega))).trans (hbE.mono (by omega))
              have hf0 : 0 ≤ f := hbd.1
              have hf1 : f ≤ 80004 := hbd.2
              clear rx2 rx3 hbE her hb2 hbd
              go_wp2
              exact bodyPost_ret (v := .tuple #[.agg #[.string ⟨#[]⟩, .slice none 0 0], .int .i64 ((y : Int) + f)]) (by simp [results, Try.results42, go_sem, c1, c2]) rfl ⟨_, _, _, rfl, by rw [HN.out]; exact ⟨rfl, rfl, rfl⟩, ((HBw.out).setCell (show w.heap.size ≤ w.heap.size + 1 by omega) _).setCell (show w.heap.size ≤ w.heap.size + 1 by omega) _⟩
            | inr ps =>
              rw [her] at hel
              obtain ⟨rfl, hrow2⟩ := hel
              obtain ⟨hp0, hp4, hp40⟩ := elemR_facts her
              obtain ⟨A', L', C', hv'⟩ : ∃ A' L' C', v2 = .slice A' L' C' := by
                rcases hrow2.2 with ⟨rfl, _⟩ | ⟨g, cap, cur, rfl, _⟩
                · exact ⟨_, _, _, rfl⟩
                · exact ⟨_, _, _, rfl⟩
              subst hv'
              have hO := HS.out.2.2.2.1
              have hG2 := (hb2.block w1.heap.size (by omega)).trans HS.out.2.2.1
              have hbE : Below w2.heap.size w2 (w2.alloc (.cells #[.slice A' L' C'] 74)) := (Below.refl _ _).alloc (Nat.le_refl _) _
              have hG3 := (hbE.block w1.heap.size (by omega)).trans hG2
              obtain ⟨A, N, C, hv⟩ : ∃ A N C, v = .slice A N C := by
                rcases hO.row.2 with ⟨rfl, _⟩ | ⟨g, cap, cur, rfl, _⟩
                · exact ⟨_, _, _, rfl⟩
                · exact ⟨_, _, _, rfl⟩
              subst hv
              have c1 : (w2.alloc (.cells #[.slice A' L' C'] 74)).cell? ⟨w1.heap.size, 1, none⟩ = some (.slice A N C) := by simp [World.cell?, hG3]
              obtain ⟨j0, hj, hy0, hy1, hy2⟩ := info_parts infoElm
              have hmx : acc.length + 1 ≤ maxLen := by unfold maxLen; omega
              have hO3 := (hO.below hb2).below hbE
              have HK : Hid (sgScan a b c d (L.drop 1) 0 (tag.size + 1) [] = sgScan a b c d (L.drop (k + 1 + 1)) (k + 1) ((y : Int) + (p.size : Int) + 1) (acc ++ [ps]) ∧ BdX (acc ++ [ps])) := by
                refine ⟨?_, fun t ht => ?_⟩
                · rw [HS.out.2.1]
                  simp only [sgScan]
                  rw [if_neg H10.out, her]
                · rcases List.mem_append.1 ht with h | h
                  · exact hX t h
                  · simp only [List.mem_cons, List.not_mem_nil, or_false] at h
                    rw [h]
                    exact ⟨hp4, hp40⟩
              have HP : Hid (OwnV (w1.heap.size + 1) wr (.slice A N C) vals acc ∧ Below wr.heap.size wr w2 ∧ w2.ownsRow wr.heap.size 9 1 (.slice A' L' C') ps.length (ps.map Value.string) ∧ 0 < ps.length ∧ OwnV (w1.heap.size + 1) (w2.alloc (.cells #[.slice A' L' C'] 74)) (.slice A N C) vals acc ∧ (w2.alloc (.cells #[.slice A' L' C'] 74)).heap[w1.heap.size]? = some (.cells #[.string tag, .slice A N C] 44) ∧ Below w1.heap.size w1 (w2.alloc (.cells #[.slice A' L' C'] 74))) := ⟨hO, hb2, hrow2, hp0, hO3, hG3, ((HS.out.2.2.2.2.1).trans (hb2.mono (by omega))).trans (hbE.mono (by omega))⟩
              have k10 := H10.out
              have H10' : Hid (k + 1 ≤ 10) := by show k + 1 ≤ 10; omega
              have tok1 : True := trivial
              clear hO3 hG3 hbE hG2 hrow2 hb2 hO her hX k10
              go_wp2_with (at_builtin; have _t := tok1; refine wpList_append_own _ rfl _ _ 42 rfl (w1.heap.size + 1) 74 j0 (.agg #[.slice none 0 0]) 1 24 Try.underlying42 hj hy0 hy1 hy2 rfl (by decide) _ _ _ rfl (HP.out.2.2.2.2.1.row.alloc _) ⟨_, 0, none⟩ 1 1 [.slice A' L' C'] rfl rfl (cell_one_at _ _ _ _ (by simp)) (by simp [Value.oneCell']) hmx (by omega) (by simp; omega) ?_; intro u' w4 hown' hgrow _; obtain ⟨A4, N4, C4, hu'⟩ := row_slice hown'; subst hu'; have HQ : Hid (Stp w1 w4 (w1.heap.size) tag (.slice A4 N4 C4) (vals ++ [.slice A' L' C']) (acc ++ [ps])) := (stp HP.out hgrow hown' (by omega)); have z4 := HQ.out.z; have hw4 := HQ.out.sz; obtain ⟨uc, hcu⟩ := HQ.out.cell; clear tok1 hown' hgrow)
              go_roundw
              case rel =>
                obtain ⟨uu, hbx⟩ := HQ.out.box
                exact ⟨k + 1, y + p.size + 1, acc ++ [ps], .slice A4 N4 C4, vals ++ [.slice A' L' C'], by go_num, by go_num, by omega, by simp; omega, H10'.out, by omega, HK.out.2, by rw [HK.out.1]; congr 1, heap_setCell_same _ _ _ _ _ _ hbx, HQ.out.own.set (by omega) _ _, HQ.out.below.setCell (Nat.le_refl _) _⟩
              case measure => simp [intOf]; omega
        · skip
          obtain rfl : k = L.length - 1 := by omega
          have hlt' : ¬ ((L.length - 1 : Nat) : Int) < ((L.length - 1 : Nat) : Int) := by omega
          rw [show L.length - 1 + 1 = L.length by omega, List.drop_length] at hsc
          have hEl4 : segR a b c d s = if blankB acc = true then .inl (s.size : Int) else .inr (tag, acc) := by
            have := HE.out
            rw [hT, if_pos rfl, hsc] at this
            exact this
          obtain ⟨A, N, C, hv⟩ := row_slice hO.row
          subst hv
          have g0 : wr.cell? ⟨w1.heap.size, 0, none⟩ = some (.string tag) := by simp [World.cell?, hG]
          have g1 : wr.cell? ⟨w1.heap.size, 1, none⟩ = some (.slice A N C) := by simp [World.cell?, hG]
          have c1 : wr.cell? ⟨w.heap.size + 1, 0, none⟩ = some (.string ⟨#[]⟩) := by simp [World.cell?, rx]
          have c2 : wr.cell? ⟨w.heap.size + 1, 1, none⟩ = some (.slice none 0 0) := by simp [World.cell?, rx]
          have z1 : ∀ o, wr.frozen? ⟨w.heap.size + 1, o, none⟩ = false := fun o => by simp [World.frozen?, rx]
          have HR : Hid (OwnV (w1.heap.size + 1) wr (.slice A N C) vals acc ∧ Below w.heap.size w wr ∧ BdX acc) := ⟨hO, hbw, hX⟩
          clear hsc hO hb hbw sx hG rx hlt hX
          go_wp2_with fail
          refine (endsBlank_any _ acc _ (HR.out.1.rowE HR.out.2.2 (by omega)) (HR.out.2.2.bdE (by omega))).mono ?_
          rintro e w2 ⟨rfl, rfl⟩
          cases hend : blankB acc
          · have HN : Hid (segR a b c d s = .inr (tag, acc)) := by
              show segR a b c d s = .inr (tag, acc)
              rw [hEl4, hend]
              rfl
            clear hEl4
            go_wp2
            refine bodyPost_ret (v := .tuple #[.agg #[.string tag, .slice A N C], .int .i64 (-1)]) (by simp [results, Try.results42, go_sem, c1, c2]) rfl ⟨_, _, _, rfl, ?_, ((HR.out.2.1).setCell (show w.heap.size ≤ w.heap.size + 1 by omega) _).setCell (show w.heap.size ≤ w.heap.size + 1 by omega) _⟩
            rw [HN.out]
            exact ⟨rfl, rfl, vals, ((HR.out.1.set (by omega) _ _).set (by omega) _ _).mono (by omega)⟩
          · have HN : Hid (segR a b c d s = .inl (s.size : Int)) := by
              show segR a b c d s = .inl (s.size : Int)
              rw [hEl4, hend]
              rfl
            clear hEl4
            go_wp2
            exact bodyPost_ret (v := .tuple #[.agg #[.string ⟨#[]⟩, .slice none 0 0], .int .i64 (s.size : Int)]) (by simp [results, Try.results42, go_sem, c1, c2]) rfl ⟨_, _, _, rfl, by rw [HN.out]; exact ⟨rfl, rfl, rfl⟩, ((HR.out.2.1).setCell (show w.heap.size ≤ w.heap.size + 1 by omega) _).setCell (show w.heap.size ≤ w.heap.size + 1 by omega) _⟩
end Go.Proofs.Ytbdjaohfnbnacaa
