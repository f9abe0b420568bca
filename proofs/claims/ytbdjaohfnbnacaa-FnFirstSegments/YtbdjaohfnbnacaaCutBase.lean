/- Contract of impl.CutAt: at every four numbers, every text and every number it hands back a list of its own with the pieces that cutP tells, or none; it writes nothing that was there. -/
import Derived.Test.YtbdjaohfnbnacaaColl
import Derived.Test.YtbdjaohfnbnacaaRight
namespace Go.Proofs.Ytbdjaohfnbnacaa
open Go.ChangeShapes Go.WideShapes Go.ChangeAt Go.RowKit Go.Shelf
attribute [local go_sem] Oper.semAt_some
/-- One byte more: it cuts, or it is joined to the piece at hand. -/
def cutS (y : Int) (z : List (List Int) × List Int) (x : UInt8 × Bool) : List (List Int) × List Int := if (!x.2 && ((x.1.toNat : Int) == y)) = true then (z.1 ++ [z.2], []) else (z.1, z.2 ++ [(x.1.toNat : Int)])
def cutZ (y : Int) (pre : List (UInt8 × Bool)) : List (List Int) × List Int := pre.foldl (cutS y) ([], [])
theorem cutZ_snoc (y : Int) (pre : List (UInt8 × Bool)) (x : UInt8 × Bool) : cutZ y (pre ++ [x]) = cutS y (cutZ y pre) x := by simp [cutZ]
theorem cutZ_len (y : Int) (pre : List (UInt8 × Bool)) : (cutZ y pre).1.length ≤ pre.length ∧ (cutZ y pre).2.length ≤ pre.length := by
  unfold cutZ
  have h : ∀ (l : List (UInt8 × Bool)) (z : List (List Int) × List Int), (l.foldl (cutS y) z).1.length ≤ z.1.length + l.length ∧ (l.foldl (cutS y) z).2.length ≤ z.2.length + l.length := by
    intro l
    induction l with
    | nil => intro z; simp
    | cons x t ih =>
      intro z
      have := ih (cutS y z x)
      simp only [List.foldl_cons, List.length_cons]
      have h1 : (cutS y z x).1.length ≤ z.1.length + 1 ∧ (cutS y z x).2.length ≤ z.2.length + 1 := by
        unfold cutS
        split <;> simp
      omega
  have := h pre ([], [])
  simpa using this
def strs (ps : List (List Int)) : List Value := ps.map fun l => Value.string (strOfNums l)
/-- What grows beside it keeps it. -/
theorem EI.grow {n₀ E : Nat} {L : List (Nat × Obj)} {w W w1 : World} {v : Value} {xs : List Int} {row : Option Nat} (h : EI n₀ E L w W v xs) (hg : W.grownBy w1 row) (hL : ∀ p ∈ L, some p.1 ≠ row) (hE : some E ≠ row) (hv : v.ownBlock = none ∨ v.ownBlock ≠ row) (hr : ∀ k, row = some k → n₀ ≤ k) : EI n₀ E L w w1 v xs :=
  ⟨h.box.kept hg hE, h.row.kept hg hv, fun p hp => (hg.block p.1 (h.lt hp) (hL p hp)).trans (h.fix p hp), h.bel.grown hg h.sz hr, h.hn, h.cl, h.w0⟩
/-- Two rows of unlike elements lie apart. -/
theorem rows_apart {W : World} {n₀ n₁ e e' k k' : Nat} {v v' : Value} {xs xs' : List Value} (h : W.ownsRow n₀ e 1 v k xs) (h' : W.ownsRow n₁ e' 1 v' k' xs') (hne : e ≠ e') : v.ownBlock = none ∨ v.ownBlock ≠ v'.ownBlock := by
  rcases h.2 with ⟨rfl, _⟩ | ⟨g, cap, cur, rfl, _, hgb, _⟩
  · exact .inl rfl
  · refine .inr fun e1 => ?_
    rcases h'.2 with ⟨rfl, _⟩ | ⟨g', cap', cur', rfl, _, hgb', _⟩
    · simp [Value.ownBlock] at e1
    · obtain rfl : g = g' := by simpa [Value.ownBlock] using e1
      rw [hgb] at hgb'
      cases hgb'
      exact hne rfl
theorem row_not_obj {W : World} {n₀ e k : Nat} {v : Value} {xs : List Value} (h : W.ownsRow n₀ e 1 v k xs) {b : Nat} {c : Array Value} {t : TypeId} (hb : W.heap[b]? = some (.cells c t)) (hne : t ≠ e) : some b ≠ v.ownBlock := by
  intro e1
  rcases h.2 with ⟨rfl, _⟩ | ⟨g, cap, cur, rfl, _, hgb, _⟩
  · simp [Value.ownBlock] at e1
  · obtain rfl : b = g := by simpa [Value.ownBlock] using e1
    rw [hb] at hgb
    cases hgb
    exact hne rfl
theorem row_lt {W : World} {n₁ e k : Nat} {v : Value} {xs : List Value} (h : W.ownsRow n₁ e 1 v k xs) {b : Nat} (hb : b < n₁) : some b ≠ v.ownBlock := by
  intro e1
  rcases h.2 with ⟨rfl, _⟩ | ⟨g, cap, cur, rfl, hg, _⟩
  · simp [Value.ownBlock] at e1
  · obtain rfl : b = g := by simpa [Value.ownBlock] using e1
    omega
theorem row_base {W : World} {n₀ e k : Nat} {v : Value} {xs : List Value} (h : W.ownsRow n₀ e 1 v k xs) : ∀ j, v.ownBlock = some j → n₀ ≤ j := by
  intro j ej
  rcases h.2 with ⟨rfl, _⟩ | ⟨g, cap, cur, rfl, hb, _, _⟩
  · simp [Value.ownBlock] at ej
  · obtain rfl : g = j := by simpa [Value.ownBlock] using ej
    exact hb
/-- The loop of CutAt: the piece at hand in box Q, the pieces in box P. -/
structure CI (n₀ n₁ Q P : Nat) (L : List (Nat × Obj)) (w W : World) (v : Value) (xs : List Int) (u : Value) (ps : List (List Int)) : Prop where
  ei : EI n₀ Q ((P, .cells #[u] 72) :: L) w W v xs
  row : W.ownsRow n₁ 9 1 u ps.length (strs ps)
  cl : ∀ p ∈ L, p.1 ≠ P ∧ p.1 < n₁
  hP : n₀ ≤ P
  h1 : n₀ ≤ n₁
  hPn : P < n₁
  hQn : Q < n₁
theorem CI.boxP {n₀ n₁ Q P : Nat} {L : List (Nat × Obj)} {w W : World} {v u : Value} {xs : List Int} {ps : List (List Int)} (h : CI n₀ n₁ Q P L w W v xs u ps) : Boxed W P 72 u := h.ei.fix _ (List.mem_cons_self ..)
theorem CI.fixL {n₀ n₁ Q P : Nat} {L : List (Nat × Obj)} {w W : World} {v u : Value} {xs : List Int} {ps : List (List Int)} (h : CI n₀ n₁ Q P L w W v xs u ps) {p : Nat × Obj} (hp : p ∈ L) : W.heap[p.1]? = some p.2 := h.ei.fix p (List.mem_cons_of_mem _ hp)
/-- A byte is joined to the piece. -/
theorem CI.app {n₀ n₁ Q P : Nat} {L : List (Nat × Obj)} {w W w1 : World} {v v' u : Value} {xs : List Int} {ps : List (List Int)} {x : Int} {tmp : Obj} (h : CI n₀ n₁ Q P L w W v xs u ps)
    (hown' : w1.ownsRow n₀ 5 1 v' (xs.length + 1) (xs.map (Value.int .u8) ++ [.int .u8 x])) (hgrow : (W.alloc tmp).grownBy w1 v.ownBlock) :
    Boxed w1 Q 22 v ∧ CI n₀ n₁ Q P L w (w1.setCell ⟨Q, 0, none⟩ v') v' (xs ++ [x]) u ps ∧ KeepsOthers W (w1.setCell ⟨Q, 0, none⟩ v') := by
  obtain ⟨hv1, hE, hk, hfx⟩ := h.ei.app hown' hgrow
  refine ⟨hv1, ⟨hE, ?_, h.cl, h.hP, h.h1, h.hPn, h.hQn⟩, hk⟩
  have r0 : (W.alloc tmp).ownsRow n₁ 9 1 u ps.length (strs ps) := h.row.alloc _
  have r1 : w1.ownsRow n₁ 9 1 u ps.length (strs ps) := r0.kept hgrow (rows_apart r0 (h.ei.row.alloc _) (by decide))
  exact r1.kept (grownBy_setCell' w1 Q v') (.inr (row_lt r1 h.hQn).symm)
/-- The piece is done: it stands behind the others. -/
theorem CI.done {n₀ n₁ Q P : Nat} {L : List (Nat × Obj)} {w W w1 : World} {v u u' : Value} {xs : List Int} {ps : List (List Int)} {tmp : Obj} (h : CI n₀ n₁ Q P L w W v xs u ps)
    (hown' : w1.ownsRow n₁ 9 1 u' (ps.length + 1) (strs ps ++ [.string (strOfNums xs)])) (hgrow : (W.alloc tmp).grownBy w1 u.ownBlock) :
    Boxed w1 P 72 u ∧ Boxed w1 Q 22 v ∧ CI n₀ n₁ Q P L w (w1.setCell ⟨P, 0, none⟩ u') v xs u' (ps ++ [xs]) ∧ KeepsOthers W (w1.setCell ⟨P, 0, none⟩ u') := by
  have e0 := h.ei.below ((Below.refl _ _).alloc (Nat.le_refl _) tmp)
  have r0 : (W.alloc tmp).ownsRow n₁ 9 1 u ps.length (strs ps) := h.row.alloc _
  have e1 : EI n₀ Q ((P, .cells #[u] 72) :: L) w w1 v xs := by
    refine e0.grow hgrow (fun p hp => ?_) (row_lt r0 h.hQn) (rows_apart e0.row r0 (by decide)) (fun k e => Nat.le_trans h.h1 (row_base r0 k e))
    rcases List.mem_cons.1 hp with rfl | hp
    · exact row_lt r0 h.hPn
    · exact row_lt r0 (h.cl p hp).2
  have bP : Boxed w1 P 72 u := e1.fix _ (List.mem_cons_self ..)
  have hPQ : P ≠ Q := (h.ei.cl _ (List.mem_cons_self ..)).2
  obtain ⟨e2, k2⟩ := e1.setL (L' := (P, .cells #[u'] 72) :: L) P 72 u u' h.hP hPQ (by decide) bP (fun p hp => by
    rcases List.mem_cons.1 hp with rfl | hp
    · exact .inl rfl
    · exact .inr ⟨List.mem_cons_of_mem _ hp, (h.cl p hp).1⟩)
  refine ⟨bP, e1.box, ⟨e2, ?_, h.cl, h.hP, h.h1, h.hPn, h.hQn⟩, ?_⟩
  · have := hown'.kept (grownBy_setCell' w1 P u') (.inr (row_lt hown' h.hPn).symm)
    simpa [strs] using this
  · refine ((KeepsOthers.alloc W tmp).trans (KeepsOthers.of_grownBy hgrow fun j o ej hj => ?_)).trans k2
    rcases r0.2 with ⟨rfl, _⟩ | ⟨g, cap, cur, rfl, _, hgb, _⟩
    · simp [Value.ownBlock] at ej
    · obtain rfl : g = j := by simpa [Value.ownBlock] using ej
      rw [hgb] at hj
      cases hj
      rfl
/-- The piece is cut back to nothing. -/
theorem CI.back {n₀ n₁ Q P : Nat} {L : List (Nat × Obj)} {w W : World} {v v0 u : Value} {xs : List Int} {ps : List (List Int)} (h : CI n₀ n₁ Q P L w W v xs u ps) (hrow : W.ownsRow n₀ 5 1 v0 0 []) :
    CI n₀ n₁ Q P L w (W.setCell ⟨Q, 0, none⟩ v0) v0 [] u ps ∧ KeepsOthers W (W.setCell ⟨Q, 0, none⟩ v0) := by
  have hb := h.ei.box
  refine ⟨⟨⟨hb.set v0, ?_, fun p hp => ?_, h.ei.bel.setCell h.ei.hn v0, h.ei.hn, h.ei.cl, h.ei.w0⟩, ?_, h.cl, h.hP, h.h1, h.hPn, h.hQn⟩, KeepsOthers.setCell _ _ _⟩
  · exact hrow.kept (grownBy_setCell' W Q v0) (.inr (row_not_obj hrow hb (by decide)).symm)
  · exact (Below.heap_setCell W ⟨Q, 0, none⟩ v0 p.1 (h.ei.cl p hp).2).trans (h.ei.fix p hp)
  · exact h.row.kept (grownBy_setCell' W Q v0) (.inr (row_lt h.row h.hQn).symm)
theorem CI.own {β : Type} {n₀ n₁ Q P B : Nat} {L : List (Nat × Obj)} {w : World} (f : β → List Int) (g : β → List (List Int)) (hB : n₀ ≤ B) : OwnFrom B (fun (s : β) W => ∃ v u, CI n₀ n₁ Q P L w W v (f s) u (g s)) := by
  rintro s W W' row ⟨v, u, h⟩ hg hr
  have hnc : ∀ {b : Nat} {c : Array Value} {t : TypeId}, W.heap[b]? = some (.cells c t) → some b ≠ row := by
    intro b c t hb e
    obtain ⟨_, o, ho, hc⟩ := hr b e.symm
    rw [hb] at ho
    cases ho
    simp [Obj.isCells] at hc
  have hrow : ∀ {m e k : Nat} {v : Value} {xs : List Value}, W.ownsRow m e 1 v k xs → v.ownBlock = none ∨ v.ownBlock ≠ row := by
    intro m e k v xs h
    rcases h.2 with ⟨rfl, _⟩ | ⟨g, cap, cur, rfl, _, hgb, _⟩
    · exact .inl rfl
    · exact .inr (fun e => hnc hgb (by simpa [Value.ownBlock] using e))
  refine ⟨v, u, h.ei.grow hg (fun p hp => ?_) (hnc h.ei.box) (hrow h.ei.row) (fun k e => Nat.le_trans hB (hr k e).1), h.row.kept hg (hrow h.row), h.cl, h.hP, h.h1, h.hPn, h.hQn⟩
  obtain ⟨⟨c, t, e1, _⟩, _⟩ := h.ei.cl p hp
  exact hnc (by rw [h.ei.fix p hp, e1])
end Go.Proofs.Ytbdjaohfnbnacaa
