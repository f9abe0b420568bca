/- Texts of ours put together: IxF. -/
import Derived.Test.YtjnikogaleofaaaDoorG32
namespace Go.Proofs.YtjnikogaleofaaaDoor
open Go.ChangeShapes Go.WideShapes Go.ChangeAt Go.RowKit
/-- The list, and boxes that are no rows of segments. -/
structure SX (w W : World) (bx : List (Nat × Obj)) (l : Value) (ps : List (Value × List Value)) (gs : List Seg) : Prop where
  own : OwnL w.heap.size W l ps gs
  bel : Below w.heap.size w W
  bs : ∀ q ∈ bx, W.heap[q.1]? = some q.2
  ok : ∀ q ∈ bx, ∃ c t, q.2 = .cells c t ∧ t ≠ 33
theorem SX.below {w W W' : World} {bx : List (Nat × Obj)} {l : Value} {ps : List (Value × List Value)} {gs : List Seg} (h : SX w W bx l ps gs) (hb : Below W.heap.size W W') : SX w W' bx l ps gs :=
  ⟨h.own.below hb, h.bel.trans (hb.mono h.bel.size), fun q hq => (hb.block _ (Array.getElem?_eq_some_iff.1 (h.bs q hq)).1).trans (h.bs q hq), h.ok⟩
theorem SX.box {w W : World} {bx : List (Nat × Obj)} {l : Value} {ps : List (Value × List Value)} {gs : List Seg} (h : SX w W bx l ps gs) (cs : Array Value) (t : Nat) (ht : t ≠ 33) : SX w (W.alloc (.cells cs t)) ((W.heap.size, .cells cs t) :: bx) l ps gs := by
  have h' := h.below ((Below.refl _ W).alloc (Nat.le_refl _) (.cells cs t))
  refine ⟨h'.own, h'.bel, fun q hq => ?_, fun q hq => ?_⟩
  · rcases List.mem_cons.1 hq with rfl | hq
    · exact World.alloc_heap_new W _
    · exact h'.bs q hq
  · rcases List.mem_cons.1 hq with rfl | hq
    · exact ⟨cs, t, rfl, ht⟩
    · exact h.ok q hq
theorem SX.less {w W : World} {q : Nat × Obj} {bx : List (Nat × Obj)} {l : Value} {ps : List (Value × List Value)} {gs : List Seg} (h : SX w W (q :: bx) l ps gs) : SX w W bx l ps gs :=
  ⟨h.own, h.bel, fun p hp => h.bs p (by simp [hp]), fun p hp => h.ok p (by simp [hp])⟩
theorem SX.cell {w W : World} {bx : List (Nat × Obj)} {l : Value} {ps : List (Value × List Value)} {gs : List Seg} (h : SX w W bx l ps gs) {b t i : Nat} {cs : Array Value} {v : Value} (hq : (b, Obj.cells cs t) ∈ bx) (hv : cs[i]? = some v) : W.cell? ⟨b, i, none⟩ = some v := by
  have := h.bs _ hq
  simp only at this
  simp [World.cell?, this, hv]
/-- An append of segments, at the list of a plain region's operations. -/
theorem wpList_sx {ops : Array Oper} {rest : List Oper} {o : Oper} {a : Act} {Q : Exit → Act → World → Prop} {w W W2 : World} {bx : List (Nat × Obj)} {lv mv : Value} {ps qs : List (Value × List Value)} {gs hs : List Seg} (hgd : o.guard = none) (s x : Operand)
    (ho : o.op = .call { callee := .builtin .append, args := #[s, x], argTypes := #[28, 28] })
    (hs' : a.eval s = lv) (hx : a.eval x = mv) (h : SX w W bx lv ps gs) (hb2 : Below W.heap.size W W2) (h2 : OwnL W.heap.size W2 mv qs hs) (hl : gs.length + hs.length ≤ 100000) (hpos : 0 < hs.length)
    (k : ∀ A C w4, SX w w4 bx (.slice A (gs.length + hs.length) C) (ps ++ qs) (gs ++ hs) → wpList Tryd.prog ops Q rest (a.put o.dst (.slice A (gs.length + hs.length) C)) w4) : wpList Tryd.prog ops Q (o :: rest) a W2 := by
  obtain ⟨i0, hi, hz0, hz1, hz2⟩ := info_parts infoSg
  obtain ⟨ad, c, e, hc⟩ := cells_of_own h2 hpos
  have h' := h.below hb2
  refine wpList_append_own W2 hgd s x 28 ho w.heap.size 33 i0 (.agg #[.string ⟨#[]⟩, .slice none 0 0]) 2 40 Tryd.underlying28 hi hz0 hz1 hz2 rfl (by decide) lv gs.length (cellsL gs ps) hs' h'.own.row ad hs.length c (cellsL hs qs) (by rw [hx, e]) (cellsL_len h2.len) hc (cellsL_oneCell h2) (by unfold maxLen; omega) (by omega) h'.bel.size ?_
  intro v' w4 hown hgrow _
  obtain ⟨A, C, hv⟩ : ∃ A C, v' = .slice A (gs.length + hs.length) C := by
    rcases hown.2 with ⟨rfl, h0⟩ | ⟨g, cap, cur, rfl, _⟩
    · exact ⟨none, 0, by rw [h0]⟩
    · exact ⟨_, _, rfl⟩
  subst hv
  refine k A C w4 ⟨h.own.app h.bel.size hb2 h2 hown hgrow, h'.bel.trans ⟨hgrow.os, hgrow.tape, hgrow.output, hgrow.size, fun q hq => hgrow.block q (by have := h'.bel.size; omega) (row2_ne h'.own.row hq).symm⟩, fun q hq => ?_, h.ok⟩
  have hq2 := h'.bs q hq
  obtain ⟨c, t, e2, hne⟩ := h.ok q hq
  rw [hgrow.block q.1 (Array.getElem?_eq_some_iff.1 hq2).1 ?_]
  · exact hq2
  · intro e3
    obtain ⟨_, _, c2, h3⟩ := row_at h'.own.row e3.symm
    rw [hq2, e2] at h3
    simp at h3
    exact hne h3.2
end Go.Proofs.YtjnikogaleofaaaDoor
