/- What it is that a value is a book, in a world. -/
import Derived.Test.YtiaclnldeimbhaaRowSt
import Derived.Test.YtiaclnldeimbhaaRowOl
namespace Go.Proofs.Ytiaclnldeimbhaa
open Go.ChangeShapes Go.WideShapes Go.ChangeAt Go.RowKit
/-- A Book. -/
structure Bk where
  stocks : List Stk
  lines : List OLn
/-- What stands behind its two cells. -/
structure RBk (W : World) (us ul : Value) (b : Bk) : Prop where
  st : RowSt W us b.stocks
  ln : RowOl W ul b.lines
theorem RBk.below {W W' : World} {us ul : Value} {b : Bk} (h : RBk W us ul b) (hb : Below W.heap.size W W') : RBk W' us ul b := ⟨h.st.below hb, h.ln.below hb⟩
def BdBk (n : Nat) (b : Bk) : Prop := BdSt n b.stocks ∧ BdOl n b.lines
theorem BdBk.mono {m n : Nat} {b : Bk} (h : BdBk m b) (hmn : m ≤ n) : BdBk n b := ⟨BdSt.mono h.1 hmn, BdOl.mono h.2 hmn⟩
theorem RBk.val {W : World} {us ul : Value} {b : Bk} (h : RBk W us ul b) : ∃ a c a' c', us = .slice a b.stocks.length c ∧ ul = .slice a' b.lines.length c' := by
  obtain ⟨a, c, e⟩ := h.st.val
  obtain ⟨a', c', e'⟩ := h.ln.val
  exact ⟨a, c, a', c', e, e'⟩
theorem box2 {W : World} {b t : Nat} {x0 x1 : Value} (h : W.heap[b]? = some (.cells #[x0, x1] t)) : W.cell? ⟨b, 0, none⟩ = some x0 ∧ W.cell? ⟨b, 1, none⟩ = some x1 := by
  refine ⟨?_, ?_⟩ <;> simp [World.cell?, h]
theorem frz2 {W : World} {b t : Nat} {x0 x1 : Value} (h : W.heap[b]? = some (.cells #[x0, x1] t)) : ∀ o, W.frozen? ⟨b, o, none⟩ = false := fun o => by simp [World.frozen?, h]
theorem set2a {W : World} {b t : Nat} {x0 x1 : Value} (y : Value) (h : W.heap[b]? = some (.cells #[x0, x1] t)) : (W.setCell ⟨b, 0, none⟩ y).heap[b]? = some (.cells #[y, x1] t) := by
  simp [World.setCell, Array.getElem?_modify, h]
theorem set2b {W : World} {b t : Nat} {x0 x1 : Value} (y : Value) (h : W.heap[b]? = some (.cells #[x0, x1] t)) : (W.setCell ⟨b, 1, none⟩ y).heap[b]? = some (.cells #[x0, y] t) := by
  simp [World.setCell, Array.getElem?_modify, h]
theorem setNe {W : World} {b c i : Nat} (y : Value) (h : b ≠ c) : (W.setCell ⟨c, i, none⟩ y).heap[b]? = W.heap[b]? := by
  simp [World.setCell, Array.getElem?_modify]
  intro e
  omega
end Go.Proofs.Ytiaclnldeimbhaa
