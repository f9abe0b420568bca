/- What it is that a value is a gate, in a world. -/
import Derived.Test.YtagajindaipaeaaRowPts
import Derived.Test.YtagajindaipaeaaRowCs
import Derived.Test.YtagajindaipaeaaRowBk
import Derived.Test.YtagajindaipaeaaRowDf
import Derived.Test.YtagajindaipaeaaRowOu
namespace Go.Proofs.Ytagajindaipaeaa
open Go.ChangeShapes Go.WideShapes Go.ChangeAt Go.RowKit
/-- A Gate. -/
structure Gat where
  name : ByteArray
  day : Int
  ptns : List Ptn
  crss : List Crs
  book : Bk
  dffs : List Dff
  outs : List OutR
/-- What stands behind its cells. -/
structure RGt (W : World) (up uc us ul ud uo : Value) (g : Gat) : Prop where
  nm : g.name.size ≤ 9223372036854775807
  pt : RowPt W up g.ptns
  cs : RowCs W uc g.crss
  bk : RBk W us ul g.book
  df : RowDf W ud g.dffs
  ou : RowOu W uo g.outs
theorem RGt.below {W W' : World} {up uc us ul ud uo : Value} {g : Gat} (h : RGt W up uc us ul ud uo g) (hb : Below W.heap.size W W') : RGt W' up uc us ul ud uo g := ⟨h.nm, h.pt.below hb, h.cs.below hb, h.bk.below hb, h.df.below hb, h.ou.below hb⟩
def BdGt (n : Nat) (g : Gat) : Prop := g.name.size ≤ n ∧ BdsPt n g.ptns ∧ BdCs n g.crss ∧ BdBk n g.book ∧ BdDf n g.dffs ∧ BdOu n g.outs
theorem RGt.val {W : World} {up uc us ul ud uo : Value} {g : Gat} (h : RGt W up uc us ul ud uo g) : ∃ a0 c0 a1 c1 a2 c2 a3 c3 a4 c4 a5 c5, up = (.slice a0 g.ptns.length c0) ∧ uc = (.slice a1 g.crss.length c1) ∧ us = (.slice a2 g.book.stocks.length c2) ∧ ul = (.slice a3 g.book.lines.length c3) ∧ ud = (.slice a4 g.dffs.length c4) ∧ uo = (.slice a5 g.outs.length c5) := by
  obtain ⟨a0, c0, e0⟩ := h.pt.val
  obtain ⟨a1, c1, e1⟩ := h.cs.val
  obtain ⟨a2, c2, a3, c3, e2, e3⟩ := h.bk.val
  obtain ⟨a4, c4, e4⟩ := h.df.val
  obtain ⟨a5, c5, e5⟩ := h.ou.val
  exact ⟨a0, c0, a1, c1, a2, c2, a3, c3, a4, c4, a5, c5, e0, e1, e2, e3, e4, e5⟩
theorem bx8 {W : World} {b t : Nat} {x0 x1 x2 x3 x4 x5 x6 x7 : Value} (h : W.heap[b]? = some (.cells #[x0, x1, x2, x3, x4, x5, x6, x7] t)) : W.cell? ⟨b, 0, none⟩ = some x0 ∧ W.cell? ⟨b, 1, none⟩ = some x1 ∧ W.cell? ⟨b, 2, none⟩ = some x2 ∧ W.cell? ⟨b, 3, none⟩ = some x3 ∧ W.cell? ⟨b, 4, none⟩ = some x4 ∧ W.cell? ⟨b, 5, none⟩ = some x5 ∧ W.cell? ⟨b, 6, none⟩ = some x6 ∧ W.cell? ⟨b, 7, none⟩ = some x7 := by
  refine ⟨?_, ?_, ?_, ?_, ?_, ?_, ?_, ?_⟩ <;> simp [World.cell?, h]
theorem fz8 {W : World} {b t : Nat} {cs : Array Value} (h : W.heap[b]? = some (.cells cs t)) : ∀ o, W.frozen? ⟨b, o, none⟩ = false := fun o => by simp [World.frozen?, h]
theorem st8_2 {W : World} {b t : Nat} {x0 x1 x2 x3 x4 x5 x6 x7 : Value} (y : Value) (h : W.heap[b]? = some (.cells #[x0, x1, x2, x3, x4, x5, x6, x7] t)) : (W.setCell ⟨b, 2, none⟩ y).heap[b]? = some (.cells #[x0, x1, y, x3, x4, x5, x6, x7] t) := by
  simp [World.setCell, Array.getElem?_modify, h]
theorem st8_3 {W : World} {b t : Nat} {x0 x1 x2 x3 x4 x5 x6 x7 : Value} (y : Value) (h : W.heap[b]? = some (.cells #[x0, x1, x2, x3, x4, x5, x6, x7] t)) : (W.setCell ⟨b, 3, none⟩ y).heap[b]? = some (.cells #[x0, x1, x2, y, x4, x5, x6, x7] t) := by
  simp [World.setCell, Array.getElem?_modify, h]
theorem st8_4 {W : World} {b t : Nat} {x0 x1 x2 x3 x4 x5 x6 x7 : Value} (y : Value) (h : W.heap[b]? = some (.cells #[x0, x1, x2, x3, x4, x5, x6, x7] t)) : (W.setCell ⟨b, 4, none⟩ y).heap[b]? = some (.cells #[x0, x1, x2, x3, y, x5, x6, x7] t) := by
  simp [World.setCell, Array.getElem?_modify, h]
theorem st8_5 {W : World} {b t : Nat} {x0 x1 x2 x3 x4 x5 x6 x7 : Value} (y : Value) (h : W.heap[b]? = some (.cells #[x0, x1, x2, x3, x4, x5, x6, x7] t)) : (W.setCell ⟨b, 5, none⟩ y).heap[b]? = some (.cells #[x0, x1, x2, x3, x4, y, x6, x7] t) := by
  simp [World.setCell, Array.getElem?_modify, h]
theorem st8_6 {W : World} {b t : Nat} {x0 x1 x2 x3 x4 x5 x6 x7 : Value} (y : Value) (h : W.heap[b]? = some (.cells #[x0, x1, x2, x3, x4, x5, x6, x7] t)) : (W.setCell ⟨b, 6, none⟩ y).heap[b]? = some (.cells #[x0, x1, x2, x3, x4, x5, y, x7] t) := by
  simp [World.setCell, Array.getElem?_modify, h]
theorem st8_7 {W : World} {b t : Nat} {x0 x1 x2 x3 x4 x5 x6 x7 : Value} (y : Value) (h : W.heap[b]? = some (.cells #[x0, x1, x2, x3, x4, x5, x6, x7] t)) : (W.setCell ⟨b, 7, none⟩ y).heap[b]? = some (.cells #[x0, x1, x2, x3, x4, x5, x6, y] t) := by
  simp [World.setCell, Array.getElem?_modify, h]
end Go.Proofs.Ytagajindaipaeaa
