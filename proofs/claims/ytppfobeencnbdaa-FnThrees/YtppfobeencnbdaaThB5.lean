/- A block of five cells. -/
import Derived.Test.YtppfobeencnbdaaThK
namespace Go.Proofs.Ytppfobeencnbdaa
open Go.ChangeShapes Go.WideShapes Go.ChangeAt Go.RowKit
theorem box5T {W : World} {b t : Nat} {x0 x1 x2 x3 x4 : Value} (h : W.heap[b]? = some (.cells #[x0, x1, x2, x3, x4] t)) : W.cell? ⟨b, 0, none⟩ = some x0 ∧ W.cell? ⟨b, 1, none⟩ = some x1 ∧ W.cell? ⟨b, 2, none⟩ = some x2 ∧ W.cell? ⟨b, 3, none⟩ = some x3 ∧ W.cell? ⟨b, 4, none⟩ = some x4 := by
  refine ⟨?_, ?_, ?_, ?_, ?_⟩ <;> simp [World.cell?, h]
theorem set5T {W : World} {b t : Nat} {x0 x1 x2 x3 x4 y0 y1 y2 y3 y4 : Value} (h : W.heap[b]? = some (.cells #[x0, x1, x2, x3, x4] t)) :
    (((((W.setCell ⟨b, 0, none⟩ y0).setCell ⟨b, 1, none⟩ y1).setCell ⟨b, 2, none⟩ y2).setCell ⟨b, 3, none⟩ y3).setCell ⟨b, 4, none⟩ y4).heap[b]? = some (.cells #[y0, y1, y2, y3, y4] t) := by
  simp [World.setCell, Array.getElem?_modify, h]
theorem bel5T {n b : Nat} {a W : World} {y0 y1 y2 y3 y4 : Value} (h : Below n a W) (hP : n ≤ b) : Below n a (((((W.setCell ⟨b, 0, none⟩ y0).setCell ⟨b, 1, none⟩ y1).setCell ⟨b, 2, none⟩ y2).setCell ⟨b, 3, none⟩ y3).setCell ⟨b, 4, none⟩ y4) := ((((h.setCell hP _).setCell hP _).setCell hP _).setCell hP _).setCell hP _
theorem one5T0 {W : World} {b t : Nat} {x0 x1 x2 x3 x4 y : Value} (h : W.heap[b]? = some (.cells #[x0, x1, x2, x3, x4] t)) : (W.setCell ⟨b, 0, none⟩ y).heap[b]? = some (.cells #[y, x1, x2, x3, x4] t) := by
  simp [World.setCell, Array.getElem?_modify, h]
theorem one5T1 {W : World} {b t : Nat} {x0 x1 x2 x3 x4 y : Value} (h : W.heap[b]? = some (.cells #[x0, x1, x2, x3, x4] t)) : (W.setCell ⟨b, 1, none⟩ y).heap[b]? = some (.cells #[x0, y, x2, x3, x4] t) := by
  simp [World.setCell, Array.getElem?_modify, h]
theorem one5T2 {W : World} {b t : Nat} {x0 x1 x2 x3 x4 y : Value} (h : W.heap[b]? = some (.cells #[x0, x1, x2, x3, x4] t)) : (W.setCell ⟨b, 2, none⟩ y).heap[b]? = some (.cells #[x0, x1, y, x3, x4] t) := by
  simp [World.setCell, Array.getElem?_modify, h]
theorem one5T3 {W : World} {b t : Nat} {x0 x1 x2 x3 x4 y : Value} (h : W.heap[b]? = some (.cells #[x0, x1, x2, x3, x4] t)) : (W.setCell ⟨b, 3, none⟩ y).heap[b]? = some (.cells #[x0, x1, x2, y, x4] t) := by
  simp [World.setCell, Array.getElem?_modify, h]
theorem one5T4 {W : World} {b t : Nat} {x0 x1 x2 x3 x4 y : Value} (h : W.heap[b]? = some (.cells #[x0, x1, x2, x3, x4] t)) : (W.setCell ⟨b, 4, none⟩ y).heap[b]? = some (.cells #[x0, x1, x2, x3, y] t) := by
  simp [World.setCell, Array.getElem?_modify, h]
theorem frozeT5 {W : World} {P t : Nat} {cs : Array Value} (h : W.heap[P]? = some (.cells cs t)) : ∀ o, W.frozen? ⟨P, o, none⟩ = false := fun o => by simp [World.frozen?, h]
end Go.Proofs.Ytppfobeencnbdaa
