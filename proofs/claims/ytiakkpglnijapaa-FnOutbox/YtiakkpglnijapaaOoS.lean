/- Stores into other blocks. -/
import Derived.Test.YtiakkpglnijapaaOoP
namespace Go.Proofs.Ytiakkpglnijapaa
open Go.ChangeShapes Go.WideShapes Go.ChangeAt Go.RowKit
theorem LOu.setR {b R : Nat} {W : World} {v : Value} {rs : List OutR} (h : LOu b W v rs) (hne : b ≠ R) (i : Nat) (x : Value) : LOu b (W.setCell ⟨R, i, none⟩ x) v rs := h.of_block fun _ => by
  simp only [World.setCell, Array.getElem?_modify]
  rw [if_neg (fun e => hne e.symm)]
theorem set_other (W : World) (b R i : Nat) (x : Value) (hne : b ≠ R) : (W.setCell ⟨R, i, none⟩ x).heap[b]? = W.heap[b]? := by
  simp only [World.setCell, Array.getElem?_modify]
  rw [if_neg (fun e => hne e.symm)]
end Go.Proofs.Ytiakkpglnijapaa
