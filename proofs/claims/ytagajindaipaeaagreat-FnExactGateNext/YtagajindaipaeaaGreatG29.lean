/- Texts of ours put together: Mu, OoS. -/
import Derived.Test.YtagajindaipaeaaGreatG00
import Derived.Conc.MuLone
import Derived.KernelRfl
import Derived.Test.YtagajindaipaeaaGreatG14
namespace Go.Proofs.YtagajindaipaeaaGreat
open Go.ChangeShapes Go.WideShapes Go.ChangeAt Go.RowKit
abbrev muLink : Go.Conc.Locks.MuLink := { lock := 89, unlock := 90, ilock := 133, iunlock := 134, lockSlow := 167, unlockSlow := 170, disable := 163, enable := 165, acquire := 166, relMerge := 168, cas32 := 164, add32 := 169, tMutex := 134, tIMutex := 132, tPMutex := 183, tPIMutex := 211, tPI32 := 213, tUP := 215, tNoCopy := 129, tU32 := 130 }
theorem muLib : Go.Conc.Locks.MuLib Tryz.prog muLink :=
  ⟨Tryz.func89, Tryz.func90, Tryz.func133, Tryz.func134, Tryz.func163, Tryz.func165, Tryz.func166, Tryz.func168, Tryz.func164, Tryz.func169, Tryz.underlying132, Tryz.runUnderlying132, Tryz.sizeOf132, Tryz.isAgg132, Tryz.zeroValue132, Tryz.underlying134, Tryz.runUnderlying134, Tryz.sizeOf134, Tryz.isAgg134, Tryz.zeroValue134, Tryz.underlying183, Tryz.runUnderlying183, Tryz.sizeOf183, Tryz.isAgg183, Tryz.zeroValue183, Tryz.underlying211, Tryz.runUnderlying211, Tryz.sizeOf211, Tryz.isAgg211, Tryz.zeroValue211, Tryz.underlying213, Tryz.runUnderlying213, Tryz.sizeOf213, Tryz.isAgg213, Tryz.zeroValue213, Tryz.underlying215, Tryz.runUnderlying215, Tryz.sizeOf215, Tryz.isAgg215, Tryz.zeroValue215, Tryz.underlying129, Tryz.runUnderlying129, Tryz.sizeOf129, Tryz.isAgg129, Tryz.zeroValue129, Tryz.underlying21, Tryz.runUnderlying21, Tryz.sizeOf21, Tryz.isAgg21, Tryz.zeroValue21, (by kernel_rfl)⟩
end Go.Proofs.YtagajindaipaeaaGreat
namespace Go.Proofs.YtagajindaipaeaaGreat
open Go.ChangeShapes Go.WideShapes Go.ChangeAt Go.RowKit
theorem LOu.setR {b R : Nat} {W : World} {v : Value} {rs : List OutR} (h : LOu b W v rs) (hne : b ≠ R) (i : Nat) (x : Value) : LOu b (W.setCell ⟨R, i, none⟩ x) v rs := h.of_block fun _ => by
  simp only [World.setCell, Array.getElem?_modify]
  rw [if_neg (fun e => hne e.symm)]
theorem set_other (W : World) (b R i : Nat) (x : Value) (hne : b ≠ R) : (W.setCell ⟨R, i, none⟩ x).heap[b]? = W.heap[b]? := by
  simp only [World.setCell, Array.getElem?_modify]
  rw [if_neg (fun e => hne e.symm)]
end Go.Proofs.YtagajindaipaeaaGreat
