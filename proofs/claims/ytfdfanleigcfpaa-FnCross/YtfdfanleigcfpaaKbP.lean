/- The order of keys: pure. -/
import Derived.Test.YtfdfanleigcfpaaItP
namespace Go.Proofs.Ytfdfanleigcfpaa
open Go.ChangeShapes Go.WideShapes Go.ChangeAt Go.RowKit
open Go.Lib (compareBytes)
/-- The order of keys. -/
def kb (x y : ByteArray × ByteArray) : Bool := Op.bytesLess x.1.toList y.1.toList || (x.1.toList == y.1.toList && Op.bytesLess x.2.toList y.2.toList)
theorem befB_kb (a b : Crs) : befB a b = kb (thK a) (thK b) := rfl
theorem kb_trans {x y z : ByteArray × ByteArray} (h1 : kb x y = true) (h2 : kb y z = true) : kb x z = true := befB_trans (a := ⟨x.1, x.2, ⟨#[]⟩⟩) (b := ⟨y.1, y.2, ⟨#[]⟩⟩) (c := ⟨z.1, z.2, ⟨#[]⟩⟩) h1 h2
theorem kb_irrefl (x : ByteArray × ByteArray) : kb x x = false := befB_irrefl ⟨x.1, x.2, ⟨#[]⟩⟩
theorem kcmp_neg (x y : ByteArray × ByteArray) : kcmp x y < 0 ↔ kb x y = true := by
  unfold kcmp kb
  simp only [Bool.or_eq_true, Bool.and_eq_true, beq_iff_eq, ByteArray.toList_eq]
  by_cases h : compareBytes x.1.data.toList y.1.data.toList = 0
  · rw [if_pos h, cb_neg]
    have e := (cb_zero _ _).1 h
    rw [e]
    simp [bl_irrefl]
  · rw [if_neg h, cb_neg]
    have e : ¬ x.1.data.toList = y.1.data.toList := fun e => h ((cb_zero _ _).2 e)
    simp [e]
theorem kb_tri {x y : ByteArray × ByteArray} (h1 : kb x y = false) (h2 : kb y x = false) : x = y := by
  simp only [kb, Bool.or_eq_false_iff, Bool.and_eq_false_iff, beq_eq_false_iff_ne, ByteArray.toList_eq] at h1 h2
  have e := bl_tri h1.1 h2.1
  have e1 : x.1 = y.1 := ByteArray.ext (Array.toList_inj.1 e)
  have e2 := bl_tri (h1.2.resolve_left (by simp [e])) (h2.2.resolve_left (by simp [e]))
  exact Prod.ext e1 (ByteArray.ext (Array.toList_inj.1 e2))
end Go.Proofs.Ytfdfanleigcfpaa
