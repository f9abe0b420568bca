/- Texts that are alike: pure. -/
import Derived.Test.YtkpmkahloommoaaItS
namespace Go.Proofs.Ytkpmkahloommoaa
open Go.ChangeShapes Go.WideShapes Go.ChangeAt Go.RowKit
theorem ba_eq {a b : ByteArray} (h : (a.toList == b.toList) = true) : a = b := by
  have e : a.toList = b.toList := by simpa using h
  rw [ByteArray.toList_eq, ByteArray.toList_eq] at e
  exact ByteArray.ext (Array.toList_inj.1 e)
theorem ba_ne {a b : ByteArray} (h : (a.toList == b.toList) = false) : a ≠ b := fun e => by
  rw [e] at h
  simp at h
end Go.Proofs.Ytkpmkahloommoaa
