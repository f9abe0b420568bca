/- Texts that differ. -/
import Derived.Test.YthjddnhdfnhalaaDoorRet
namespace Go.Proofs.YthjddnhdfnhalaaDoor
open Go.ChangeShapes Go.WideShapes Go.ChangeAt Go.RowKit
theorem toList_neq {s t : ByteArray} (h : s ≠ t) : (s.toList == t.toList) = false ∧ (s.toList != t.toList) = true ∧ ¬ s.toList = t.toList := by
  have h0 : ¬ s.toList = t.toList := fun e => h (by rw [ByteArray.toList_eq, ByteArray.toList_eq] at e; exact ByteArray.ext (Array.toList_inj.1 e))
  exact ⟨by rw [beq_eq_false_iff_ne]; exact h0, by rw [bne_iff_ne]; exact h0, h0⟩
theorem toList_neq3 {s : ByteArray} {a b c : UInt8} (h : s ≠ ⟨#[a, b, c]⟩) : (s.toList == [a, b, c]) = false ∧ (s.toList != [a, b, c]) = true ∧ ¬ s.toList = [a, b, c] := by
  have e : (⟨#[a, b, c]⟩ : ByteArray).toList = [a, b, c] := by rw [ByteArray.toList_eq]
  have := toList_neq h
  rwa [e] at this
end Go.Proofs.YthjddnhdfnhalaaDoor
