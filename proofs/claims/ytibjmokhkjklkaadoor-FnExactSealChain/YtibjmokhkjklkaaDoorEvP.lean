/- What it means that an event is right: pure. -/
import Derived.Test.YtibjmokhkjklkaaDoorRowEv
import Derived.Test.YtibjmokhkjklkaaDoorNameB
namespace Go.Proofs.YtibjmokhkjklkaaDoor
open Go.ChangeShapes Go.WideShapes Go.ChangeAt Go.RowKit
/-- What is asked of an event. -/
structure EvOk (e : EvR) : Prop where
  ok : (e.kind = 1 ∧ nameB e.a = true ∧ e.b = ⟨#[]⟩ ∧ e.c = ⟨#[]⟩) ∨ (e.kind = 2 ∧ nameB e.a = true ∧ nameB e.b = true ∧ nameB e.c = true) ∨ (e.kind = 3 ∧ e.a.size ≤ 4000 ∧ e.b = ⟨#[]⟩ ∧ e.c = ⟨#[]⟩) ∨ (e.kind = 4 ∧ e.a = ⟨#[]⟩ ∧ e.b = ⟨#[]⟩ ∧ e.c = ⟨#[]⟩)
open Classical in
noncomputable def evB (e : EvR) : Bool := decide (EvOk e)
theorem evB_yes {e : EvR} (h : EvOk e) : evB e = true := by simp [evB, h]
theorem evB_no {e : EvR} (h : ¬ EvOk e) : evB e = false := by simp [evB, h]
theorem evB_iff {e : EvR} : evB e = true ↔ EvOk e := by simp [evB]
theorem nonE {s : ByteArray} (h : s ≠ ⟨#[]⟩) : (s.toList == []) = false ∧ s.toList ≠ [] := by
  have h0 : s.toList ≠ [] := fun e => h (by
    rw [ByteArray.toList_eq] at e
    exact ByteArray.ext (Array.toList_inj.1 e))
  exact ⟨by rw [beq_eq_false_iff_ne]; exact h0, h0⟩
end Go.Proofs.YtibjmokhkjklkaaDoor
