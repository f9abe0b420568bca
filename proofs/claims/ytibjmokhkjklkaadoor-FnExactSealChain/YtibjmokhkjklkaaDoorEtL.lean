/- Lists of events, each right: pure. -/
import Derived.Test.YtibjmokhkjklkaaDoorEtQ
namespace Go.Proofs.YtibjmokhkjklkaaDoor
open Go.ChangeShapes Go.WideShapes Go.ChangeAt Go.RowKit
/-- Each is right. -/
noncomputable def allE (rs : List EvR) : Bool := rs.all evB
theorem allE_iff {rs : List EvR} : allE rs = true ↔ ∀ c ∈ rs, evB c = true := by simp [allE, List.all_eq_true]
theorem allE_at {rs : List EvR} {k : Nat} {c : EvR} (h : rs[k]? = some c) (hn : evB c = false) : allE rs = false := by
  cases e : allE rs with
  | false => rfl
  | true =>
    have := allE_iff.1 e c (List.mem_of_getElem? h)
    rw [this] at hn
    cases hn
theorem allE_yes {rs : List EvR} (h : ∀ i c, i < rs.length → rs[i]? = some c → evB c = true) : allE rs = true := allE_iff.2 fun c hc => by
  obtain ⟨i, hi⟩ := List.mem_iff_getElem?.1 hc
  exact h i c (List.getElem?_eq_some_iff.1 hi).1 hi
end Go.Proofs.YtibjmokhkjklkaaDoor
