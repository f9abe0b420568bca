/- Contracts of impl.isControl and of the model's l01Control. -/
import Derived.Test.YthjddnhdfnhalaaDoorRet
import Derived.Test.YthjddnhdfnhalaaDoorKeep
namespace Go.Proofs.YthjddnhdfnhalaaDoor
open Go.ChangeShapes Go.WideShapes Go.ChangeAt Go.RowKit
def ctlB (n : Int) : Bool := decide (1 ≤ n) && decide (n ≤ 999999)
theorem ctlB_iff {n : Int} : ctlB n = true ↔ 1 ≤ n ∧ n ≤ 999999 := by simp [ctlB]
theorem isControl_any (n : Int) (w : World) : Calls Tryd.prog 51 #[.int .i64 n] w fun e w' => e = .returned (.bool (ctlB n)) ∧ w' = w := by
  by_cases h1 : 1 ≤ n
  · by_cases h2 : n ≤ 999999
    · go_enter Tryd.func51, Tryd.ntmps51
      go_wp2
      go_ret
      exact ⟨ret_bool (by simp [ctlB, h1, h2]), rfl⟩
    · go_enter Tryd.func51, Tryd.ntmps51
      go_wp2
      go_ret
      exact ⟨ret_bool (by simp [ctlB, h1, h2]), rfl⟩
  · go_enter Tryd.func51, Tryd.ntmps51
    go_wp2
    go_ret
    exact ⟨ret_bool (by simp [ctlB]; omega), rfl⟩
theorem l01Control_any (n : Int) (w : World) : Calls Tryd.prog 17 #[.int .i64 n] w fun e w' => e = .returned (.bool (ctlB n)) ∧ w' = w := by
  by_cases h1 : 1 ≤ n
  · by_cases h2 : n ≤ 999999
    · go_enter Tryd.func17, Tryd.ntmps17
      go_wp2
      go_ret
      exact ⟨ret_bool (by simp [ctlB, h1, h2]), rfl⟩
    · go_enter Tryd.func17, Tryd.ntmps17
      go_wp2
      go_ret
      exact ⟨ret_bool (by simp [ctlB, h1, h2]), rfl⟩
  · go_enter Tryd.func17, Tryd.ntmps17
    go_wp2
    go_ret
    exact ⟨ret_bool (by simp [ctlB]; omega), rfl⟩
end Go.Proofs.YthjddnhdfnhalaaDoor
