/- impl.isKind tells whether a number is a kind's. -/
import Derived.Test.YtphgheojfnlgjaaDoorTab
import Derived.Test.YtphgheojfnlgjaaDoorRet
import Derived.ShutString
import Derived.ChangeOld
import Derived.WalkLawsBesides
import Derived.WalkSpells
import Derived.Deep.Light
import Derived.Handy
namespace Go.Proofs.YtphgheojfnlgjaaDoor
open Go.ChangeShapes Go.WideShapes Go.ChangeAt Go.RowKit
def kindB (n : Int) : Bool := decide (1 ≤ n ∧ n ≤ 7)
set_option maxHeartbeats 400000 in
theorem isKind_any (c : Int) (w : World) : Calls Tryd.prog 17 #[.int .i64 c] w fun e w' => e = .returned (.bool (kindB c)) ∧ w' = w := by
  go_enter Tryd.func17, Tryd.ntmps17
  go_wp2
  all_goals
    go_ret
    refine ⟨ret_bool ?_, rfl⟩
    simp [kindB] at *
    try omega
end Go.Proofs.YtphgheojfnlgjaaDoor
