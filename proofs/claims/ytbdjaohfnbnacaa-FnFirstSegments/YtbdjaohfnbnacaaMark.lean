/- Contract of impl.isMark: it tells whether a byte is one of the four; no condition. -/
import Derived.Test.YtbdjaohfnbnacaaColl
namespace Go.Proofs.Ytbdjaohfnbnacaa
open Go.ChangeShapes Go.WideShapes Go.ChangeAt Go.RowKit Go.Shelf
attribute [local go_sem] Oper.semAt_some
/-- Is the number one of the four? -/
def ownB (a b c d x : Int) : Bool := (x == a) || ((x == b) || ((x == c) || (x == d)))
set_option maxHeartbeats 400000 in
theorem isMark_any (a b c d x : Int) (w : World) (h0 : 0 ≤ x) (h1 : x ≤ 255) : Calls Try.prog 50 #[.agg #[.int .i64 a, .int .i64 b, .int .i64 c, .int .i64 d], .int .u8 x] w fun e w' => e = .returned (.bool (ownB a b c d x)) ∧ Below w.heap.size w w' := by
  go_enter Try.func50, Try.ntmps50
  go_wp2
  all_goals
    go_ret
    refine ⟨ret_bool ?_, (Below.refl _ _).alloc (Nat.le_refl _) _⟩
    go_light
    simp_all [ownB]
end Go.Proofs.Ytbdjaohfnbnacaa
