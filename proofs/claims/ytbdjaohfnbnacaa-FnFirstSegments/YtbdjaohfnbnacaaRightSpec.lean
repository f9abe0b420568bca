/- Contract of the model's SyntaxRight: at every four numbers it returns rightB of them and writes nothing that was there. -/
import Derived.Test.YtbdjaohfnbnacaaRight
import Derived.Deep.QuietTactic
import Derived.BigQuiet
import Derived.WalkSmall
namespace Go.Proofs.Ytbdjaohfnbnacaa
open Go.ChangeShapes Go.WideShapes Go.ChangeAt Go.RowKit

theorem beq_flip (x y : Int) : (x == y) = (y == x) := by
  rw [Bool.eq_iff_iff, beq_iff_eq, beq_iff_eq]; exact ⟨Eq.symm, Eq.symm⟩
theorem rightB_eq (a b c d : Int) : rightB a b c d = (markB a && (markB b && !(a == b) && (markB c && (!(a == c) && !(b == c)) && (markB d && (!(a == d) && (!(b == d) && !(c == d))))))) := by
  unfold rightB hasB
  simp only [List.take, List.contains_cons, List.contains_nil, Bool.or_false, Bool.not_or, beq_flip a b, beq_flip a c, beq_flip a d, beq_flip b c, beq_flip b d, beq_flip c d]

set_option maxHeartbeats 4000000 in
theorem right_spec (a b c d : Int) (w : World) : Calls Try.prog 14 #[.agg #[.int .i64 a, .int .i64 b, .int .i64 c, .int .i64 d]] w fun e w' => e = .returned (.bool (rightB a b c d)) ∧ Below w.heap.size w w' := by
  go_enter Try.func14, Try.ntmps14
  go_wp2_with fail
  refine wp_loop_rounds 5 ?_
  rw [rounds_succ]
  go_wp2_with fail
  refine (l01Mark_any a _).mono ?_
  rintro e w' ⟨rfl, hw⟩
  subst hw
  go_wp2_with fail
  · (go_ret; exact ⟨ret_bool (by go_light; rw [rightB_eq]; simp_all), by repeat (first | exact ((Below.refl _ _).alloc (Nat.le_refl _) _).alloc (by simp) _ | refine below_drewN ?_ _)⟩)
  refine wp_loop_rounds 1 ?_
  rw [rounds_succ]
  go_wp2_with fail
  rw [rounds_succ]
  go_wp2_with fail
  refine (l01Mark_any b _).mono ?_
  rintro e w' ⟨rfl, hw⟩
  subst hw
  go_wp2_with fail
  · (go_ret; exact ⟨ret_bool (by go_light; rw [rightB_eq]; simp_all), by repeat (first | exact ((Below.refl _ _).alloc (Nat.le_refl _) _).alloc (by simp) _ | refine below_drewN ?_ _)⟩)
  refine wp_loop_rounds 2 ?_
  rw [rounds_succ]
  go_wp2_with fail
  go_quiet (fail)
  go_wp2_with fail
  · (go_ret; exact ⟨ret_bool (by go_light; rw [rightB_eq]; simp_all), by repeat (first | exact ((Below.refl _ _).alloc (Nat.le_refl _) _).alloc (by simp) _ | refine below_drewN ?_ _)⟩)
  rw [rounds_succ]
  go_wp2_with fail
  rw [rounds_succ]
  go_wp2_with fail
  refine (l01Mark_any c _).mono ?_
  rintro e w' ⟨rfl, hw⟩
  subst hw
  go_wp2_with fail
  · (go_ret; exact ⟨ret_bool (by go_light; rw [rightB_eq]; simp_all), by repeat (first | exact ((Below.refl _ _).alloc (Nat.le_refl _) _).alloc (by simp) _ | refine below_drewN ?_ _)⟩)
  refine wp_loop_rounds 3 ?_
  rw [rounds_succ]
  go_wp2_with fail
  go_quiet (fail)
  go_wp2_with fail
  · (go_ret; exact ⟨ret_bool (by go_light; rw [rightB_eq]; simp_all), by repeat (first | exact ((Below.refl _ _).alloc (Nat.le_refl _) _).alloc (by simp) _ | refine below_drewN ?_ _)⟩)
  rw [rounds_succ]
  go_wp2_with fail
  go_quiet (fail)
  go_wp2_with fail
  · (go_ret; exact ⟨ret_bool (by go_light; rw [rightB_eq]; simp_all), by repeat (first | exact ((Below.refl _ _).alloc (Nat.le_refl _) _).alloc (by simp) _ | refine below_drewN ?_ _)⟩)
  rw [rounds_succ]
  go_wp2_with fail
  rw [rounds_succ]
  go_wp2_with fail
  refine (l01Mark_any d _).mono ?_
  rintro e w' ⟨rfl, hw⟩
  subst hw
  go_wp2_with fail
  · (go_ret; exact ⟨ret_bool (by go_light; rw [rightB_eq]; simp_all), by repeat (first | exact ((Below.refl _ _).alloc (Nat.le_refl _) _).alloc (by simp) _ | refine below_drewN ?_ _)⟩)
  refine wp_loop_rounds 4 ?_
  rw [rounds_succ]
  go_wp2_with fail
  go_quiet (fail)
  go_wp2_with fail
  · (go_ret; exact ⟨ret_bool (by go_light; rw [rightB_eq]; simp_all), by repeat (first | exact ((Below.refl _ _).alloc (Nat.le_refl _) _).alloc (by simp) _ | refine below_drewN ?_ _)⟩)
  rw [rounds_succ]
  go_wp2_with fail
  go_quiet (fail)
  go_wp2_with fail
  · (go_ret; exact ⟨ret_bool (by go_light; rw [rightB_eq]; simp_all), by repeat (first | exact ((Below.refl _ _).alloc (Nat.le_refl _) _).alloc (by simp) _ | refine below_drewN ?_ _)⟩)
  rw [rounds_succ]
  go_wp2_with fail
  go_quiet (fail)
  go_wp2_with fail
  · (go_ret; exact ⟨ret_bool (by go_light; rw [rightB_eq]; simp_all), by repeat (first | exact ((Below.refl _ _).alloc (Nat.le_refl _) _).alloc (by simp) _ | refine below_drewN ?_ _)⟩)
  rw [rounds_succ]
  go_wp2_with fail
  rw [rounds_succ]
  go_wp2_with fail
  (go_ret; exact ⟨ret_bool (by go_light; rw [rightB_eq]; simp_all), by repeat (first | exact ((Below.refl _ _).alloc (Nat.le_refl _) _).alloc (by simp) _ | refine below_drewN ?_ _)⟩)
end Go.Proofs.Ytbdjaohfnbnacaa
