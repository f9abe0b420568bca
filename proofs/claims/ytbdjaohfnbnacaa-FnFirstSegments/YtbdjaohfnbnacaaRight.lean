/- Contract of impl.SyntaxRight: at every four numbers it returns rightB of them and writes nothing that was there. -/
import Derived.Test.YtbdjaohfnbnacaaBase
namespace Go.Proofs.Ytbdjaohfnbnacaa
open Go.ChangeShapes Go.WideShapes Go.ChangeAt Go.RowKit
theorem cells4 (w : World) (o : Obj) (t : Nat) (a b c d : Int) : ∀ i, i < 4 → ((w.alloc o).alloc (.cells #[.int .i64 a, .int .i64 b, .int .i64 c, .int .i64 d] t)).cell? ⟨w.heap.size + 1, 0 + i, none⟩ = some (.int .i64 (([a, b, c, d] : List Int)[i]?.getD 0)) := by
  intro i hi
  rcases i with _ | _ | _ | _ | i
  · simp [go_sem]
  · simp [go_sem]
  · simp [go_sem]
  · simp [go_sem]
  · omega

set_option maxHeartbeats 2000000 in
theorem right_impl (a b c d : Int) (w : World) : Calls Try.prog 21 #[.agg #[.int .i64 a, .int .i64 b, .int .i64 c, .int .i64 d]] w fun e w' => e = .returned (.bool (rightB a b c d)) ∧ Below w.heap.size w w' := by
  have i0 : ∀ w, (Instr.index 79 (.agg #[.int .i64 a, .int .i64 b, .int .i64 c, .int .i64 d]) (.int .i64 0)).run Try.prog w = .ok (.int .i64 a) w := fun _ => by kernel_rfl
  have i1 : ∀ w, (Instr.index 79 (.agg #[.int .i64 a, .int .i64 b, .int .i64 c, .int .i64 d]) (.int .i64 1)).run Try.prog w = .ok (.int .i64 b) w := fun _ => by kernel_rfl
  have i2 : ∀ w, (Instr.index 79 (.agg #[.int .i64 a, .int .i64 b, .int .i64 c, .int .i64 d]) (.int .i64 2)).run Try.prog w = .ok (.int .i64 c) w := fun _ => by kernel_rfl
  have i3 : ∀ w, (Instr.index 79 (.agg #[.int .i64 a, .int .i64 b, .int .i64 c, .int .i64 d]) (.int .i64 3)).run Try.prog w = .ok (.int .i64 d) w := fun _ => by kernel_rfl
  go_enter Try.func21, Try.ntmps21
  go_wp2_with fail
  refine wp_loop_rounds 5 ?_
  rw [rounds_succ]
  go_wp2_with fail
  refine (mayMark_any a _).mono ?_
  rintro e w' ⟨rfl, hw⟩
  subst hw
  go_wp2_with fail
  rotate_left
  · (go_ret; exact ⟨ret_bool (by simp [rightB, *]), ((Below.refl _ _).alloc (Nat.le_refl _) _).alloc (by simp) _⟩)
  refine (contains_any (w.heap.size + 1) 0 0 4 [a, b, c, d] a _ (by omega) (by simp) (fun i hi => cells4 w _ _ a b c d i (by omega))).mono ?_
  rintro e w' ⟨rfl, hw⟩
  subst hw
  rw [show hasB a [a, b, c, d] 0 = false from rfl]
  go_wp2_with fail
  rw [rounds_succ]
  go_wp2_with fail
  refine (mayMark_any b _).mono ?_
  rintro e w' ⟨rfl, hw⟩
  subst hw
  go_wp2_with fail
  rotate_left
  · (go_ret; exact ⟨ret_bool (by simp [rightB, *]), ((Below.refl _ _).alloc (Nat.le_refl _) _).alloc (by simp) _⟩)
  refine (contains_any (w.heap.size + 1) 0 1 4 [a, b, c, d] b _ (by omega) (by simp) (fun i hi => cells4 w _ _ a b c d i (by omega))).mono ?_
  rintro e w' ⟨rfl, hw⟩
  subst hw
  go_wp2_with fail
  · (go_ret; exact ⟨ret_bool (by simp [rightB, *]), ((Below.refl _ _).alloc (Nat.le_refl _) _).alloc (by simp) _⟩)
  rw [rounds_succ]
  go_wp2_with fail
  refine (mayMark_any c _).mono ?_
  rintro e w' ⟨rfl, hw⟩
  subst hw
  go_wp2_with fail
  rotate_left
  · (go_ret; exact ⟨ret_bool (by simp [rightB, *]), ((Below.refl _ _).alloc (Nat.le_refl _) _).alloc (by simp) _⟩)
  refine (contains_any (w.heap.size + 1) 0 2 4 [a, b, c, d] c _ (by omega) (by simp) (fun i hi => cells4 w _ _ a b c d i (by omega))).mono ?_
  rintro e w' ⟨rfl, hw⟩
  subst hw
  go_wp2_with fail
  · (go_ret; exact ⟨ret_bool (by simp [rightB, *]), ((Below.refl _ _).alloc (Nat.le_refl _) _).alloc (by simp) _⟩)
  rw [rounds_succ]
  go_wp2_with fail
  refine (mayMark_any d _).mono ?_
  rintro e w' ⟨rfl, hw⟩
  subst hw
  go_wp2_with fail
  rotate_left
  · (go_ret; exact ⟨ret_bool (by simp [rightB, *]), ((Below.refl _ _).alloc (Nat.le_refl _) _).alloc (by simp) _⟩)
  refine (contains_any (w.heap.size + 1) 0 3 4 [a, b, c, d] d _ (by omega) (by simp) (fun i hi => cells4 w _ _ a b c d i (by omega))).mono ?_
  rintro e w' ⟨rfl, hw⟩
  subst hw
  go_wp2_with fail
  · (go_ret; exact ⟨ret_bool (by simp [rightB, *]), ((Below.refl _ _).alloc (Nat.le_refl _) _).alloc (by simp) _⟩)
  rw [rounds_succ]
  go_wp2_with fail
  (go_ret; exact ⟨ret_bool (by simp [rightB, *]), ((Below.refl _ _).alloc (Nat.le_refl _) _).alloc (by simp) _⟩)
end Go.Proofs.Ytbdjaohfnbnacaa
