/- Contract of impl.SyntaxText: its text at every four numbers, as textOf tells it; it writes nothing that was there. -/
import Derived.Test.YtcohoflilonnjaaRightSpec
import Derived.Laws.BytesArg
namespace Go.Proofs.Ytcohoflilonnjaa
open Go.ChangeShapes Go.WideShapes Go.ChangeAt Go.RowKit
theorem conv4 (W : World) (x0 x1 x2 x3 : Int) : (convert 22 9 (.slice (some ⟨W.heap.size, 0, none⟩) 4 4)).run Try.prog (W.alloc (.cells #[.int .u8 x0, .int .u8 x1, .int .u8 x2, .int .u8 x3] 5)) = .ok (.string (strOfNums [x0, x1, x2, x3])) (W.alloc (.cells #[.int .u8 x0, .int .u8 x1, .int .u8 x2, .int .u8 x3] 5)) :=
  run_convert_bytes_arg _ 22 5 Try.underlying22 Try.underlying5 W.heap.size 0 4 4 [x0, x1, x2, x3] rfl (fun i hi => by
    rcases i with _ | _ | _ | _ | i
    · simp [go_sem]
    · simp [go_sem]
    · simp [go_sem]
    · simp [go_sem]
    · omega) 9 Try.underlying9
def synStr (a b c d : Int) : ByteArray := ⟨#[83, 89, 78]⟩ ++ strOfNums [a % 256, b % 256, c % 256, d % 256]
set_option maxHeartbeats 400000 in
theorem text_impl_no (a b c d : Int) (w : World) (h : rightB a b c d = false) : Calls Try.prog 15 #[.agg #[.int .i64 a, .int .i64 b, .int .i64 c, .int .i64 d]] w fun e w' => e = .returned (.string ⟨#[]⟩) ∧ Below w.heap.size w w' := by
  go_enter Try.func15, Try.ntmps15
  go_wp2_with fail
  refine (right_impl a b c d _).mono ?_
  rintro e w1 ⟨rfl, hb⟩
  rw [h]
  go_wp2
  go_ret
  exact ⟨rfl, ((Below.refl _ _).alloc (Nat.le_refl _) _).trans (hb.mono (by simp))⟩
set_option maxHeartbeats 400000 in
theorem text_impl_yes (a b c d : Int) (w : World) (h : rightB a b c d = true) : Calls Try.prog 15 #[.agg #[.int .i64 a, .int .i64 b, .int .i64 c, .int .i64 d]] w fun e w' => e = .returned (.string (synStr a b c d)) ∧ Below w.heap.size w w' := by
  go_enter Try.func15, Try.ntmps15
  go_wp2_with fail
  refine (right_impl a b c d _).mono ?_
  rintro e w1 ⟨rfl, hb⟩
  rw [h]
  obtain ⟨q0, q1, q2, q3, qs⟩ := box4 (hb.mono (by simp))
  have hcv := conv4 w1
  go_wp2
  go_ret
  exact ⟨rfl, (((Below.refl _ _).alloc (Nat.le_refl _) _).trans (hb.mono (by simp))).alloc (by omega) _⟩
def textOf (a b c d : Int) : ByteArray := if rightB a b c d = true then synStr a b c d else ⟨#[]⟩
theorem text_impl (a b c d : Int) (w : World) : Calls Try.prog 15 #[.agg #[.int .i64 a, .int .i64 b, .int .i64 c, .int .i64 d]] w fun e w' => e = .returned (.string (textOf a b c d)) ∧ Below w.heap.size w w' := by
  unfold textOf
  cases h : rightB a b c d
  · exact text_impl_no a b c d w h
  · exact text_impl_yes a b c d w h
end Go.Proofs.Ytcohoflilonnjaa
