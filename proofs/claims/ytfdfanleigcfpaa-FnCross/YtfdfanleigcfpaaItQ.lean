/- Contract of CrossRight. -/
import Derived.Test.YtfdfanleigcfpaaItV
namespace Go.Proofs.Ytfdfanleigcfpaa
open Go.ChangeShapes Go.WideShapes Go.ChangeAt Go.RowKit
set_option maxHeartbeats 1000000 in
theorem crossRight_impl (v : Value) (rs : List Crs) (w : World) (h : RowCs w v rs) : Calls Try.prog 9 #[v] w fun e w' => e = .returned (.bool (rightB rs)) ∧ Below w.heap.size w w' := by
  obtain ⟨A, Cp, rfl⟩ := h.val
  go_enter Try.func9, Try.ntmps9
  go_wp2_with fail
  refine (ways_any _ rs _ h).mono ?_
  rintro e w1 ⟨b1, b2, rfl, _, _, _, hb, _⟩
  have HB : Hid (Below w.heap.size w (w1.alloc (.cells #[.map (some b1), .map (some b2)] 45))) := hb.alloc hb.size _
  clear hb h
  go_wp2
  go_ret
  exact ⟨rfl, HB.out⟩
end Go.Proofs.Ytfdfanleigcfpaa
