/- Texts of ours put together: DgI. -/
import Derived.Test.YtjmkdpnoihpfoaaDoorG26
import Derived.Test.YtjmkdpnoihpfoaaDoorG30
import Derived.Test.YtjmkdpnoihpfoaaDoorG31
import Derived.Deep.RegionHeld3
namespace Go.Proofs.YtjmkdpnoihpfoaaDoor
open Go.ChangeShapes Go.WideShapes Go.ChangeAt Go.RowKit
theorem TabOk.drew {w : World} (h : TabOk w) : TabOk w.drew := h.below (Below.refl _ _).drew
theorem undrewD {a b : World} (h : Below a.drew.heap.size a.drew b) : Below a.heap.size a b := (Below.refl _ _).drew.trans h
set_option maxHeartbeats 1000000 in
theorem digitsOf_any (n : Int) (w : World) (h0 : -9223372036854775808 ≤ n) (h1 : n ≤ 9223372036854775807) (ht : TabOk w) : Calls Tryd.prog 35 #[.int .i64 n] w fun e w' => e = .returned (.string (decS n)) ∧ Below w.heap.size w w' := by
  go_enter Tryd.func35, Tryd.ntmps35
  go_wp2_with fail
  refine (fmt_any n _ h0 h1 ht).mono ?_
  rintro e w1 ⟨rfl, hb⟩
  have HB : Hid (Below w.heap.size w w1) := hb
  clear hb
  go_wp2
  go_ret
  exact ⟨rfl, HB.out⟩
end Go.Proofs.YtjmkdpnoihpfoaaDoor
