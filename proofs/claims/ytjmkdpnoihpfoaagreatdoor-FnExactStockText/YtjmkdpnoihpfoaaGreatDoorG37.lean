/- Texts of ours put together: LnOa. -/
import Derived.Test.YtjmkdpnoihpfoaaGreatDoorG20
import Derived.Test.YtjmkdpnoihpfoaaGreatDoorG00
namespace Go.Proofs.YtjmkdpnoihpfoaaGreatDoor
open Go.ChangeShapes Go.WideShapes Go.ChangeAt Go.RowKit
set_option maxHeartbeats 1000000 in
theorem open_any (l : OLn) (hok : LnOk l) (w : World) : Calls Tryz.prog 41 #[.agg #[.string l.partner, .string l.ref, .int .i64 l.no, .string l.item, .int .i64 l.ordered, .int .i64 l.sent, .int .i64 l.got, .int .i64 l.cut]] w fun e w' => e = .returned (.int .i64 (l.ordered - l.sent - l.cut)) ∧ Below w.heap.size w w' := by
  have k0 := hok.o1
  have k1 := hok.o2
  have k2 := hok.s0
  have k3 := hok.g0
  have k4 := hok.c0
  have k5 := hok.gs
  have k6 := hok.so
  have k7 := hok.co
  have HB : Hid (∀ o, Below w.heap.size w (w.alloc o)) := fun o => (Below.refl _ _).alloc (Nat.le_refl _) _
  clear hok
  go_enter Tryz.func41, Tryz.ntmps41
  go_wp2
  go_ret
  exact ⟨rfl, HB.out _⟩
set_option maxHeartbeats 1000000 in
theorem transit_any (l : OLn) (hok : LnOk l) (w : World) : Calls Tryz.prog 42 #[.agg #[.string l.partner, .string l.ref, .int .i64 l.no, .string l.item, .int .i64 l.ordered, .int .i64 l.sent, .int .i64 l.got, .int .i64 l.cut]] w fun e w' => e = .returned (.int .i64 (l.sent - l.got)) ∧ Below w.heap.size w w' := by
  have k0 := hok.o1
  have k1 := hok.o2
  have k2 := hok.s0
  have k3 := hok.g0
  have k4 := hok.c0
  have k5 := hok.gs
  have k6 := hok.so
  have k7 := hok.co
  have HB : Hid (∀ o, Below w.heap.size w (w.alloc o)) := fun o => (Below.refl _ _).alloc (Nat.le_refl _) _
  clear hok
  go_enter Tryz.func42, Tryz.ntmps42
  go_wp2
  go_ret
  exact ⟨rfl, HB.out _⟩
end Go.Proofs.YtjmkdpnoihpfoaaGreatDoor
