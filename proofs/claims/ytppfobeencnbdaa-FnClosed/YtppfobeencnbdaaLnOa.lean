/- Contracts of the methods open and transit of an order line. -/
import Derived.Test.YtppfobeencnbdaaLnP
import Derived.Test.YtppfobeencnbdaaRet
namespace Go.Proofs.Ytppfobeencnbdaa
open Go.ChangeShapes Go.WideShapes Go.ChangeAt Go.RowKit
set_option maxHeartbeats 1000000 in
theorem open_any (l : OLn) (hok : LnOk l) (w : World) : Calls Try.prog 56 #[.agg #[.string l.partner, .string l.ref, .int .i64 l.no, .string l.item, .int .i64 l.ordered, .int .i64 l.sent, .int .i64 l.got, .int .i64 l.cut]] w fun e w' => e = .returned (.int .i64 (l.ordered - l.sent - l.cut)) ∧ Below w.heap.size w w' := by
  have k0 := hok.o1
  have k1 := hok.o2
  have k2 := hok.s0
  have k3 := hok.g0
  have k4 := hok.c0
  have k5 := hok.gs
  have k6 := hok.so
  have k7 := hok.co
  have HB : Hid (∀ o, Below w.heap.size w (w.alloc o)) := fun o => (Below.refl _ _).alloc (Nat.le_refl _) _
  clear hok
  go_enter Try.func56, Try.ntmps56
  go_wp2
  go_ret
  exact ⟨rfl, HB.out _⟩
set_option maxHeartbeats 1000000 in
theorem transit_any (l : OLn) (hok : LnOk l) (w : World) : Calls Try.prog 57 #[.agg #[.string l.partner, .string l.ref, .int .i64 l.no, .string l.item, .int .i64 l.ordered, .int .i64 l.sent, .int .i64 l.got, .int .i64 l.cut]] w fun e w' => e = .returned (.int .i64 (l.sent - l.got)) ∧ Below w.heap.size w w' := by
  have k0 := hok.o1
  have k1 := hok.o2
  have k2 := hok.s0
  have k3 := hok.g0
  have k4 := hok.c0
  have k5 := hok.gs
  have k6 := hok.so
  have k7 := hok.co
  have HB : Hid (∀ o, Below w.heap.size w (w.alloc o)) := fun o => (Below.refl _ _).alloc (Nat.le_refl _) _
  clear hok
  go_enter Try.func57, Try.ntmps57
  go_wp2
  go_ret
  exact ⟨rfl, HB.out _⟩
end Go.Proofs.Ytppfobeencnbdaa
