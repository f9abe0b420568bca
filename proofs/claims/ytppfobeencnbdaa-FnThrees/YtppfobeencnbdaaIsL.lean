/- Contract of the program's isOf. -/
import Derived.Test.YtppfobeencnbdaaLnI
namespace Go.Proofs.Ytppfobeencnbdaa
open Go.ChangeShapes Go.WideShapes Go.ChangeAt Go.RowKit
/-- Is it a line of that Partner (of the empty text: of any)? -/
def isB (q : ByteArray) (l : OLn) : Bool := q.toList.isEmpty || (l.partner.toList == q.toList)
set_option maxHeartbeats 4000000 in
theorem isOf_any (l : OLn) (q : ByteArray) (w : World) : Calls Try.prog 20 #[.agg #[.string l.partner, .string l.ref, .int .i64 l.no, .string l.item, .int .i64 l.ordered, .int .i64 l.sent, .int .i64 l.got, .int .i64 l.cut], .string q] w fun e w' => e = .returned (.bool (isB q l)) ∧ Below w.heap.size w w' := by
  obtain ⟨W0, hW0⟩ : ∃ W0, w.alloc (.cells #[.string l.partner, .string l.ref, .int .i64 l.no, .string l.item, .int .i64 l.ordered, .int .i64 l.sent, .int .i64 l.got, .int .i64 l.cut] 31) = W0 := ⟨_, rfl⟩
  have hb0 : Below w.heap.size w W0 := by rw [← hW0]; exact (Below.refl _ _).alloc (Nat.le_refl _) _
  have hbx : W0.heap[w.heap.size]? = some (.cells #[.string l.partner, .string l.ref, .int .i64 l.no, .string l.item, .int .i64 l.ordered, .int .i64 l.sent, .int .i64 l.got, .int .i64 l.cut] 31) := by rw [← hW0]; exact World.alloc_heap_new _ _
  have H0 : Hid (Below w.heap.size w W0) := hb0
  obtain ⟨c0, c1, c2, c3, c4, c5, c6, c7⟩ := box8 hbx
  clear hb0 hbx
  go_enter Try.func20, Try.ntmps20
  go_upto_region 1 with fail
  try rw [hW0]
  clear hW0
  cases e2 : q.toList.isEmpty with
  | true =>
    have HI : Hid (isB q l = true) := by show _ = _; simp [isB, e2]
    go_wp2
    go_ret
    exact ⟨by rw [HI.out]; rfl, H0.out⟩
  | false =>
    cases e3 : (l.partner.toList == q.toList) with
    | true =>
      have HI : Hid (isB q l = true) := by show _ = _; simp [isB, e2, e3]
      go_wp2
      go_ret
      exact ⟨by rw [HI.out]; rfl, H0.out⟩
    | false =>
      have HI : Hid (isB q l = false) := by show _ = _; simp [isB, e2, e3]
      go_wp2
      go_ret
      exact ⟨by rw [HI.out]; rfl, H0.out⟩
end Go.Proofs.Ytppfobeencnbdaa
