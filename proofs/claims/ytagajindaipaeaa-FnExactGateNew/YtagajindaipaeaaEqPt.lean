/- The comparison of partners: two that read as the same are told to be equal. -/
import Derived.Test.YtagajindaipaeaaRowPt
import Derived.Test.YtagajindaipaeaaEqSn
namespace Go.Proofs.Ytagajindaipaeaa
open Go.ChangeShapes Go.WideShapes Go.ChangeAt Go.RowKit
set_option maxHeartbeats 2000000 in
theorem eqPt_any (r : Ptn) (v v' : Value) (w : World) (h : RPt w v r) (h' : RPt w v' r) :
    Calls Try.prog 53 #[.agg #[.string r.name, .int .i64 r.low, .int .i64 r.next, v], .agg #[.string r.name, .int .i64 r.low, .int .i64 r.next, v']] w fun e w' => e = .returned (.bool true) ∧ Below w.heap.size w w' := by
  obtain ⟨name, low, next, seen⟩ := r
  obtain ⟨a, cap, rfl⟩ := h.ls.val
  obtain ⟨a', cap', rfl⟩ := h'.ls.val
  dsimp only at h h' ⊢
  have b0 : Below w.heap.size w ((w.alloc (.cells #[.string name, .int .i64 low, .int .i64 next, (.slice a seen.length cap)] 73)).alloc (.cells #[.string name, .int .i64 low, .int .i64 next, (.slice a' seen.length cap')] 73)) := ((Below.refl _ _).alloc (Nat.le_refl _) _).alloc (by simp) _
  have H : Hid (RowSn ((w.alloc (.cells #[.string name, .int .i64 low, .int .i64 next, (.slice a seen.length cap)] 73)).alloc (.cells #[.string name, .int .i64 low, .int .i64 next, (.slice a' seen.length cap')] 73)) (.slice a seen.length cap) seen ∧ RowSn ((w.alloc (.cells #[.string name, .int .i64 low, .int .i64 next, (.slice a seen.length cap)] 73)).alloc (.cells #[.string name, .int .i64 low, .int .i64 next, (.slice a' seen.length cap')] 73)) (.slice a' seen.length cap') seen) := ⟨h.ls.below b0, h'.ls.below b0⟩
  clear h h'
  go_enter Try.func53, Try.ntmps53
  go_wp2_with fail
  refine (eqSns_any _ _ seen _ H.out.1 H.out.2).mono ?_
  rintro e w1 ⟨rfl, hb⟩
  have HC : Hid (Below w.heap.size w w1) := b0.trans (hb.mono (by simp; omega))
  clear hb
  go_wp2
  go_ret
  exact ⟨rfl, HC.out⟩
end Go.Proofs.Ytagajindaipaeaa
