/- Texts of ours put together: EqBk. -/
import Derived.Test.YtjmkdpnoihpfoaaDoorG02
import Derived.Test.YtjmkdpnoihpfoaaDoorG09
import Derived.Test.YtjmkdpnoihpfoaaDoorG10
namespace Go.Proofs.YtjmkdpnoihpfoaaDoor
open Go.ChangeShapes Go.WideShapes Go.ChangeAt Go.RowKit
set_option maxHeartbeats 2000000 in
theorem eqBk_any (b : Bk) (us ul us' ul' : Value) (w : World) (h : RBk w us ul b) (h' : RBk w us' ul' b) :
    Calls Tryd.prog 8 #[.agg #[us, ul], .agg #[us', ul']] w fun e w' => e = .returned (.bool true) ∧ Below w.heap.size w w' := by
  obtain ⟨stocks, lines⟩ := b
  obtain ⟨a, cap, a2, cap2, rfl, rfl⟩ := h.val
  obtain ⟨a', cap', a2', cap2', rfl, rfl⟩ := h'.val
  dsimp only at h h' ⊢
  have b0 : Below w.heap.size w ((w.alloc (.cells #[.slice a stocks.length cap, .slice a2 lines.length cap2] 31)).alloc (.cells #[.slice a' stocks.length cap', .slice a2' lines.length cap2'] 31)) := ((Below.refl _ _).alloc (Nat.le_refl _) _).alloc (by simp) _
  have hx0 : ((w.alloc (.cells #[.slice a stocks.length cap, .slice a2 lines.length cap2] 31)).alloc (.cells #[.slice a' stocks.length cap', .slice a2' lines.length cap2'] 31)).heap[w.heap.size]? = some (.cells #[.slice a stocks.length cap, .slice a2 lines.length cap2] 31) := by
    rw [((Below.refl (w.alloc (.cells #[.slice a stocks.length cap, .slice a2 lines.length cap2] 31)).heap.size (w.alloc (.cells #[.slice a stocks.length cap, .slice a2 lines.length cap2] 31))).alloc (Nat.le_refl _) _).block _ (by simp)]
    exact World.alloc_heap_new _ _
  have hx1 : ((w.alloc (.cells #[.slice a stocks.length cap, .slice a2 lines.length cap2] 31)).alloc (.cells #[.slice a' stocks.length cap', .slice a2' lines.length cap2'] 31)).heap[w.heap.size + 1]? = some (.cells #[.slice a' stocks.length cap', .slice a2' lines.length cap2'] 31) := by
    have := World.alloc_heap_new (w.alloc (.cells #[.slice a stocks.length cap, .slice a2 lines.length cap2] 31)) (.cells #[.slice a' stocks.length cap', .slice a2' lines.length cap2'] 31)
    simpa using this
  have H : Hid (RBk ((w.alloc (.cells #[.slice a stocks.length cap, .slice a2 lines.length cap2] 31)).alloc (.cells #[.slice a' stocks.length cap', .slice a2' lines.length cap2'] 31)) (.slice a stocks.length cap) (.slice a2 lines.length cap2) ⟨stocks, lines⟩ ∧ RBk ((w.alloc (.cells #[.slice a stocks.length cap, .slice a2 lines.length cap2] 31)).alloc (.cells #[.slice a' stocks.length cap', .slice a2' lines.length cap2'] 31)) (.slice a' stocks.length cap') (.slice a2' lines.length cap2') ⟨stocks, lines⟩) := ⟨h.below b0, h'.below b0⟩
  clear h h'
  go_enter Tryd.func8, Tryd.ntmps8
  go_wp2_with fail
  refine (eqSts_any _ _ stocks _ H.out.1.st H.out.2.st).mono ?_
  rintro e w1 ⟨rfl, hb⟩
  have HC : Hid (Below w.heap.size w w1 ∧ Below ((w.alloc (.cells #[.slice a stocks.length cap, .slice a2 lines.length cap2] 31)).alloc (.cells #[.slice a' stocks.length cap', .slice a2' lines.length cap2'] 31)).heap.size ((w.alloc (.cells #[.slice a stocks.length cap, .slice a2 lines.length cap2] 31)).alloc (.cells #[.slice a' stocks.length cap', .slice a2' lines.length cap2'] 31)) w1) := ⟨b0.trans (hb.mono (by simp; omega)), hb⟩
  obtain ⟨y0, y1⟩ := box2 ((hb.block _ (by simp; omega)).trans hx0)
  obtain ⟨z0, z1⟩ := box2 ((hb.block _ (by simp)).trans hx1)
  clear hb hx0 hx1
  go_wp2_with fail
  refine (eqOls_any _ _ lines _ (H.out.1.ln.below HC.out.2) (H.out.2.ln.below HC.out.2)).mono ?_
  rintro e w2 ⟨rfl, hb2⟩
  have HD : Hid (Below w.heap.size w w2) := HC.out.1.trans (hb2.mono HC.out.1.size)
  clear hb2 y0 y1 z0 z1
  go_wp2
  go_ret
  exact ⟨rfl, HD.out⟩
end Go.Proofs.YtjmkdpnoihpfoaaDoor
