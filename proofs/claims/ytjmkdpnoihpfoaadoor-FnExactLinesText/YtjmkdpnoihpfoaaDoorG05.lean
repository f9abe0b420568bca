/- Texts of ours put together: SzBk. -/
import Derived.Test.YtjmkdpnoihpfoaaDoorG02
import Derived.Test.YtjmkdpnoihpfoaaDoorG03
import Derived.Test.YtjmkdpnoihpfoaaDoorG04
namespace Go.Proofs.YtjmkdpnoihpfoaaDoor
open Go.ChangeShapes Go.WideShapes Go.ChangeAt Go.RowKit
set_option maxHeartbeats 1000000 in
theorem szBk_any (b : Bk) (us ul : Value) (left : Int) (w : World) (h : RBk w us ul b) (hl : 0 ≤ left ∧ left ≤ 1048576) :
    Calls Tryd.prog 4 #[.agg #[us, ul], .int .i64 left] w fun e w' => ∃ q : Int, e = .returned (.int .i64 q) ∧ (q = -1 ∨ (0 ≤ q ∧ q ≤ left ∧ BdBk left.toNat b)) ∧ Below w.heap.size w w' := by
  obtain ⟨stocks, lines⟩ := b
  obtain ⟨a, cap, a2, cap2, rfl, rfl⟩ := h.val
  dsimp only at h ⊢
  have b0 : Below w.heap.size w (w.alloc (.cells #[.slice a stocks.length cap, .slice a2 lines.length cap2] 25)) := (Below.refl _ _).alloc (Nat.le_refl _) _
  have hbx : (w.alloc (.cells #[.slice a stocks.length cap, .slice a2 lines.length cap2] 25)).heap[w.heap.size]? = some (.cells #[.slice a stocks.length cap, .slice a2 lines.length cap2] 25) := World.alloc_heap_new _ _
  have H : Hid (RowSt (w.alloc (.cells #[.slice a stocks.length cap, .slice a2 lines.length cap2] 25)) (.slice a stocks.length cap) stocks ∧ RowOl (w.alloc (.cells #[.slice a stocks.length cap, .slice a2 lines.length cap2] 25)) (.slice a2 lines.length cap2) lines) := ⟨h.st.below b0, h.ln.below b0⟩
  clear h
  go_enter Tryd.func4, Tryd.ntmps4
  go_wp2_with fail
  refine (szSts_any _ stocks left _ H.out.1 ⟨by omega, by omega⟩).mono ?_
  rintro e w1 ⟨q, rfl, hr, hb⟩
  have HB : Hid (Below w.heap.size w w1 ∧ Below (w.alloc (.cells #[.slice a stocks.length cap, .slice a2 lines.length cap2] 25)).heap.size (w.alloc (.cells #[.slice a stocks.length cap, .slice a2 lines.length cap2] 25)) w1) := ⟨b0.trans (hb.mono (by simp)), hb⟩
  obtain ⟨y0, y1⟩ := box2 ((hb.block _ (by simp)).trans hbx)
  clear hb hbx
  rcases hr with rfl | ⟨g0, g1, g2⟩
  · go_wp2
    go_ret
    exact ⟨_, rfl, .inl rfl, HB.out.1⟩
  · have g0' : ¬ q < 0 := by omega
    have H2 : Hid (BdSt left.toNat stocks) := g2
    clear g2
    go_wp2_with fail
    refine (szOls_any _ lines q _ (H.out.2.below HB.out.2) ⟨by omega, by omega⟩).mono ?_
    rintro e w2 ⟨q2, rfl, hr2, hb2⟩
    have HC : Hid (Below w.heap.size w w2) := HB.out.1.trans (hb2.mono HB.out.1.size)
    clear hb2 y0 y1
    rcases hr2 with rfl | ⟨k0, k1, k2⟩
    · go_wp2
      go_ret
      exact ⟨_, rfl, .inl rfl, HC.out⟩
    · have k0' : ¬ q2 < 0 := by omega
      have H3 : Hid (BdOl q.toNat lines) := k2
      clear k2
      go_wp2
      go_ret
      exact ⟨_, rfl, .inr ⟨by omega, by omega, H2.out, H3.out.mono (by omega)⟩, HC.out⟩
end Go.Proofs.YtjmkdpnoihpfoaaDoor
