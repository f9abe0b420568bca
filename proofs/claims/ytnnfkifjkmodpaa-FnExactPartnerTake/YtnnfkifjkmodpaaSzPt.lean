/- The measure of a partner: what it lets pass is bounded. -/
import Derived.Test.YtnnfkifjkmodpaaRowPt
import Derived.Test.YtnnfkifjkmodpaaSzSn
namespace Go.Proofs.Ytnnfkifjkmodpaa
open Go.ChangeShapes Go.WideShapes Go.ChangeAt Go.RowKit
set_option maxHeartbeats 1000000 in
theorem szPt_any (r : Ptn) (u : Value) (left : Int) (w : World) (h : RPt w u r) (hl : 0 ≤ left ∧ left ≤ 1048576) :
    Calls Try.prog 6 #[.agg #[.string r.name, .int .i64 r.low, .int .i64 r.next, u], .int .i64 left] w fun e w' => ∃ q : Int, e = .returned (.int .i64 q) ∧ (q = -1 ∨ (0 ≤ q ∧ q ≤ left ∧ BdPt left.toNat r)) ∧ Below w.heap.size w w' := by
  obtain ⟨name, low, next, seen⟩ := r
  have hz_name : name.size ≤ 9223372036854775807 := h.z_name
  obtain ⟨a, cap, rfl⟩ := h.ls.val
  dsimp only at h ⊢
  have b0 : Below w.heap.size w (w.alloc (.cells #[.string name, .int .i64 low, .int .i64 next, (.slice a seen.length cap)] 24)) := (Below.refl _ _).alloc (Nat.le_refl _) _
  have H : Hid (RowSn (w.alloc (.cells #[.string name, .int .i64 low, .int .i64 next, (.slice a seen.length cap)] 24)) (.slice a seen.length cap) seen) := h.ls.below b0
  clear h
  by_cases h_name : left - (name.size : Int) < 0
  · go_enter Try.func6, Try.ntmps6
    go_wp2
    go_ret
    exact ⟨_, rfl, .inl rfl, b0⟩
  go_enter Try.func6, Try.ntmps6
  go_wp2_with fail
  refine (szSns_any _ seen (left - (name.size : Int)) _ H.out ⟨by omega, by omega⟩).mono ?_
  rintro e w1 ⟨q, rfl, hr, hb⟩
  have HB : Hid (Below w.heap.size w w1) := b0.trans (hb.mono (by simp))
  clear hb
  rcases hr with rfl | ⟨g0, g1, g2⟩
  · go_wp2
    go_ret
    exact ⟨_, rfl, .inl rfl, HB.out⟩
  · have g0' : ¬ q < 0 := by omega
    have H2 : Hid (BdSn (left - (name.size : Int)).toNat seen) := g2
    clear g2
    go_wp2
    go_ret
    exact ⟨_, rfl, .inr ⟨by omega, by omega, show name.size ≤ left.toNat by omega, H2.out.mono (by omega)⟩, HB.out⟩
end Go.Proofs.Ytnnfkifjkmodpaa
