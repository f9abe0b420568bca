/- Texts of ours put together: EqPt, EqPts. -/
import Derived.Test.YtagajindaipaeaaG02
import Derived.Test.YtagajindaipaeaaG16
import Derived.Deep.RegionHeld3
namespace Go.Proofs.Ytagajindaipaeaa
open Go.ChangeShapes Go.WideShapes Go.ChangeAt Go.RowKit
set_option maxHeartbeats 2000000 in
theorem eqPt_any (r : Ptn) (v v' : Value) (w : World) (h : RPt w v r) (h' : RPt w v' r) :
    Calls Try.prog 53 #[.agg #[.string r.name, .int .i64 r.low, .int .i64 r.next, v], .agg #[.string r.name, .int .i64 r.low, .int .i64 r.next, v']] w fun e w' => e = .returned (.bool true) ∧ Below w.heap.size w w' := by
  obtain ⟨name, low, next, seen⟩ := r
  obtain ⟨a, cap, rfl⟩ := h.ls.val
  obtain ⟨a', cap', rfl⟩ := h'.ls.val
  dsimp only at h h' ⊢
  have b0 : Below w.heap.size w ((w.alloc (.cells #[.string name, .int .i64 low, .int .i64 next, (.slice a seen.length cap)] 73)).alloc (.cells #[.string name, .int .i64 low, .int .i64 next, (.slice a' seen.length cap')] 73)) := ((Below.refl _ _).alloc (Nat.le_refl _) _).alloc (by simp) _
  have H : Hid (RowSn ((w.alloc (.cells #[.string name, .int .i64 low, .int .i64 next, (.slice a seen.length cap)] 73)).alloc (.cells #[.string name, .int .i64 low, .int .i64 next, (.slice a' seen.length cap')] 73)) (.slice a seen.length cap) seen ∧ RowSn ((w.alloc (.cells #[.string name, .int .i64 low, .int .i64 next, (.slice a seen.length cap)] 73)).alloc (.cells #[.string name, .int .i64 low, .int .i64 next, (.slice a' seen.length cap')] 73)) (.slice a' seen.length cap') seen) := ⟨h.ls.below b0, h'.ls.below b0⟩
  clear h h'
  go_enter Try.func53, Try.ntmps53
  go_wp2_with fail
  refine (eqSns_any _ _ seen _ H.out.1 H.out.2).mono ?_
  rintro e w1 ⟨rfl, hb⟩
  have HC : Hid (Below w.heap.size w w1) := b0.trans (hb.mono (by simp; omega))
  clear hb
  go_wp2
  go_ret
  exact ⟨rfl, HC.out⟩
end Go.Proofs.Ytagajindaipaeaa
namespace Go.Proofs.Ytagajindaipaeaa
open Go.ChangeShapes Go.WideShapes Go.ChangeAt Go.RowKit
set_option maxHeartbeats 4000000 in
theorem eqsPt_any (v v' : Value) (rs : List Ptn) (w : World) (h : RowPt w v rs) (h' : RowPt w v' rs) :
    Calls Try.prog 17 #[v, v'] w fun e w' => e = .returned (.bool true) ∧ Below w.heap.size w w' := by
  have hlen := h.len
  obtain ⟨a, cap, rfl⟩ := h.val
  obtain ⟨a', cap', rfl⟩ := h'.val
  have H : Hid (RowPt w (.slice a rs.length cap) rs ∧ RowPt w (.slice a' rs.length cap') rs) := ⟨h, h'⟩
  clear h h'
  go_enter Try.func17, Try.ntmps17
  go_wp2
  go_loopw [5] (fun i wr => ∃ k : Nat, i = .int .i64 (k : Int) ∧ k ≤ rs.length ∧ Below w.heap.size w wr) (fun i _ => rs.length - (intOf i).toNat)
  case atStart => exact ⟨0, rfl, by omega, Below.refl _ _⟩
  case round =>
    obtain ⟨k, rfl, hk, hb⟩ := hrel
    by_cases hlt : k < rs.length
    · have hlt' : (k : Int) < (rs.length : Int) := by omega
      obtain ⟨b, o, c1, g, u, e, hs, A, hR⟩ := (H.out.1.below hb).at hlt
      obtain ⟨b', o', c2, g', u', e', hs', A', hR'⟩ := (H.out.2.below hb).at hlt
      simp only [Value.slice.injEq, true_and] at e e'
      obtain ⟨rfl, rfl⟩ := e
      obtain ⟨rfl, rfl⟩ := e'
      obtain rfl : g = g' := by rw [hs] at hs'; exact Option.some.inj hs'
      have HB : Hid (Below w.heap.size w wr ∧ RPt wr u g ∧ RPt wr u' g ∧ AtPt wr b (o + k * 4) u g ∧ AtPt wr b' (o' + k * 4) u' g) := ⟨hb, hR, hR', A, A'⟩
      clear hs hs' hb hR hR'
      obtain ⟨q0, q1, q2, q3⟩ := A
      obtain ⟨p0, p1, p2, p3⟩ := A'
      go_wp2_with fail
      go_region_held3 (fun W => W.cell? ⟨b, o + k * 4, none⟩ = some (.string g.name) ∧ W.cell? ⟨b, o + k * 4 + 1, none⟩ = some (.int .i64 g.low) ∧ W.cell? ⟨b, o + k * 4 + 2, none⟩ = some (.int .i64 g.next) ∧ W.cell? ⟨b, o + k * 4 + 3, none⟩ = some (u) ∧ W.cell? ⟨b', o' + k * 4, none⟩ = some (.string g.name) ∧ W.cell? ⟨b', o' + k * 4 + 1, none⟩ = some (.int .i64 g.low) ∧ W.cell? ⟨b', o' + k * 4 + 2, none⟩ = some (.int .i64 g.next) ∧ W.cell? ⟨b', o' + k * 4 + 3, none⟩ = some (u')) (go_keep) (first | (go_at_call 53; refine (eqPt_any g u u' _ (HB.out.2.1.below (Below.refl _ _).drew) (HB.out.2.2.1.below (Below.refl _ _).drew)).mono ?_; rintro e w2 ⟨rfl, hb2⟩; obtain ⟨y0, y1, y2, y3⟩ := (HB.out.2.2.2.1.below (Below.refl _ _).drew).below hb2; obtain ⟨z0, z1, z2, z3⟩ := (HB.out.2.2.2.2.below (Below.refl _ _).drew).below hb2))
      have HB2 : Hid (Below w.heap.size w w2) := HB.out.1.drew.trans (hb2.mono HB.out.1.size)
      clear hb2
      rename_i hHeld
      clear hHeld
      go_wp2
      go_roundw
      case rel => exact ⟨k + 1, by go_num, by omega, HB2.out⟩
      case measure => simp [intOf]; omega
    · obtain rfl : k = rs.length := by omega
      have HB : Hid (Below w.heap.size w wr) := hb
      clear hb
      go_wp2
      go_ret
      exact ⟨rfl, HB.out⟩
end Go.Proofs.Ytagajindaipaeaa
