/- The comparison of lists of partners. -/
import Derived.Test.YtagajindaipaeaaRowPts
import Derived.Test.YtagajindaipaeaaEqPt
import Derived.Deep.RegionHeld3
namespace Go.Proofs.Ytagajindaipaeaa
open Go.ChangeShapes Go.WideShapes Go.ChangeAt Go.RowKit
set_option maxHeartbeats 4000000 in
theorem eqsPt_any (v v' : Value) (rs : List Ptn) (w : World) (h : RowPt w v rs) (h' : RowPt w v' rs) :
    Calls Try.prog 17 #[v, v'] w fun e w' => e = .returned (.bool true) ∧ Below w.heap.size w w' := by
  have hlen := h.len
  obtain ⟨a, cap, rfl⟩ := h.val
  obtain ⟨a', cap', rfl⟩ := h'.val
  have H : Hid (RowPt w (.slice a rs.length cap) rs ∧ RowPt w (.slice a' rs.length cap') rs) := ⟨h, h'⟩
  clear h h'
  go_enter Try.func17, Try.ntmps17
  go_wp2
  go_loopw [5] (fun i wr => ∃ k : Nat, i = .int .i64 (k : Int) ∧ k ≤ rs.length ∧ Below w.heap.size w wr) (fun i _ => rs.length - (intOf i).toNat)
  case atStart => exact ⟨0, rfl, by omega, Below.refl _ _⟩
  case round =>
    obtain ⟨k, rfl, hk, hb⟩ := hrel
    by_cases hlt : k < rs.length
    · have hlt' : (k : Int) < (rs.length : Int) := by omega
      obtain ⟨b, o, c1, g, u, e, hs, A, hR⟩ := (H.out.1.below hb).at hlt
      obtain ⟨b', o', c2, g', u', e', hs', A', hR'⟩ := (H.out.2.below hb).at hlt
      simp only [Value.slice.injEq, true_and] at e e'
      obtain ⟨rfl, rfl⟩ := e
      obtain ⟨rfl, rfl⟩ := e'
      obtain rfl : g = g' := by rw [hs] at hs'; exact Option.some.inj hs'
      have HB : Hid (Below w.heap.size w wr ∧ RPt wr u g ∧ RPt wr u' g ∧ AtPt wr b (o + k * 4) u g ∧ AtPt wr b' (o' + k * 4) u' g) := ⟨hb, hR, hR', A, A'⟩
      clear hs hs' hb hR hR'
      obtain ⟨q0, q1, q2, q3⟩ := A
      obtain ⟨p0, p1, p2, p3⟩ := A'
      go_wp2_with fail
      go_region_held3 (fun W => W.cell? ⟨b, o + k * 4, none⟩ = some (.string g.name) ∧ W.cell? ⟨b, o + k * 4 + 1, none⟩ = some (.int .i64 g.low) ∧ W.cell? ⟨b, o + k * 4 + 2, none⟩ = some (.int .i64 g.next) ∧ W.cell? ⟨b, o + k * 4 + 3, none⟩ = some (u) ∧ W.cell? ⟨b', o' + k * 4, none⟩ = some (.string g.name) ∧ W.cell? ⟨b', o' + k * 4 + 1, none⟩ = some (.int .i64 g.low) ∧ W.cell? ⟨b', o' + k * 4 + 2, none⟩ = some (.int .i64 g.next) ∧ W.cell? ⟨b', o' + k * 4 + 3, none⟩ = some (u')) (go_keep) (first | (go_at_call 53; refine (eqPt_any g u u' _ (HB.out.2.1.below (Below.refl _ _).drew) (HB.out.2.2.1.below (Below.refl _ _).drew)).mono ?_; rintro e w2 ⟨rfl, hb2⟩; obtain ⟨y0, y1, y2, y3⟩ := (HB.out.2.2.2.1.below (Below.refl _ _).drew).below hb2; obtain ⟨z0, z1, z2, z3⟩ := (HB.out.2.2.2.2.below (Below.refl _ _).drew).below hb2))
      have HB2 : Hid (Below w.heap.size w w2) := HB.out.1.drew.trans (hb2.mono HB.out.1.size)
      clear hb2
      rename_i hHeld
      clear hHeld
      go_wp2
      go_roundw
      case rel => exact ⟨k + 1, by go_num, by omega, HB2.out⟩
      case measure => simp [intOf]; omega
    · obtain rfl : k = rs.length := by omega
      have HB : Hid (Below w.heap.size w wr) := hb
      clear hb
      go_wp2
      go_ret
      exact ⟨rfl, HB.out⟩
end Go.Proofs.Ytagajindaipaeaa
