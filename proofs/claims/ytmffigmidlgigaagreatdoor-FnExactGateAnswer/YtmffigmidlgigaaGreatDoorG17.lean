/- Texts of ours put together: EqPts, EqCs. -/
import Derived.Test.YtmffigmidlgigaaGreatDoorG02
import Derived.Test.YtmffigmidlgigaaGreatDoorG16
import Derived.Deep.RegionHeld3
import Derived.Test.YtmffigmidlgigaaGreatDoorG03
import Derived.Deep.QuietTactic
import Derived.BigQuiet
import Derived.BigRegion
namespace Go.Proofs.YtmffigmidlgigaaGreatDoor
open Go.ChangeShapes Go.WideShapes Go.ChangeAt Go.RowKit
set_option maxHeartbeats 4000000 in
theorem eqsPt_any (v v' : Value) (rs : List Ptn) (w : World) (h : RowPt w v rs) (h' : RowPt w v' rs) :
    Calls Tryz.prog 34 #[v, v'] w fun e w' => e = .returned (.bool true) ∧ Below w.heap.size w w' := by
  have hlen := h.len
  obtain ⟨a, cap, rfl⟩ := h.val
  obtain ⟨a', cap', rfl⟩ := h'.val
  have H : Hid (RowPt w (.slice a rs.length cap) rs ∧ RowPt w (.slice a' rs.length cap') rs) := ⟨h, h'⟩
  clear h h'
  go_enter Tryz.func34, Tryz.ntmps34
  go_wp2
  go_loopw [5] (fun i wr => ∃ k : Nat, i = .int .i64 (k : Int) ∧ k ≤ rs.length ∧ Below w.heap.size w wr) (fun i _ => rs.length - (intOf i).toNat)
  case atStart => exact ⟨0, rfl, by omega, Below.refl _ _⟩
  case round =>
    obtain ⟨k, rfl, hk, hb⟩ := hrel
    by_cases hlt : k < rs.length
    · have hlt' : (k : Int) < (rs.length : Int) := by omega
      obtain ⟨b, o, c1, g, u, e, hs, A, hR⟩ := (H.out.1.below hb).at hlt
      obtain ⟨b', o', c2, g', u', e', hs', A', hR'⟩ := (H.out.2.below hb).at hlt
      simp only [Value.slice.injEq, true_and] at e e'
      obtain ⟨rfl, rfl⟩ := e
      obtain ⟨rfl, rfl⟩ := e'
      obtain rfl : g = g' := by rw [hs] at hs'; exact Option.some.inj hs'
      have HB : Hid (Below w.heap.size w wr ∧ RPt wr u g ∧ RPt wr u' g ∧ AtPt wr b (o + k * 4) u g ∧ AtPt wr b' (o' + k * 4) u' g) := ⟨hb, hR, hR', A, A'⟩
      clear hs hs' hb hR hR'
      obtain ⟨q0, q1, q2, q3⟩ := A
      obtain ⟨p0, p1, p2, p3⟩ := A'
      go_wp2_with fail
      go_region_held3 (fun W => W.cell? ⟨b, o + k * 4, none⟩ = some (.string g.name) ∧ W.cell? ⟨b, o + k * 4 + 1, none⟩ = some (.int .i64 g.low) ∧ W.cell? ⟨b, o + k * 4 + 2, none⟩ = some (.int .i64 g.next) ∧ W.cell? ⟨b, o + k * 4 + 3, none⟩ = some (u) ∧ W.cell? ⟨b', o' + k * 4, none⟩ = some (.string g.name) ∧ W.cell? ⟨b', o' + k * 4 + 1, none⟩ = some (.int .i64 g.low) ∧ W.cell? ⟨b', o' + k * 4 + 2, none⟩ = some (.int .i64 g.next) ∧ W.cell? ⟨b', o' + k * 4 + 3, none⟩ = some (u')) (go_keep) (first | (go_at_call 72; refine (eqPt_any g u u' _ (HB.out.2.1.below (Below.refl _ _).drew) (HB.out.2.2.1.below (Below.refl _ _).drew)).mono ?_; rintro e w2 ⟨rfl, hb2⟩; obtain ⟨y0, y1, y2, y3⟩ := (HB.out.2.2.2.1.below (Below.refl _ _).drew).below hb2; obtain ⟨z0, z1, z2, z3⟩ := (HB.out.2.2.2.2.below (Below.refl _ _).drew).below hb2))
      have HB2 : Hid (Below w.heap.size w w2) := HB.out.1.drew.trans (hb2.mono HB.out.1.size)
      clear hb2
      rename_i hHeld
      clear hHeld
      go_wp2
      go_roundw
      case rel => exact ⟨k + 1, by go_num, by omega, HB2.out⟩
      case measure => simp [intOf]; omega
    · obtain rfl : k = rs.length := by omega
      have HB : Hid (Below w.heap.size w wr) := hb
      clear hb
      go_wp2
      go_ret
      exact ⟨rfl, HB.out⟩
end Go.Proofs.YtmffigmidlgigaaGreatDoor
namespace Go.Proofs.YtmffigmidlgigaaGreatDoor
open Go.ChangeShapes Go.WideShapes Go.ChangeAt Go.RowKit
set_option maxHeartbeats 1000000 in
theorem eqCs_any (g : Crs) (w : World) :
    Calls Tryz.prog 73 #[.agg #[.string g.partner, .string g.theirs, .string g.own], .agg #[.string g.partner, .string g.theirs, .string g.own]] w fun e w' => e = .returned (.bool true) ∧ Below w.heap.size w w' := by
  obtain ⟨partner, theirs, own⟩ := g
  dsimp only
  have b0 : Below w.heap.size w ((w.alloc (.cells #[.string partner, .string theirs, .string own] 108)).alloc (.cells #[.string partner, .string theirs, .string own] 108)) := ((Below.refl _ _).alloc (Nat.le_refl _) _).alloc (by simp) _
  go_enter Tryz.func73, Tryz.ntmps73
  go_wp2
  go_ret
  exact ⟨rfl, b0⟩
set_option maxHeartbeats 2000000 in
theorem eqCss_any (v v' : Value) (rs : List Crs) (w : World) (h : RowCs w v rs) (h' : RowCs w v' rs) :
    Calls Tryz.prog 35 #[v, v'] w fun e w' => e = .returned (.bool true) ∧ Below w.heap.size w w' := by
  have hlen := h.len
  obtain ⟨a, cap, rfl⟩ := h.val
  obtain ⟨a', cap', rfl⟩ := h'.val
  have H : Hid (RowCs w (.slice a rs.length cap) rs ∧ RowCs w (.slice a' rs.length cap') rs) := ⟨h, h'⟩
  clear h h'
  go_enter Tryz.func35, Tryz.ntmps35
  go_wp2
  go_loopw [5] (fun i wr => ∃ k : Nat, i = .int .i64 (k : Int) ∧ k ≤ rs.length ∧ Below w.heap.size w wr) (fun i _ => rs.length - (intOf i).toNat)
  case atStart => exact ⟨0, rfl, by omega, Below.refl _ _⟩
  case round =>
    obtain ⟨k, rfl, hk, hb⟩ := hrel
    by_cases hlt : k < rs.length
    · have hlt' : (k : Int) < (rs.length : Int) := by omega
      obtain ⟨b, o, c1, g, e, hs, ⟨q0, q1, q2⟩, _⟩ := (H.out.1.below hb).at hlt
      obtain ⟨b', o', c2, g', e', hs', ⟨p0, p1, p2⟩, _⟩ := (H.out.2.below hb).at hlt
      simp only [Value.slice.injEq, true_and] at e e'
      obtain ⟨rfl, rfl⟩ := e
      obtain ⟨rfl, rfl⟩ := e'
      obtain rfl : g = g' := by rw [hs] at hs'; exact Option.some.inj hs'
      have HB : Hid (Below w.heap.size w wr) := hb
      clear hs hs' hb
      have l1 := cell_lt q0
      have l2 := cell_lt p0
      go_wp2_with fail
      go_region_held3 (fun W => W.cell? ⟨b, o + k * 3, none⟩ = some (.string g.partner) ∧ W.cell? ⟨b, o + k * 3 + 1, none⟩ = some (.string g.theirs) ∧ W.cell? ⟨b, o + k * 3 + 2, none⟩ = some (.string g.own) ∧ W.cell? ⟨b', o' + k * 3, none⟩ = some (.string g.partner) ∧ W.cell? ⟨b', o' + k * 3 + 1, none⟩ = some (.string g.theirs) ∧ W.cell? ⟨b', o' + k * 3 + 2, none⟩ = some (.string g.own)) (go_keep) (first | (go_at_call 73; refine (eqCs_any g _).mono ?_; rintro e w2 ⟨rfl, hb2⟩; have yb0 := (hb2.cell (p := ⟨b, o + k * 3, none⟩) l1).trans q0; have yb1 := (hb2.cell (p := ⟨b, o + k * 3 + 1, none⟩) l1).trans q1; have yb2 := (hb2.cell (p := ⟨b, o + k * 3 + 2, none⟩) l1).trans q2; have yp0 := (hb2.cell (p := ⟨b', o' + k * 3, none⟩) l2).trans p0; have yp1 := (hb2.cell (p := ⟨b', o' + k * 3 + 1, none⟩) l2).trans p1; have yp2 := (hb2.cell (p := ⟨b', o' + k * 3 + 2, none⟩) l2).trans p2))
      have HB2 : Hid (Below w.heap.size w w2) := HB.out.drew.trans (hb2.mono HB.out.size)
      clear hb2
      rename_i hHeld
      clear hHeld
      go_wp2
      go_roundw
      case rel => exact ⟨k + 1, by go_num, by omega, HB2.out⟩
      case measure => simp [intOf]; omega
    · obtain rfl : k = rs.length := by omega
      have HB : Hid (Below w.heap.size w wr) := hb
      clear hb
      go_wp2
      go_ret
      exact ⟨rfl, HB.out⟩
end Go.Proofs.YtmffigmidlgigaaGreatDoor
