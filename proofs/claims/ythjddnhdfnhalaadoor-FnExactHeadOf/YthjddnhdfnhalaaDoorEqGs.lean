/- Two lists of segments that read as the same are told to be equal. -/
import Derived.Test.YthjddnhdfnhalaaDoorRowG
import Derived.Test.YthjddnhdfnhalaaDoorEqRow
import Derived.Deep.RegionHeld3
namespace Go.Proofs.YthjddnhdfnhalaaDoor
open Go.ChangeShapes Go.WideShapes Go.ChangeAt Go.RowKit
set_option maxHeartbeats 1000000 in
theorem eqGs_any (v v' : Value) (gs : List Seg) (w : World) (h : RowG w v gs) (h' : RowG w v' gs) :
    Calls Tryd.prog 9 #[v, v'] w fun e w' => e = .returned (.bool true) ∧ Below w.heap.size w w' := by
  have hlen := h.len
  obtain ⟨a, cap, rfl⟩ := h.val
  obtain ⟨a', cap', rfl⟩ := h'.val
  have H : Hid (RowG w (.slice a gs.length cap) gs ∧ RowG w (.slice a' gs.length cap') gs) := ⟨h, h'⟩
  clear h h'
  go_enter Tryd.func9, Tryd.ntmps9
  go_wp2
  go_loopw [5] (fun i wr => ∃ k : Nat, i = .int .i64 (k : Int) ∧ k ≤ gs.length ∧ Below w.heap.size w wr) (fun i _ => gs.length - (intOf i).toNat)
  case atStart => exact ⟨0, rfl, by omega, Below.refl _ _⟩
  case round =>
    obtain ⟨k, rfl, hk, hb⟩ := hrel
    by_cases hlt : k < gs.length
    · have hlt' : (k : Int) < (gs.length : Int) := by omega
      obtain ⟨b, o, c1, g, u, e, hs, hc, hd, hS, _⟩ := (H.out.1.below hb).at hlt
      obtain ⟨b', o', c2, g', u', e', hs', hc', hd', hS', _⟩ := (H.out.2.below hb).at hlt
      simp only [Value.slice.injEq, true_and] at e e'
      obtain ⟨rfl, rfl⟩ := e
      obtain ⟨rfl, rfl⟩ := e'
      obtain rfl : g = g' := by rw [hs] at hs'; exact Option.some.inj hs'
      have HB : Hid (Below w.heap.size w wr ∧ RowE wr u g.2 ∧ RowE wr u' g.2) := ⟨hb, hS, hS'⟩
      clear hs hs' hb hS hS'
      have l1 := cell_lt hc
      have l2 := cell_lt hc'
      go_wp2_with fail
      go_region_held3 (fun W => W.cell? ⟨b, o + k * 2, none⟩ = some (.string g.1) ∧ W.cell? ⟨b, o + k * 2 + 1, none⟩ = some u ∧ W.cell? ⟨b', o' + k * 2, none⟩ = some (.string g.1) ∧ W.cell? ⟨b', o' + k * 2 + 1, none⟩ = some u') (go_keep) (first | (go_at_call 27; refine (eqG_any g.1 u u' g.2 _ (HB.out.2.1.below (Below.refl _ _).drew) (HB.out.2.2.below (Below.refl _ _).drew)).mono ?_; rintro e w2 ⟨rfl, hb2⟩; have y0 : w2.cell? ⟨b, o + k * 2, none⟩ = some (.string g.1) := (hb2.cell (p := ⟨b, o + k * 2, none⟩) l1).trans hc; have y1 : w2.cell? ⟨b, o + k * 2 + 1, none⟩ = some u := (hb2.cell (p := ⟨b, o + k * 2 + 1, none⟩) l1).trans hd; have y2 : w2.cell? ⟨b', o' + k * 2, none⟩ = some (.string g.1) := (hb2.cell (p := ⟨b', o' + k * 2, none⟩) l2).trans hc'; have y3 : w2.cell? ⟨b', o' + k * 2 + 1, none⟩ = some u' := (hb2.cell (p := ⟨b', o' + k * 2 + 1, none⟩) l2).trans hd'))
      have HB2 : Hid (Below w.heap.size w w2) := HB.out.1.drew.trans (hb2.mono HB.out.1.size)
      clear hb2
      rename_i hHeld
      clear hHeld
      go_wp2
      go_roundw
      case rel => exact ⟨k + 1, by go_num, by omega, HB2.out⟩
      case measure => simp [intOf]; omega
    · obtain rfl : k = gs.length := by omega
      have HB : Hid (Below w.heap.size w wr) := hb
      clear hb
      go_wp2
      go_ret
      exact ⟨rfl, HB.out⟩
end Go.Proofs.YthjddnhdfnhalaaDoor
