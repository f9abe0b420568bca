/- Texts of ours put together: EqBk, EqDf. -/
import Derived.Test.YtmffigmidlgigaaGreatDoorG04
import Derived.Test.YtmffigmidlgigaaGreatDoorG18
import Derived.Test.YtmffigmidlgigaaGreatDoorG05
import Derived.Deep.RegionHeld3
import Derived.Deep.QuietTactic
import Derived.BigQuiet
import Derived.BigRegion
namespace Go.Proofs.YtmffigmidlgigaaGreatDoor
open Go.ChangeShapes Go.WideShapes Go.ChangeAt Go.RowKit
set_option maxHeartbeats 2000000 in
theorem eqBk_any (b : Bk) (us ul us' ul' : Value) (w : World) (h : RBk w us ul b) (h' : RBk w us' ul' b) :
    Calls Tryz.prog 36 #[.agg #[us, ul], .agg #[us', ul']] w fun e w' => e = .returned (.bool true) ∧ Below w.heap.size w w' := by
  obtain ⟨stocks, lines⟩ := b
  obtain ⟨a, cap, a2, cap2, rfl, rfl⟩ := h.val
  obtain ⟨a', cap', a2', cap2', rfl, rfl⟩ := h'.val
  dsimp only at h h' ⊢
  have b0 : Below w.heap.size w ((w.alloc (.cells #[.slice a stocks.length cap, .slice a2 lines.length cap2] 43)).alloc (.cells #[.slice a' stocks.length cap', .slice a2' lines.length cap2'] 43)) := ((Below.refl _ _).alloc (Nat.le_refl _) _).alloc (by simp) _
  have hx0 : ((w.alloc (.cells #[.slice a stocks.length cap, .slice a2 lines.length cap2] 43)).alloc (.cells #[.slice a' stocks.length cap', .slice a2' lines.length cap2'] 43)).heap[w.heap.size]? = some (.cells #[.slice a stocks.length cap, .slice a2 lines.length cap2] 43) := by
    rw [((Below.refl (w.alloc (.cells #[.slice a stocks.length cap, .slice a2 lines.length cap2] 43)).heap.size (w.alloc (.cells #[.slice a stocks.length cap, .slice a2 lines.length cap2] 43))).alloc (Nat.le_refl _) _).block _ (by simp)]
    exact World.alloc_heap_new _ _
  have hx1 : ((w.alloc (.cells #[.slice a stocks.length cap, .slice a2 lines.length cap2] 43)).alloc (.cells #[.slice a' stocks.length cap', .slice a2' lines.length cap2'] 43)).heap[w.heap.size + 1]? = some (.cells #[.slice a' stocks.length cap', .slice a2' lines.length cap2'] 43) := by
    have := World.alloc_heap_new (w.alloc (.cells #[.slice a stocks.length cap, .slice a2 lines.length cap2] 43)) (.cells #[.slice a' stocks.length cap', .slice a2' lines.length cap2'] 43)
    simpa using this
  have H : Hid (RBk ((w.alloc (.cells #[.slice a stocks.length cap, .slice a2 lines.length cap2] 43)).alloc (.cells #[.slice a' stocks.length cap', .slice a2' lines.length cap2'] 43)) (.slice a stocks.length cap) (.slice a2 lines.length cap2) ⟨stocks, lines⟩ ∧ RBk ((w.alloc (.cells #[.slice a stocks.length cap, .slice a2 lines.length cap2] 43)).alloc (.cells #[.slice a' stocks.length cap', .slice a2' lines.length cap2'] 43)) (.slice a' stocks.length cap') (.slice a2' lines.length cap2') ⟨stocks, lines⟩) := ⟨h.below b0, h'.below b0⟩
  clear h h'
  go_enter Tryz.func36, Tryz.ntmps36
  go_wp2_with fail
  refine (eqSts_any _ _ stocks _ H.out.1.st H.out.2.st).mono ?_
  rintro e w1 ⟨rfl, hb⟩
  have HC : Hid (Below w.heap.size w w1 ∧ Below ((w.alloc (.cells #[.slice a stocks.length cap, .slice a2 lines.length cap2] 43)).alloc (.cells #[.slice a' stocks.length cap', .slice a2' lines.length cap2'] 43)).heap.size ((w.alloc (.cells #[.slice a stocks.length cap, .slice a2 lines.length cap2] 43)).alloc (.cells #[.slice a' stocks.length cap', .slice a2' lines.length cap2'] 43)) w1) := ⟨b0.trans (hb.mono (by simp; omega)), hb⟩
  obtain ⟨y0, y1⟩ := box2 ((hb.block _ (by simp; omega)).trans hx0)
  obtain ⟨z0, z1⟩ := box2 ((hb.block _ (by simp)).trans hx1)
  clear hb hx0 hx1
  go_wp2_with fail
  refine (eqOls_any _ _ lines _ (H.out.1.ln.below HC.out.2) (H.out.2.ln.below HC.out.2)).mono ?_
  rintro e w2 ⟨rfl, hb2⟩
  have HD : Hid (Below w.heap.size w w2) := HC.out.1.trans (hb2.mono HC.out.1.size)
  clear hb2 y0 y1 z0 z1
  go_wp2
  go_ret
  exact ⟨rfl, HD.out⟩
end Go.Proofs.YtmffigmidlgigaaGreatDoor
namespace Go.Proofs.YtmffigmidlgigaaGreatDoor
open Go.ChangeShapes Go.WideShapes Go.ChangeAt Go.RowKit
set_option maxHeartbeats 1000000 in
theorem eqDf_any (g : Dff) (w : World) :
    Calls Tryz.prog 76 #[.agg #[.int .i64 g.kind, .string g.partner, .string g.ref, .int .i64 g.no, .string g.item, .int .i64 g.qty], .agg #[.int .i64 g.kind, .string g.partner, .string g.ref, .int .i64 g.no, .string g.item, .int .i64 g.qty]] w fun e w' => e = .returned (.bool true) ∧ Below w.heap.size w w' := by
  obtain ⟨kind, partner, ref, no, item, qty⟩ := g
  dsimp only
  have b0 : Below w.heap.size w ((w.alloc (.cells #[.int .i64 kind, .string partner, .string ref, .int .i64 no, .string item, .int .i64 qty] 112)).alloc (.cells #[.int .i64 kind, .string partner, .string ref, .int .i64 no, .string item, .int .i64 qty] 112)) := ((Below.refl _ _).alloc (Nat.le_refl _) _).alloc (by simp) _
  go_enter Tryz.func76, Tryz.ntmps76
  go_wp2
  go_ret
  exact ⟨rfl, b0⟩
set_option maxHeartbeats 2000000 in
theorem eqDfs_any (v v' : Value) (rs : List Dff) (w : World) (h : RowDf w v rs) (h' : RowDf w v' rs) :
    Calls Tryz.prog 37 #[v, v'] w fun e w' => e = .returned (.bool true) ∧ Below w.heap.size w w' := by
  have hlen := h.len
  obtain ⟨a, cap, rfl⟩ := h.val
  obtain ⟨a', cap', rfl⟩ := h'.val
  have H : Hid (RowDf w (.slice a rs.length cap) rs ∧ RowDf w (.slice a' rs.length cap') rs) := ⟨h, h'⟩
  clear h h'
  go_enter Tryz.func37, Tryz.ntmps37
  go_wp2
  go_loopw [5] (fun i wr => ∃ k : Nat, i = .int .i64 (k : Int) ∧ k ≤ rs.length ∧ Below w.heap.size w wr) (fun i _ => rs.length - (intOf i).toNat)
  case atStart => exact ⟨0, rfl, by omega, Below.refl _ _⟩
  case round =>
    obtain ⟨k, rfl, hk, hb⟩ := hrel
    by_cases hlt : k < rs.length
    · have hlt' : (k : Int) < (rs.length : Int) := by omega
      obtain ⟨b, o, c1, g, e, hs, ⟨q0, q1, q2, q3, q4, q5⟩, _⟩ := (H.out.1.below hb).at hlt
      obtain ⟨b', o', c2, g', e', hs', ⟨p0, p1, p2, p3, p4, p5⟩, _⟩ := (H.out.2.below hb).at hlt
      simp only [Value.slice.injEq, true_and] at e e'
      obtain ⟨rfl, rfl⟩ := e
      obtain ⟨rfl, rfl⟩ := e'
      obtain rfl : g = g' := by rw [hs] at hs'; exact Option.some.inj hs'
      have HB : Hid (Below w.heap.size w wr) := hb
      clear hs hs' hb
      have l1 := cell_lt q0
      have l2 := cell_lt p0
      go_wp2_with fail
      go_region_held3 (fun W => W.cell? ⟨b, o + k * 6, none⟩ = some (.int .i64 g.kind) ∧ W.cell? ⟨b, o + k * 6 + 1, none⟩ = some (.string g.partner) ∧ W.cell? ⟨b, o + k * 6 + 2, none⟩ = some (.string g.ref) ∧ W.cell? ⟨b, o + k * 6 + 3, none⟩ = some (.int .i64 g.no) ∧ W.cell? ⟨b, o + k * 6 + 4, none⟩ = some (.string g.item) ∧ W.cell? ⟨b, o + k * 6 + 5, none⟩ = some (.int .i64 g.qty) ∧ W.cell? ⟨b', o' + k * 6, none⟩ = some (.int .i64 g.kind) ∧ W.cell? ⟨b', o' + k * 6 + 1, none⟩ = some (.string g.partner) ∧ W.cell? ⟨b', o' + k * 6 + 2, none⟩ = some (.string g.ref) ∧ W.cell? ⟨b', o' + k * 6 + 3, none⟩ = some (.int .i64 g.no) ∧ W.cell? ⟨b', o' + k * 6 + 4, none⟩ = some (.string g.item) ∧ W.cell? ⟨b', o' + k * 6 + 5, none⟩ = some (.int .i64 g.qty)) (go_keep) (first | (go_at_call 76; refine (eqDf_any g _).mono ?_; rintro e w2 ⟨rfl, hb2⟩; have yb0 := (hb2.cell (p := ⟨b, o + k * 6, none⟩) l1).trans q0; have yb1 := (hb2.cell (p := ⟨b, o + k * 6 + 1, none⟩) l1).trans q1; have yb2 := (hb2.cell (p := ⟨b, o + k * 6 + 2, none⟩) l1).trans q2; have yb3 := (hb2.cell (p := ⟨b, o + k * 6 + 3, none⟩) l1).trans q3; have yb4 := (hb2.cell (p := ⟨b, o + k * 6 + 4, none⟩) l1).trans q4; have yb5 := (hb2.cell (p := ⟨b, o + k * 6 + 5, none⟩) l1).trans q5; have yp0 := (hb2.cell (p := ⟨b', o' + k * 6, none⟩) l2).trans p0; have yp1 := (hb2.cell (p := ⟨b', o' + k * 6 + 1, none⟩) l2).trans p1; have yp2 := (hb2.cell (p := ⟨b', o' + k * 6 + 2, none⟩) l2).trans p2; have yp3 := (hb2.cell (p := ⟨b', o' + k * 6 + 3, none⟩) l2).trans p3; have yp4 := (hb2.cell (p := ⟨b', o' + k * 6 + 4, none⟩) l2).trans p4; have yp5 := (hb2.cell (p := ⟨b', o' + k * 6 + 5, none⟩) l2).trans p5))
      have HB2 : Hid (Below w.heap.size w w2) := HB.out.drew.trans (hb2.mono HB.out.size)
      clear hb2
      rename_i hHeld
      clear hHeld
      go_wp2
      go_roundw
      case rel => exact ⟨k + 1, by go_num, by omega, HB2.out⟩
      case measure => simp [intOf]; omega
    · obtain rfl : k = rs.length := by omega
      have HB : Hid (Below w.heap.size w wr) := hb
      clear hb
      go_wp2
      go_ret
      exact ⟨rfl, HB.out⟩
end Go.Proofs.YtmffigmidlgigaaGreatDoor
