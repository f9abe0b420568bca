/- Texts of ours put together: EqSn, EqPt. -/
import Derived.Test.YtmffigmidlgigaaGreatDoorG01
import Derived.Deep.RegionHeld3
import Derived.Deep.QuietTactic
import Derived.BigQuiet
import Derived.BigRegion
import Derived.Test.YtmffigmidlgigaaGreatDoorG02
namespace Go.Proofs.YtmffigmidlgigaaGreatDoor
open Go.ChangeShapes Go.WideShapes Go.ChangeAt Go.RowKit
set_option maxHeartbeats 1000000 in
theorem eqSn_any (g : Sn) (w : World) :
    Calls Tryz.prog 120 #[.agg #[.int .i64 g.number, .int .i64 g.answer, .int .i64 g.code], .agg #[.int .i64 g.number, .int .i64 g.answer, .int .i64 g.code]] w fun e w' => e = .returned (.bool true) ∧ Below w.heap.size w w' := by
  obtain ⟨number, answer, code⟩ := g
  dsimp only
  have b0 : Below w.heap.size w ((w.alloc (.cells #[.int .i64 number, .int .i64 answer, .int .i64 code] 140)).alloc (.cells #[.int .i64 number, .int .i64 answer, .int .i64 code] 140)) := ((Below.refl _ _).alloc (Nat.le_refl _) _).alloc (by simp) _
  go_enter Tryz.func120, Tryz.ntmps120
  go_wp2
  go_ret
  exact ⟨rfl, b0⟩
set_option maxHeartbeats 2000000 in
theorem eqSns_any (v v' : Value) (rs : List Sn) (w : World) (h : RowSn w v rs) (h' : RowSn w v' rs) :
    Calls Tryz.prog 99 #[v, v'] w fun e w' => e = .returned (.bool true) ∧ Below w.heap.size w w' := by
  have hlen := h.len
  obtain ⟨a, cap, rfl⟩ := h.val
  obtain ⟨a', cap', rfl⟩ := h'.val
  have H : Hid (RowSn w (.slice a rs.length cap) rs ∧ RowSn w (.slice a' rs.length cap') rs) := ⟨h, h'⟩
  clear h h'
  go_enter Tryz.func99, Tryz.ntmps99
  go_wp2
  go_loopw [5] (fun i wr => ∃ k : Nat, i = .int .i64 (k : Int) ∧ k ≤ rs.length ∧ Below w.heap.size w wr) (fun i _ => rs.length - (intOf i).toNat)
  case atStart => exact ⟨0, rfl, by omega, Below.refl _ _⟩
  case round =>
    obtain ⟨k, rfl, hk, hb⟩ := hrel
    by_cases hlt : k < rs.length
    · have hlt' : (k : Int) < (rs.length : Int) := by omega
      obtain ⟨b, o, c1, g, e, hs, ⟨q0, q1, q2⟩⟩ := (H.out.1.below hb).at hlt
      obtain ⟨b', o', c2, g', e', hs', ⟨p0, p1, p2⟩⟩ := (H.out.2.below hb).at hlt
      simp only [Value.slice.injEq, true_and] at e e'
      obtain ⟨rfl, rfl⟩ := e
      obtain ⟨rfl, rfl⟩ := e'
      obtain rfl : g = g' := by rw [hs] at hs'; exact Option.some.inj hs'
      have HB : Hid (Below w.heap.size w wr) := hb
      clear hs hs' hb
      have l1 := cell_lt q0
      have l2 := cell_lt p0
      go_wp2_with fail
      go_region_held3 (fun W => W.cell? ⟨b, o + k * 3, none⟩ = some (.int .i64 g.number) ∧ W.cell? ⟨b, o + k * 3 + 1, none⟩ = some (.int .i64 g.answer) ∧ W.cell? ⟨b, o + k * 3 + 2, none⟩ = some (.int .i64 g.code) ∧ W.cell? ⟨b', o' + k * 3, none⟩ = some (.int .i64 g.number) ∧ W.cell? ⟨b', o' + k * 3 + 1, none⟩ = some (.int .i64 g.answer) ∧ W.cell? ⟨b', o' + k * 3 + 2, none⟩ = some (.int .i64 g.code)) (go_keep) (first | (go_at_call 120; refine (eqSn_any g _).mono ?_; rintro e w2 ⟨rfl, hb2⟩; have yb0 := (hb2.cell (p := ⟨b, o + k * 3, none⟩) l1).trans q0; have yb1 := (hb2.cell (p := ⟨b, o + k * 3 + 1, none⟩) l1).trans q1; have yb2 := (hb2.cell (p := ⟨b, o + k * 3 + 2, none⟩) l1).trans q2; have yp0 := (hb2.cell (p := ⟨b', o' + k * 3, none⟩) l2).trans p0; have yp1 := (hb2.cell (p := ⟨b', o' + k * 3 + 1, none⟩) l2).trans p1; have yp2 := (hb2.cell (p := ⟨b', o' + k * 3 + 2, none⟩) l2).trans p2))
      have HB2 : Hid (Below w.heap.size w w2) := HB.out.drew.trans (hb2.mono HB.out.size)
      clear hb2
      rename_i hHeld
      clear hHeld
      go_wp2
      go_roundw
      case rel => exact ⟨k + 1, by go_num, by omega, HB2.out⟩
      case measure => simp [intOf]; omega
    · obtain rfl : k = rs.length := by omega
      have HB : Hid (Below w.heap.size w wr) := hb
      clear hb
      go_wp2
      go_ret
      exact ⟨rfl, HB.out⟩
end Go.Proofs.YtmffigmidlgigaaGreatDoor
namespace Go.Proofs.YtmffigmidlgigaaGreatDoor
open Go.ChangeShapes Go.WideShapes Go.ChangeAt Go.RowKit
set_option maxHeartbeats 2000000 in
theorem eqPt_any (r : Ptn) (v v' : Value) (w : World) (h : RPt w v r) (h' : RPt w v' r) :
    Calls Tryz.prog 72 #[.agg #[.string r.name, .int .i64 r.low, .int .i64 r.next, v], .agg #[.string r.name, .int .i64 r.low, .int .i64 r.next, v']] w fun e w' => e = .returned (.bool true) ∧ Below w.heap.size w w' := by
  obtain ⟨name, low, next, seen⟩ := r
  obtain ⟨a, cap, rfl⟩ := h.ls.val
  obtain ⟨a', cap', rfl⟩ := h'.ls.val
  dsimp only at h h' ⊢
  have b0 : Below w.heap.size w ((w.alloc (.cells #[.string name, .int .i64 low, .int .i64 next, (.slice a seen.length cap)] 105)).alloc (.cells #[.string name, .int .i64 low, .int .i64 next, (.slice a' seen.length cap')] 105)) := ((Below.refl _ _).alloc (Nat.le_refl _) _).alloc (by simp) _
  have H : Hid (RowSn ((w.alloc (.cells #[.string name, .int .i64 low, .int .i64 next, (.slice a seen.length cap)] 105)).alloc (.cells #[.string name, .int .i64 low, .int .i64 next, (.slice a' seen.length cap')] 105)) (.slice a seen.length cap) seen ∧ RowSn ((w.alloc (.cells #[.string name, .int .i64 low, .int .i64 next, (.slice a seen.length cap)] 105)).alloc (.cells #[.string name, .int .i64 low, .int .i64 next, (.slice a' seen.length cap')] 105)) (.slice a' seen.length cap') seen) := ⟨h.ls.below b0, h'.ls.below b0⟩
  clear h h'
  go_enter Tryz.func72, Tryz.ntmps72
  go_wp2_with fail
  refine (eqSns_any _ _ seen _ H.out.1 H.out.2).mono ?_
  rintro e w1 ⟨rfl, hb⟩
  have HC : Hid (Below w.heap.size w w1) := b0.trans (hb.mono (by simp; omega))
  clear hb
  go_wp2
  go_ret
  exact ⟨rfl, HC.out⟩
end Go.Proofs.YtmffigmidlgigaaGreatDoor
