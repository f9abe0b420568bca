/- The comparisons of OrderLine: two that read as the same are told to be equal. -/
import Derived.Test.YtnaidbpkllmeoaaRowOl
import Derived.Deep.RegionHeld3
import Derived.Deep.QuietTactic
import Derived.BigQuiet
import Derived.BigRegion
namespace Go.Proofs.Ytnaidbpkllmeoaa
open Go.ChangeShapes Go.WideShapes Go.ChangeAt Go.RowKit
set_option maxHeartbeats 1000000 in
theorem eqOl_any (g : OLn) (w : World) :
    Calls Try.prog 34 #[.agg #[.string g.partner, .string g.ref, .int .i64 g.no, .string g.item, .int .i64 g.ordered, .int .i64 g.sent, .int .i64 g.got, .int .i64 g.cut], .agg #[.string g.partner, .string g.ref, .int .i64 g.no, .string g.item, .int .i64 g.ordered, .int .i64 g.sent, .int .i64 g.got, .int .i64 g.cut]] w fun e w' => e = .returned (.bool true) ∧ Below w.heap.size w w' := by
  obtain ⟨partner, ref, no, item, ordered, sent, got, cut⟩ := g
  dsimp only
  have b0 : Below w.heap.size w ((w.alloc (.cells #[.string partner, .string ref, .int .i64 no, .string item, .int .i64 ordered, .int .i64 sent, .int .i64 got, .int .i64 cut] 26)).alloc (.cells #[.string partner, .string ref, .int .i64 no, .string item, .int .i64 ordered, .int .i64 sent, .int .i64 got, .int .i64 cut] 26)) := ((Below.refl _ _).alloc (Nat.le_refl _) _).alloc (by simp) _
  go_enter Try.func34, Try.ntmps34
  go_wp2
  go_ret
  exact ⟨rfl, b0⟩
set_option maxHeartbeats 2000000 in
theorem eqOls_any (v v' : Value) (rs : List OLn) (w : World) (h : RowOl w v rs) (h' : RowOl w v' rs) :
    Calls Try.prog 17 #[v, v'] w fun e w' => e = .returned (.bool true) ∧ Below w.heap.size w w' := by
  have hlen := h.len
  obtain ⟨a, cap, rfl⟩ := h.val
  obtain ⟨a', cap', rfl⟩ := h'.val
  have H : Hid (RowOl w (.slice a rs.length cap) rs ∧ RowOl w (.slice a' rs.length cap') rs) := ⟨h, h'⟩
  clear h h'
  go_enter Try.func17, Try.ntmps17
  go_wp2
  go_loopw [5] (fun i wr => ∃ k : Nat, i = .int .i64 (k : Int) ∧ k ≤ rs.length ∧ Below w.heap.size w wr) (fun i _ => rs.length - (intOf i).toNat)
  case atStart => exact ⟨0, rfl, by omega, Below.refl _ _⟩
  case round =>
    obtain ⟨k, rfl, hk, hb⟩ := hrel
    by_cases hlt : k < rs.length
    · have hlt' : (k : Int) < (rs.length : Int) := by omega
      obtain ⟨b, o, c1, g, e, hs, ⟨q0, q1, q2, q3, q4, q5, q6, q7⟩, _⟩ := (H.out.1.below hb).at hlt
      obtain ⟨b', o', c2, g', e', hs', ⟨p0, p1, p2, p3, p4, p5, p6, p7⟩, _⟩ := (H.out.2.below hb).at hlt
      simp only [Value.slice.injEq, true_and] at e e'
      obtain ⟨rfl, rfl⟩ := e
      obtain ⟨rfl, rfl⟩ := e'
      obtain rfl : g = g' := by rw [hs] at hs'; exact Option.some.inj hs'
      have HB : Hid (Below w.heap.size w wr) := hb
      clear hs hs' hb
      have l1 := cell_lt q0
      have l2 := cell_lt p0
      go_wp2_with fail
      go_region_held3 (fun W => W.cell? ⟨b, o + k * 8, none⟩ = some (.string g.partner) ∧ W.cell? ⟨b, o + k * 8 + 1, none⟩ = some (.string g.ref) ∧ W.cell? ⟨b, o + k * 8 + 2, none⟩ = some (.int .i64 g.no) ∧ W.cell? ⟨b, o + k * 8 + 3, none⟩ = some (.string g.item) ∧ W.cell? ⟨b, o + k * 8 + 4, none⟩ = some (.int .i64 g.ordered) ∧ W.cell? ⟨b, o + k * 8 + 5, none⟩ = some (.int .i64 g.sent) ∧ W.cell? ⟨b, o + k * 8 + 6, none⟩ = some (.int .i64 g.got) ∧ W.cell? ⟨b, o + k * 8 + 7, none⟩ = some (.int .i64 g.cut) ∧ W.cell? ⟨b', o' + k * 8, none⟩ = some (.string g.partner) ∧ W.cell? ⟨b', o' + k * 8 + 1, none⟩ = some (.string g.ref) ∧ W.cell? ⟨b', o' + k * 8 + 2, none⟩ = some (.int .i64 g.no) ∧ W.cell? ⟨b', o' + k * 8 + 3, none⟩ = some (.string g.item) ∧ W.cell? ⟨b', o' + k * 8 + 4, none⟩ = some (.int .i64 g.ordered) ∧ W.cell? ⟨b', o' + k * 8 + 5, none⟩ = some (.int .i64 g.sent) ∧ W.cell? ⟨b', o' + k * 8 + 6, none⟩ = some (.int .i64 g.got) ∧ W.cell? ⟨b', o' + k * 8 + 7, none⟩ = some (.int .i64 g.cut)) (go_keep) (first | (go_at_call 34; refine (eqOl_any g _).mono ?_; rintro e w2 ⟨rfl, hb2⟩; have yb0 := (hb2.cell (p := ⟨b, o + k * 8, none⟩) l1).trans q0; have yb1 := (hb2.cell (p := ⟨b, o + k * 8 + 1, none⟩) l1).trans q1; have yb2 := (hb2.cell (p := ⟨b, o + k * 8 + 2, none⟩) l1).trans q2; have yb3 := (hb2.cell (p := ⟨b, o + k * 8 + 3, none⟩) l1).trans q3; have yb4 := (hb2.cell (p := ⟨b, o + k * 8 + 4, none⟩) l1).trans q4; have yb5 := (hb2.cell (p := ⟨b, o + k * 8 + 5, none⟩) l1).trans q5; have yb6 := (hb2.cell (p := ⟨b, o + k * 8 + 6, none⟩) l1).trans q6; have yb7 := (hb2.cell (p := ⟨b, o + k * 8 + 7, none⟩) l1).trans q7; have yp0 := (hb2.cell (p := ⟨b', o' + k * 8, none⟩) l2).trans p0; have yp1 := (hb2.cell (p := ⟨b', o' + k * 8 + 1, none⟩) l2).trans p1; have yp2 := (hb2.cell (p := ⟨b', o' + k * 8 + 2, none⟩) l2).trans p2; have yp3 := (hb2.cell (p := ⟨b', o' + k * 8 + 3, none⟩) l2).trans p3; have yp4 := (hb2.cell (p := ⟨b', o' + k * 8 + 4, none⟩) l2).trans p4; have yp5 := (hb2.cell (p := ⟨b', o' + k * 8 + 5, none⟩) l2).trans p5; have yp6 := (hb2.cell (p := ⟨b', o' + k * 8 + 6, none⟩) l2).trans p6; have yp7 := (hb2.cell (p := ⟨b', o' + k * 8 + 7, none⟩) l2).trans p7))
      have HB2 : Hid (Below w.heap.size w w2) := HB.out.drew.trans (hb2.mono HB.out.size)
      clear hb2
      rename_i hHeld
      clear hHeld
      go_wp2
      go_roundw
      case rel => exact ⟨k + 1, by go_num, by omega, HB2.out⟩
      case measure => simp [intOf]; omega
    · obtain rfl : k = rs.length := by omega
      have HB : Hid (Below w.heap.size w wr) := hb
      clear hb
      go_wp2
      go_ret
      exact ⟨rfl, HB.out⟩
end Go.Proofs.Ytnaidbpkllmeoaa
