/- The comparisons of Rule: two that read as the same are told to be equal. -/
import Derived.Test.YtgmbphgkalhceaaRowRu
import Derived.Deep.RegionHeld3
import Derived.Deep.QuietTactic
import Derived.BigQuiet
import Derived.BigRegion
namespace Go.Proofs.Ytgmbphgkalhceaa
open Go.ChangeShapes Go.WideShapes Go.ChangeAt Go.RowKit
set_option maxHeartbeats 1000000 in
theorem eqRu_any (g : RulR) (w : World) :
    Calls Try.prog 16 #[.agg #[.string g.item, .int .i64 g.low, .int .i64 g.up], .agg #[.string g.item, .int .i64 g.low, .int .i64 g.up]] w fun e w' => e = .returned (.bool true) ∧ Below w.heap.size w w' := by
  obtain ⟨item, low, up⟩ := g
  dsimp only
  have b0 : Below w.heap.size w ((w.alloc (.cells #[.string item, .int .i64 low, .int .i64 up] 32)).alloc (.cells #[.string item, .int .i64 low, .int .i64 up] 32)) := ((Below.refl _ _).alloc (Nat.le_refl _) _).alloc (by simp) _
  go_enter Try.func16, Try.ntmps16
  go_wp2
  go_ret
  exact ⟨rfl, b0⟩
set_option maxHeartbeats 2000000 in
theorem eqRus_any (v v' : Value) (rs : List RulR) (w : World) (h : RowRu w v rs) (h' : RowRu w v' rs) :
    Calls Try.prog 8 #[v, v'] w fun e w' => e = .returned (.bool true) ∧ Below w.heap.size w w' := by
  have hlen := h.len
  obtain ⟨a, cap, rfl⟩ := h.val
  obtain ⟨a', cap', rfl⟩ := h'.val
  have H : Hid (RowRu w (.slice a rs.length cap) rs ∧ RowRu w (.slice a' rs.length cap') rs) := ⟨h, h'⟩
  clear h h'
  go_enter Try.func8, Try.ntmps8
  go_wp2
  go_loopw [5] (fun i wr => ∃ k : Nat, i = .int .i64 (k : Int) ∧ k ≤ rs.length ∧ Below w.heap.size w wr) (fun i _ => rs.length - (intOf i).toNat)
  case atStart => exact ⟨0, rfl, by omega, Below.refl _ _⟩
  case round =>
    obtain ⟨k, rfl, hk, hb⟩ := hrel
    by_cases hlt : k < rs.length
    · have hlt' : (k : Int) < (rs.length : Int) := by omega
      obtain ⟨b, o, c1, g, e, hs, ⟨q0, q1, q2⟩, _⟩ := (H.out.1.below hb).at hlt
      obtain ⟨b', o', c2, g', e', hs', ⟨p0, p1, p2⟩, _⟩ := (H.out.2.below hb).at hlt
      simp only [Value.slice.injEq, true_and] at e e'
      obtain ⟨rfl, rfl⟩ := e
      obtain ⟨rfl, rfl⟩ := e'
      obtain rfl : g = g' := by rw [hs] at hs'; exact Option.some.inj hs'
      have HB : Hid (Below w.heap.size w wr) := hb
      clear hs hs' hb
      have l1 := cell_lt q0
      have l2 := cell_lt p0
      go_wp2_with fail
      go_region_held3 (fun W => W.cell? ⟨b, o + k * 3, none⟩ = some (.string g.item) ∧ W.cell? ⟨b, o + k * 3 + 1, none⟩ = some (.int .i64 g.low) ∧ W.cell? ⟨b, o + k * 3 + 2, none⟩ = some (.int .i64 g.up) ∧ W.cell? ⟨b', o' + k * 3, none⟩ = some (.string g.item) ∧ W.cell? ⟨b', o' + k * 3 + 1, none⟩ = some (.int .i64 g.low) ∧ W.cell? ⟨b', o' + k * 3 + 2, none⟩ = some (.int .i64 g.up)) (go_keep) (first | (go_at_call 16; refine (eqRu_any g _).mono ?_; rintro e w2 ⟨rfl, hb2⟩; have yb0 := (hb2.cell (p := ⟨b, o + k * 3, none⟩) l1).trans q0; have yb1 := (hb2.cell (p := ⟨b, o + k * 3 + 1, none⟩) l1).trans q1; have yb2 := (hb2.cell (p := ⟨b, o + k * 3 + 2, none⟩) l1).trans q2; have yp0 := (hb2.cell (p := ⟨b', o' + k * 3, none⟩) l2).trans p0; have yp1 := (hb2.cell (p := ⟨b', o' + k * 3 + 1, none⟩) l2).trans p1; have yp2 := (hb2.cell (p := ⟨b', o' + k * 3 + 2, none⟩) l2).trans p2))
      have HB2 : Hid (Below w.heap.size w w2) := HB.out.drew.trans (hb2.mono HB.out.size)
      clear hb2
      rename_i hHeld
      clear hHeld
      go_wp2
      go_roundw
      case rel => exact ⟨k + 1, by go_num, by omega, HB2.out⟩
      case measure => simp [intOf]; omega
    · obtain rfl : k = rs.length := by omega
      have HB : Hid (Below w.heap.size w wr) := hb
      clear hb
      go_wp2
      go_ret
      exact ⟨rfl, HB.out⟩
end Go.Proofs.Ytgmbphgkalhceaa
