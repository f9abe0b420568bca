/- Texts of ours put together: EqEv. -/
import Derived.Test.YtibjmokhkjklkaaDoorG01
import Derived.Deep.RegionHeld3
import Derived.Deep.QuietTactic
import Derived.BigQuiet
import Derived.BigRegion
namespace Go.Proofs.YtibjmokhkjklkaaDoor
open Go.ChangeShapes Go.WideShapes Go.ChangeAt Go.RowKit
set_option maxHeartbeats 1000000 in
theorem eqEv_any (g : EvR) (w : World) :
    Calls Tryd.prog 27 #[.agg #[.int .i64 g.kind, .string g.a, .string g.b, .string g.c], .agg #[.int .i64 g.kind, .string g.a, .string g.b, .string g.c]] w fun e w' => e = .returned (.bool true) ∧ Below w.heap.size w w' := by
  obtain ⟨kind, a, b, c⟩ := g
  dsimp only
  have b0 : Below w.heap.size w ((w.alloc (.cells #[.int .i64 kind, .string a, .string b, .string c] 40)).alloc (.cells #[.int .i64 kind, .string a, .string b, .string c] 40)) := ((Below.refl _ _).alloc (Nat.le_refl _) _).alloc (by simp) _
  go_enter Tryd.func27, Tryd.ntmps27
  go_wp2
  go_ret
  exact ⟨rfl, b0⟩
set_option maxHeartbeats 2000000 in
theorem eqEvs_any (v v' : Value) (rs : List EvR) (w : World) (h : RowEv w v rs) (h' : RowEv w v' rs) :
    Calls Tryd.prog 11 #[v, v'] w fun e w' => e = .returned (.bool true) ∧ Below w.heap.size w w' := by
  have hlen := h.len
  obtain ⟨a, cap, rfl⟩ := h.val
  obtain ⟨a', cap', rfl⟩ := h'.val
  have H : Hid (RowEv w (.slice a rs.length cap) rs ∧ RowEv w (.slice a' rs.length cap') rs) := ⟨h, h'⟩
  clear h h'
  go_enter Tryd.func11, Tryd.ntmps11
  go_wp2
  go_loopw [5] (fun i wr => ∃ k : Nat, i = .int .i64 (k : Int) ∧ k ≤ rs.length ∧ Below w.heap.size w wr) (fun i _ => rs.length - (intOf i).toNat)
  case atStart => exact ⟨0, rfl, by omega, Below.refl _ _⟩
  case round =>
    obtain ⟨k, rfl, hk, hb⟩ := hrel
    by_cases hlt : k < rs.length
    · have hlt' : (k : Int) < (rs.length : Int) := by omega
      obtain ⟨b, o, c1, g, e, hs, ⟨q0, q1, q2, q3⟩, _⟩ := (H.out.1.below hb).at hlt
      obtain ⟨b', o', c2, g', e', hs', ⟨p0, p1, p2, p3⟩, _⟩ := (H.out.2.below hb).at hlt
      simp only [Value.slice.injEq, true_and] at e e'
      obtain ⟨rfl, rfl⟩ := e
      obtain ⟨rfl, rfl⟩ := e'
      obtain rfl : g = g' := by rw [hs] at hs'; exact Option.some.inj hs'
      have HB : Hid (Below w.heap.size w wr) := hb
      clear hs hs' hb
      have l1 := cell_lt q0
      have l2 := cell_lt p0
      go_wp2_with fail
      go_region_held3 (fun W => W.cell? ⟨b, o + k * 4, none⟩ = some (.int .i64 g.kind) ∧ W.cell? ⟨b, o + k * 4 + 1, none⟩ = some (.string g.a) ∧ W.cell? ⟨b, o + k * 4 + 2, none⟩ = some (.string g.b) ∧ W.cell? ⟨b, o + k * 4 + 3, none⟩ = some (.string g.c) ∧ W.cell? ⟨b', o' + k * 4, none⟩ = some (.int .i64 g.kind) ∧ W.cell? ⟨b', o' + k * 4 + 1, none⟩ = some (.string g.a) ∧ W.cell? ⟨b', o' + k * 4 + 2, none⟩ = some (.string g.b) ∧ W.cell? ⟨b', o' + k * 4 + 3, none⟩ = some (.string g.c)) (go_keep) (first | (go_at_call 27; refine (eqEv_any g _).mono ?_; rintro e w2 ⟨rfl, hb2⟩; have yb0 := (hb2.cell (p := ⟨b, o + k * 4, none⟩) l1).trans q0; have yb1 := (hb2.cell (p := ⟨b, o + k * 4 + 1, none⟩) l1).trans q1; have yb2 := (hb2.cell (p := ⟨b, o + k * 4 + 2, none⟩) l1).trans q2; have yb3 := (hb2.cell (p := ⟨b, o + k * 4 + 3, none⟩) l1).trans q3; have yp0 := (hb2.cell (p := ⟨b', o' + k * 4, none⟩) l2).trans p0; have yp1 := (hb2.cell (p := ⟨b', o' + k * 4 + 1, none⟩) l2).trans p1; have yp2 := (hb2.cell (p := ⟨b', o' + k * 4 + 2, none⟩) l2).trans p2; have yp3 := (hb2.cell (p := ⟨b', o' + k * 4 + 3, none⟩) l2).trans p3))
      have HB2 : Hid (Below w.heap.size w w2) := HB.out.drew.trans (hb2.mono HB.out.size)
      clear hb2
      rename_i hHeld
      clear hHeld
      go_wp2
      go_roundw
      case rel => exact ⟨k + 1, by go_num, by omega, HB2.out⟩
      case measure => simp [intOf]; omega
    · obtain rfl : k = rs.length := by omega
      have HB : Hid (Below w.heap.size w wr) := hb
      clear hb
      go_wp2
      go_ret
      exact ⟨rfl, HB.out⟩
end Go.Proofs.YtibjmokhkjklkaaDoor
