/- The comparisons of papers and parcels: two that read as the same are told to be equal. -/
import Derived.Test.YtballllmenhghaaRowPs
import Derived.Test.YtballllmenhghaaEqL
import Derived.Deep.RegionHeld3
namespace Go.Proofs.Ytballllmenhghaa
open Go.ChangeShapes Go.WideShapes Go.ChangeAt Go.RowKit
set_option maxHeartbeats 4000000 in
theorem eqPs_any (v v' : Value) (ps : List Pap) (w : World) (h : RowPs w v ps) (h' : RowPs w v' ps) :
    Calls Try.prog 13 #[v, v'] w fun e w' => e = .returned (.bool true) ∧ Below w.heap.size w w' := by
  have hlen := h.len
  obtain ⟨a, cap, rfl⟩ := h.val
  obtain ⟨a', cap', rfl⟩ := h'.val
  have H : Hid (RowPs w (.slice a ps.length cap) ps ∧ RowPs w (.slice a' ps.length cap') ps) := ⟨h, h'⟩
  clear h h'
  go_enter Try.func13, Try.ntmps13
  go_wp2
  go_loopw [5] (fun i wr => ∃ k : Nat, i = .int .i64 (k : Int) ∧ k ≤ ps.length ∧ Below w.heap.size w wr) (fun i _ => ps.length - (intOf i).toNat)
  case atStart => exact ⟨0, rfl, by omega, Below.refl _ _⟩
  case round =>
    obtain ⟨k, rfl, hk, hb⟩ := hrel
    by_cases hlt : k < ps.length
    · have hlt' : (k : Int) < (ps.length : Int) := by omega
      obtain ⟨b, o, c1, g, vn, vl, e, hs, A, hR⟩ := (H.out.1.below hb).at hlt
      obtain ⟨b', o', c2, g', vn', vl', e', hs', A', hR'⟩ := (H.out.2.below hb).at hlt
      simp only [Value.slice.injEq, true_and] at e e'
      obtain ⟨rfl, rfl⟩ := e
      obtain ⟨rfl, rfl⟩ := e'
      obtain rfl : g = g' := by rw [hs] at hs'; exact Option.some.inj hs'
      have HB : Hid (Below w.heap.size w wr ∧ PapR wr vn vl g ∧ PapR wr vn' vl' g ∧ PapAt wr b (o + k * 6) vn vl g ∧ PapAt wr b' (o' + k * 6) vn' vl' g) := ⟨hb, hR, hR', A, A'⟩
      clear hs hs' hb hR hR'
      obtain ⟨q0, q1, q2, q3, q4, q5⟩ := A
      obtain ⟨p0, p1, p2, p3, p4, p5⟩ := A'
      go_wp2_with fail
      go_region_held3 (fun W => W.cell? ⟨b, o + k * 6, none⟩ = some (.int .i64 g.kind) ∧ W.cell? ⟨b, o + k * 6 + 1, none⟩ = some (.string g.ref) ∧ W.cell? ⟨b, o + k * 6 + 2, none⟩ = some (.string g.other) ∧ W.cell? ⟨b, o + k * 6 + 3, none⟩ = some (.int .i64 g.day) ∧ W.cell? ⟨b, o + k * 6 + 4, none⟩ = some vn ∧ W.cell? ⟨b, o + k * 6 + 5, none⟩ = some vl ∧ W.cell? ⟨b', o' + k * 6, none⟩ = some (.int .i64 g.kind) ∧ W.cell? ⟨b', o' + k * 6 + 1, none⟩ = some (.string g.ref) ∧ W.cell? ⟨b', o' + k * 6 + 2, none⟩ = some (.string g.other) ∧ W.cell? ⟨b', o' + k * 6 + 3, none⟩ = some (.int .i64 g.day) ∧ W.cell? ⟨b', o' + k * 6 + 4, none⟩ = some vn' ∧ W.cell? ⟨b', o' + k * 6 + 5, none⟩ = some vl') (go_keep) (first | (go_at_call 18; refine (eqP_any g vn vl vn' vl' _ (HB.out.2.1.below (Below.refl _ _).drew) (HB.out.2.2.1.below (Below.refl _ _).drew)).mono ?_; rintro e w2 ⟨rfl, hb2⟩; obtain ⟨y0, y1, y2, y3, y4, y5⟩ := (HB.out.2.2.2.1.below (Below.refl _ _).drew).below hb2; obtain ⟨z0, z1, z2, z3, z4, z5⟩ := (HB.out.2.2.2.2.below (Below.refl _ _).drew).below hb2))
      have HB2 : Hid (Below w.heap.size w w2) := HB.out.1.drew.trans (hb2.mono HB.out.1.size)
      clear hb2
      rename_i hHeld
      clear hHeld
      go_wp2
      go_roundw
      case rel => exact ⟨k + 1, by go_num, by omega, HB2.out⟩
      case measure => simp [intOf]; omega
    · obtain rfl : k = ps.length := by omega
      have HB : Hid (Below w.heap.size w wr) := hb
      clear hb
      go_wp2
      go_ret
      exact ⟨rfl, HB.out⟩
set_option maxHeartbeats 2000000 in
theorem eqPc_any (p : Pcl) (v v' : Value) (w : World) (h : PclR w v p) (h' : PclR w v' p) :
    Calls Try.prog 8 #[.agg #[.string p.frm, .string p.to, .int .i64 p.num, v], .agg #[.string p.frm, .string p.to, .int .i64 p.num, v']] w fun e w' => e = .returned (.bool true) ∧ Below w.heap.size w w' := by
  obtain ⟨frm, to, num, ps⟩ := p
  obtain ⟨a, cap, rfl⟩ := h.ps.val
  obtain ⟨a', cap', rfl⟩ := h'.ps.val
  dsimp only at h h' ⊢
  have b0 : Below w.heap.size w ((w.alloc (.cells #[.string frm, .string to, .int .i64 num, .slice a ps.length cap] 29)).alloc (.cells #[.string frm, .string to, .int .i64 num, .slice a' ps.length cap'] 29)) := ((Below.refl _ _).alloc (Nat.le_refl _) _).alloc (by simp) _
  have H : Hid (RowPs ((w.alloc (.cells #[.string frm, .string to, .int .i64 num, .slice a ps.length cap] 29)).alloc (.cells #[.string frm, .string to, .int .i64 num, .slice a' ps.length cap'] 29)) (.slice a ps.length cap) ps ∧ RowPs ((w.alloc (.cells #[.string frm, .string to, .int .i64 num, .slice a ps.length cap] 29)).alloc (.cells #[.string frm, .string to, .int .i64 num, .slice a' ps.length cap'] 29)) (.slice a' ps.length cap') ps) := ⟨h.ps.below b0, h'.ps.below b0⟩
  clear h h'
  go_enter Try.func8, Try.ntmps8
  go_wp2_with fail
  refine (eqPs_any _ _ ps _ H.out.1 H.out.2).mono ?_
  rintro e w1 ⟨rfl, hb⟩
  have HC : Hid (Below w.heap.size w w1) := b0.trans (hb.mono (by simp; omega))
  clear hb
  go_wp2
  go_ret
  exact ⟨rfl, HC.out⟩
end Go.Proofs.Ytballllmenhghaa
