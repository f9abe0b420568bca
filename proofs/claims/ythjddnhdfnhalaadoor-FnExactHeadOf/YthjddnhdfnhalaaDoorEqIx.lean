/- The comparisons of messages, bundles and interchanges: two that read as the same are told to be equal. -/
import Derived.Test.YthjddnhdfnhalaaDoorRowIx
import Derived.Test.YthjddnhdfnhalaaDoorDeepG
import Derived.Deep.RegionHeld3
namespace Go.Proofs.YthjddnhdfnhalaaDoor
open Go.ChangeShapes Go.WideShapes Go.ChangeAt Go.RowKit
set_option maxHeartbeats 2000000 in
theorem eqM_any (r : Msg) (v v' : Value) (w : World) (h : RM w v r) (h' : RM w v' r) :
    Calls Tryd.prog 72 #[.agg #[.int .i64 r.num, v], .agg #[.int .i64 r.num, v']] w fun e w' => e = .returned (.bool true) ∧ Below w.heap.size w w' := by
  obtain ⟨num, body⟩ := r
  obtain ⟨a, cap, rfl⟩ := h.ls.val
  obtain ⟨a', cap', rfl⟩ := h'.ls.val
  dsimp only at h h' ⊢
  have b0 : Below w.heap.size w ((w.alloc (.cells #[.int .i64 num, (.slice a body.length cap)] 106)).alloc (.cells #[.int .i64 num, (.slice a' body.length cap')] 106)) := ((Below.refl _ _).alloc (Nat.le_refl _) _).alloc (by simp) _
  have H : Hid (RowG ((w.alloc (.cells #[.int .i64 num, (.slice a body.length cap)] 106)).alloc (.cells #[.int .i64 num, (.slice a' body.length cap')] 106)) (.slice a body.length cap) body ∧ RowG ((w.alloc (.cells #[.int .i64 num, (.slice a body.length cap)] 106)).alloc (.cells #[.int .i64 num, (.slice a' body.length cap')] 106)) (.slice a' body.length cap') body) := ⟨h.ls.below b0, h'.ls.below b0⟩
  clear h h'
  go_enter Tryd.func72, Tryd.ntmps72
  go_wp2_with fail
  refine (eqGs_any _ _ body _ H.out.1 H.out.2).mono ?_
  rintro e w1 ⟨rfl, hb⟩
  have HC : Hid (Below w.heap.size w w1) := b0.trans (hb.mono (by simp; omega))
  clear hb
  go_wp2
  go_ret
  exact ⟨rfl, HC.out⟩
set_option maxHeartbeats 4000000 in
theorem eqsM_any (v v' : Value) (rs : List Msg) (w : World) (h : RowM w v rs) (h' : RowM w v' rs) :
    Calls Tryd.prog 64 #[v, v'] w fun e w' => e = .returned (.bool true) ∧ Below w.heap.size w w' := by
  have hlen := h.len
  obtain ⟨a, cap, rfl⟩ := h.val
  obtain ⟨a', cap', rfl⟩ := h'.val
  have H : Hid (RowM w (.slice a rs.length cap) rs ∧ RowM w (.slice a' rs.length cap') rs) := ⟨h, h'⟩
  clear h h'
  go_enter Tryd.func64, Tryd.ntmps64
  go_wp2
  go_loopw [5] (fun i wr => ∃ k : Nat, i = .int .i64 (k : Int) ∧ k ≤ rs.length ∧ Below w.heap.size w wr) (fun i _ => rs.length - (intOf i).toNat)
  case atStart => exact ⟨0, rfl, by omega, Below.refl _ _⟩
  case round =>
    obtain ⟨k, rfl, hk, hb⟩ := hrel
    by_cases hlt : k < rs.length
    · have hlt' : (k : Int) < (rs.length : Int) := by omega
      obtain ⟨b, o, c1, g, u, e, hs, A, hR⟩ := (H.out.1.below hb).at hlt
      obtain ⟨b', o', c2, g', u', e', hs', A', hR'⟩ := (H.out.2.below hb).at hlt
      simp only [Value.slice.injEq, true_and] at e e'
      obtain ⟨rfl, rfl⟩ := e
      obtain ⟨rfl, rfl⟩ := e'
      obtain rfl : g = g' := by rw [hs] at hs'; exact Option.some.inj hs'
      have HB : Hid (Below w.heap.size w wr ∧ RM wr u g ∧ RM wr u' g ∧ AtM wr b (o + k * 2) u g ∧ AtM wr b' (o' + k * 2) u' g) := ⟨hb, hR, hR', A, A'⟩
      clear hs hs' hb hR hR'
      obtain ⟨q0, q1⟩ := A
      obtain ⟨p0, p1⟩ := A'
      go_wp2_with fail
      go_region_held3 (fun W => W.cell? ⟨b, o + k * 2, none⟩ = some (.int .i64 g.num) ∧ W.cell? ⟨b, o + k * 2 + 1, none⟩ = some (u) ∧ W.cell? ⟨b', o' + k * 2, none⟩ = some (.int .i64 g.num) ∧ W.cell? ⟨b', o' + k * 2 + 1, none⟩ = some (u')) (go_keep) (first | (go_at_call 72; refine (eqM_any g u u' _ (HB.out.2.1.below (Below.refl _ _).drew) (HB.out.2.2.1.below (Below.refl _ _).drew)).mono ?_; rintro e w2 ⟨rfl, hb2⟩; obtain ⟨y0, y1⟩ := (HB.out.2.2.2.1.below (Below.refl _ _).drew).below hb2; obtain ⟨z0, z1⟩ := (HB.out.2.2.2.2.below (Below.refl _ _).drew).below hb2))
      have HB2 : Hid (Below w.heap.size w w2) := HB.out.1.drew.trans (hb2.mono HB.out.1.size)
      clear hb2
      rename_i hHeld
      clear hHeld
      go_wp2
      go_roundw
      case rel => exact ⟨k + 1, by go_num, by omega, HB2.out⟩
      case measure => simp [intOf]; omega
    · obtain rfl : k = rs.length := by omega
      have HB : Hid (Below w.heap.size w wr) := hb
      clear hb
      go_wp2
      go_ret
      exact ⟨rfl, HB.out⟩
set_option maxHeartbeats 2000000 in
theorem eqB_any (r : Bun) (v v' : Value) (w : World) (h : RB w v r) (h' : RB w v' r) :
    Calls Tryd.prog 52 #[.agg #[.int .i64 r.kind, .int .i64 r.num, v], .agg #[.int .i64 r.kind, .int .i64 r.num, v']] w fun e w' => e = .returned (.bool true) ∧ Below w.heap.size w w' := by
  obtain ⟨kind, num, msgs⟩ := r
  obtain ⟨a, cap, rfl⟩ := h.ls.val
  obtain ⟨a', cap', rfl⟩ := h'.ls.val
  dsimp only at h h' ⊢
  have b0 : Below w.heap.size w ((w.alloc (.cells #[.int .i64 kind, .int .i64 num, (.slice a msgs.length cap)] 91)).alloc (.cells #[.int .i64 kind, .int .i64 num, (.slice a' msgs.length cap')] 91)) := ((Below.refl _ _).alloc (Nat.le_refl _) _).alloc (by simp) _
  have H : Hid (RowM ((w.alloc (.cells #[.int .i64 kind, .int .i64 num, (.slice a msgs.length cap)] 91)).alloc (.cells #[.int .i64 kind, .int .i64 num, (.slice a' msgs.length cap')] 91)) (.slice a msgs.length cap) msgs ∧ RowM ((w.alloc (.cells #[.int .i64 kind, .int .i64 num, (.slice a msgs.length cap)] 91)).alloc (.cells #[.int .i64 kind, .int .i64 num, (.slice a' msgs.length cap')] 91)) (.slice a' msgs.length cap') msgs) := ⟨h.ls.below b0, h'.ls.below b0⟩
  clear h h'
  go_enter Tryd.func52, Tryd.ntmps52
  go_wp2_with fail
  refine (eqsM_any _ _ msgs _ H.out.1 H.out.2).mono ?_
  rintro e w1 ⟨rfl, hb⟩
  have HC : Hid (Below w.heap.size w w1) := b0.trans (hb.mono (by simp; omega))
  clear hb
  go_wp2
  go_ret
  exact ⟨rfl, HC.out⟩
set_option maxHeartbeats 4000000 in
theorem eqsB_any (v v' : Value) (rs : List Bun) (w : World) (h : RowB w v rs) (h' : RowB w v' rs) :
    Calls Tryd.prog 41 #[v, v'] w fun e w' => e = .returned (.bool true) ∧ Below w.heap.size w w' := by
  have hlen := h.len
  obtain ⟨a, cap, rfl⟩ := h.val
  obtain ⟨a', cap', rfl⟩ := h'.val
  have H : Hid (RowB w (.slice a rs.length cap) rs ∧ RowB w (.slice a' rs.length cap') rs) := ⟨h, h'⟩
  clear h h'
  go_enter Tryd.func41, Tryd.ntmps41
  go_wp2
  go_loopw [5] (fun i wr => ∃ k : Nat, i = .int .i64 (k : Int) ∧ k ≤ rs.length ∧ Below w.heap.size w wr) (fun i _ => rs.length - (intOf i).toNat)
  case atStart => exact ⟨0, rfl, by omega, Below.refl _ _⟩
  case round =>
    obtain ⟨k, rfl, hk, hb⟩ := hrel
    by_cases hlt : k < rs.length
    · have hlt' : (k : Int) < (rs.length : Int) := by omega
      obtain ⟨b, o, c1, g, u, e, hs, A, hR⟩ := (H.out.1.below hb).at hlt
      obtain ⟨b', o', c2, g', u', e', hs', A', hR'⟩ := (H.out.2.below hb).at hlt
      simp only [Value.slice.injEq, true_and] at e e'
      obtain ⟨rfl, rfl⟩ := e
      obtain ⟨rfl, rfl⟩ := e'
      obtain rfl : g = g' := by rw [hs] at hs'; exact Option.some.inj hs'
      have HB : Hid (Below w.heap.size w wr ∧ RB wr u g ∧ RB wr u' g ∧ AtB wr b (o + k * 3) u g ∧ AtB wr b' (o' + k * 3) u' g) := ⟨hb, hR, hR', A, A'⟩
      clear hs hs' hb hR hR'
      obtain ⟨q0, q1, q2⟩ := A
      obtain ⟨p0, p1, p2⟩ := A'
      go_wp2_with fail
      go_region_held3 (fun W => W.cell? ⟨b, o + k * 3, none⟩ = some (.int .i64 g.kind) ∧ W.cell? ⟨b, o + k * 3 + 1, none⟩ = some (.int .i64 g.num) ∧ W.cell? ⟨b, o + k * 3 + 2, none⟩ = some (u) ∧ W.cell? ⟨b', o' + k * 3, none⟩ = some (.int .i64 g.kind) ∧ W.cell? ⟨b', o' + k * 3 + 1, none⟩ = some (.int .i64 g.num) ∧ W.cell? ⟨b', o' + k * 3 + 2, none⟩ = some (u')) (go_keep) (first | (go_at_call 52; refine (eqB_any g u u' _ (HB.out.2.1.below (Below.refl _ _).drew) (HB.out.2.2.1.below (Below.refl _ _).drew)).mono ?_; rintro e w2 ⟨rfl, hb2⟩; obtain ⟨y0, y1, y2⟩ := (HB.out.2.2.2.1.below (Below.refl _ _).drew).below hb2; obtain ⟨z0, z1, z2⟩ := (HB.out.2.2.2.2.below (Below.refl _ _).drew).below hb2))
      have HB2 : Hid (Below w.heap.size w w2) := HB.out.1.drew.trans (hb2.mono HB.out.1.size)
      clear hb2
      rename_i hHeld
      clear hHeld
      go_wp2
      go_roundw
      case rel => exact ⟨k + 1, by go_num, by omega, HB2.out⟩
      case measure => simp [intOf]; omega
    · obtain rfl : k = rs.length := by omega
      have HB : Hid (Below w.heap.size w wr) := hb
      clear hb
      go_wp2
      go_ret
      exact ⟨rfl, HB.out⟩
set_option maxHeartbeats 2000000 in
theorem eqI_any (r : Ixc) (v v' : Value) (w : World) (h : RI w v r) (h' : RI w v' r) :
    Calls Tryd.prog 26 #[.agg #[.string r.frm, .string r.to, .int .i64 r.num, v], .agg #[.string r.frm, .string r.to, .int .i64 r.num, v']] w fun e w' => e = .returned (.bool true) ∧ Below w.heap.size w w' := by
  obtain ⟨frm, to, num, buns⟩ := r
  obtain ⟨a, cap, rfl⟩ := h.ls.val
  obtain ⟨a', cap', rfl⟩ := h'.ls.val
  dsimp only at h h' ⊢
  have b0 : Below w.heap.size w ((w.alloc (.cells #[.string frm, .string to, .int .i64 num, (.slice a buns.length cap)] 26)).alloc (.cells #[.string frm, .string to, .int .i64 num, (.slice a' buns.length cap')] 26)) := ((Below.refl _ _).alloc (Nat.le_refl _) _).alloc (by simp) _
  have H : Hid (RowB ((w.alloc (.cells #[.string frm, .string to, .int .i64 num, (.slice a buns.length cap)] 26)).alloc (.cells #[.string frm, .string to, .int .i64 num, (.slice a' buns.length cap')] 26)) (.slice a buns.length cap) buns ∧ RowB ((w.alloc (.cells #[.string frm, .string to, .int .i64 num, (.slice a buns.length cap)] 26)).alloc (.cells #[.string frm, .string to, .int .i64 num, (.slice a' buns.length cap')] 26)) (.slice a' buns.length cap') buns) := ⟨h.ls.below b0, h'.ls.below b0⟩
  clear h h'
  go_enter Tryd.func26, Tryd.ntmps26
  go_wp2_with fail
  refine (eqsB_any _ _ buns _ H.out.1 H.out.2).mono ?_
  rintro e w1 ⟨rfl, hb⟩
  have HC : Hid (Below w.heap.size w w1) := b0.trans (hb.mono (by simp; omega))
  clear hb
  go_wp2
  go_ret
  exact ⟨rfl, HC.out⟩
end Go.Proofs.YthjddnhdfnhalaaDoor
