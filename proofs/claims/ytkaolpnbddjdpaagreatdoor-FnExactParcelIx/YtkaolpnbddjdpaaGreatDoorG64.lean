/- Texts of ours put together: EqGs, EqIx (what the other groups do not tell). -/
import Derived.WalkKit
import Derived.Below
import Derived.WalkSmall
import Derived.RangeFuncRecord
import Derived.ProofKit
import Derived.OpenShut
import Derived.ShutString
import Derived.ChangeOld
import Derived.WalkLawsBesides
import Derived.WalkSpells
import Derived.Deep.Light
import Derived.Handy
import Derived.Deep.QuietTactic
import Derived.BigQuiet
import Derived.BigRegion
import Derived.Deep.OwnRows
import Derived.Laws.OwnMore
import Derived.Lib.ParseIntB
import Derived.Lib.ItoaNum
import Derived.Lib.Strings
import Derived.Shelf.LaysM
import Derived.Shelf.Strconv.ParseIntPublic10
import Derived.Shelf.Strings.Prefix
import Derived.Lib.AtoiErrMem
import Derived.Laws.BytesArg
import Derived.Lib.Bytealg
import Derived.Lib.SlTrimSet
import Derived.Stop.Joined
import Derived.MakeChecks
import Derived.LaidLaws
import Derived.Lib.SmallJoins
import Derived.Shelf.Slices.Clone
import Derived.Lib.AppendIntMem
import Derived.Deep.RegionHeld3
import Derived.Deep.RegionLaw
import Derived.Deep.AppendLies
import Derived.RangeFuncBox
import Derived.Shelf.Strconv.Clone
import Derived.Shelf.Strconv.Itoa4
import Derived.Lib.LaidTab
import Derived.Shelf.Strings.Count
import Derived.Deep.DeepMust
import Derived.Deep.Cut
import Derived.Deep.CutRange
import Derived.Laws.AppendOwn
import Derived.Maps.AppendAt
import Derived.Shelf.Strings.SlTrimAscii
import Derived.Shelf.Strings.Search2
import Derived.Laws.StructEq
import Derived.Deep.CutBlock
import Derived.Deep.SlicePairs
import Derived.Deep.Slices
import Derived.SliceStrings
import Derived.Stop.LaidErr
import Derived.OpenVars
import Derived.LaidMore
import Derived.SevenTiedAt
import Derived.Lay
import Derived.Test.YtkaolpnbddjdpaaGreatDoorG00
import Derived.Test.YtkaolpnbddjdpaaGreatDoorG01
import Derived.Test.YtkaolpnbddjdpaaGreatDoorG02
import Derived.Test.YtkaolpnbddjdpaaGreatDoorG03
import Derived.Test.YtkaolpnbddjdpaaGreatDoorG04
import Derived.Test.YtkaolpnbddjdpaaGreatDoorG05
import Derived.Test.YtkaolpnbddjdpaaGreatDoorG06
import Derived.Test.YtkaolpnbddjdpaaGreatDoorG07
import Derived.Test.YtkaolpnbddjdpaaGreatDoorG08
import Derived.Test.YtkaolpnbddjdpaaGreatDoorG09
import Derived.Test.YtkaolpnbddjdpaaGreatDoorG10
import Derived.Test.YtkaolpnbddjdpaaGreatDoorG11
import Derived.Test.YtkaolpnbddjdpaaGreatDoorG12
import Derived.Test.YtkaolpnbddjdpaaGreatDoorG13
import Derived.Test.YtkaolpnbddjdpaaGreatDoorG14
import Derived.Test.YtkaolpnbddjdpaaGreatDoorG15
import Derived.Test.YtkaolpnbddjdpaaGreatDoorG16
import Derived.Test.YtkaolpnbddjdpaaGreatDoorG17
import Derived.Test.YtkaolpnbddjdpaaGreatDoorG18
import Derived.Test.YtkaolpnbddjdpaaGreatDoorG19
import Derived.Test.YtkaolpnbddjdpaaGreatDoorG20
import Derived.Test.YtkaolpnbddjdpaaGreatDoorG21
import Derived.Test.YtkaolpnbddjdpaaGreatDoorG22
import Derived.Test.YtkaolpnbddjdpaaGreatDoorG23
import Derived.Test.YtkaolpnbddjdpaaGreatDoorG24
import Derived.Test.YtkaolpnbddjdpaaGreatDoorG25
import Derived.Test.YtkaolpnbddjdpaaGreatDoorG26
import Derived.Test.YtkaolpnbddjdpaaGreatDoorG27
import Derived.Test.YtkaolpnbddjdpaaGreatDoorG28
import Derived.Test.YtkaolpnbddjdpaaGreatDoorG29
import Derived.Test.YtkaolpnbddjdpaaGreatDoorG30
import Derived.Test.YtkaolpnbddjdpaaGreatDoorG31
import Derived.Test.YtkaolpnbddjdpaaGreatDoorG32
import Derived.Test.YtkaolpnbddjdpaaGreatDoorG51
import Derived.Test.YtkaolpnbddjdpaaGreatDoorG33
import Derived.Test.YtkaolpnbddjdpaaGreatDoorG34
import Derived.Test.YtkaolpnbddjdpaaGreatDoorG35
import Derived.Test.YtkaolpnbddjdpaaGreatDoorG36
import Derived.Test.YtkaolpnbddjdpaaGreatDoorG37
import Derived.Test.YtkaolpnbddjdpaaGreatDoorG60
import Derived.Test.YtkaolpnbddjdpaaGreatDoorG61
import Derived.Test.YtkaolpnbddjdpaaGreatDoorG62
import Derived.Test.YtkaolpnbddjdpaaGreatDoorG63
namespace Go.Proofs.YtkaolpnbddjdpaaGreatDoor
open Go.ChangeShapes Go.WideShapes Go.ChangeAt Go.RowKit
set_option maxHeartbeats 1000000 in
theorem eqGs_any (v v' : Value) (gs : List Seg) (w : World) (h : RowG w v gs) (h' : RowG w v' gs) :
    Calls Tryz.prog 183 #[v, v'] w fun e w' => e = .returned (.bool true) ∧ Below w.heap.size w w' := by
  have hlen := h.len
  obtain ⟨a, cap, rfl⟩ := h.val
  obtain ⟨a', cap', rfl⟩ := h'.val
  have H : Hid (RowG w (.slice a gs.length cap) gs ∧ RowG w (.slice a' gs.length cap') gs) := ⟨h, h'⟩
  clear h h'
  go_enter Tryz.func183, Tryz.ntmps183
  go_wp2
  go_loopw [5] (fun i wr => ∃ k : Nat, i = .int .i64 (k : Int) ∧ k ≤ gs.length ∧ Below w.heap.size w wr) (fun i _ => gs.length - (intOf i).toNat)
  case atStart => exact ⟨0, rfl, by omega, Below.refl _ _⟩
  case round =>
    obtain ⟨k, rfl, hk, hb⟩ := hrel
    by_cases hlt : k < gs.length
    · have hlt' : (k : Int) < (gs.length : Int) := by omega
      obtain ⟨b, o, c1, g, u, e, hs, hc, hd, hS, _⟩ := (H.out.1.below hb).at hlt
      obtain ⟨b', o', c2, g', u', e', hs', hc', hd', hS', _⟩ := (H.out.2.below hb).at hlt
      simp only [Value.slice.injEq, true_and] at e e'
      obtain ⟨rfl, rfl⟩ := e
      obtain ⟨rfl, rfl⟩ := e'
      obtain rfl : g = g' := by rw [hs] at hs'; exact Option.some.inj hs'
      have HB : Hid (Below w.heap.size w wr ∧ RowE wr u g.2 ∧ RowE wr u' g.2) := ⟨hb, hS, hS'⟩
      clear hs hs' hb hS hS'
      have l1 := cell_lt hc
      have l2 := cell_lt hc'
      go_wp2_with fail
      go_region_held3 (fun W => W.cell? ⟨b, o + k * 2, none⟩ = some (.string g.1) ∧ W.cell? ⟨b, o + k * 2 + 1, none⟩ = some u ∧ W.cell? ⟨b', o' + k * 2, none⟩ = some (.string g.1) ∧ W.cell? ⟨b', o' + k * 2 + 1, none⟩ = some u') (go_keep) (first | (go_at_call 196; refine (eqG_any g.1 u u' g.2 _ (HB.out.2.1.below (Below.refl _ _).drew) (HB.out.2.2.below (Below.refl _ _).drew)).mono ?_; rintro e w2 ⟨rfl, hb2⟩; have y0 : w2.cell? ⟨b, o + k * 2, none⟩ = some (.string g.1) := (hb2.cell (p := ⟨b, o + k * 2, none⟩) l1).trans hc; have y1 : w2.cell? ⟨b, o + k * 2 + 1, none⟩ = some u := (hb2.cell (p := ⟨b, o + k * 2 + 1, none⟩) l1).trans hd; have y2 : w2.cell? ⟨b', o' + k * 2, none⟩ = some (.string g.1) := (hb2.cell (p := ⟨b', o' + k * 2, none⟩) l2).trans hc'; have y3 : w2.cell? ⟨b', o' + k * 2 + 1, none⟩ = some u' := (hb2.cell (p := ⟨b', o' + k * 2 + 1, none⟩) l2).trans hd'))
      have HB2 : Hid (Below w.heap.size w w2) := HB.out.1.drew.trans (hb2.mono HB.out.1.size)
      clear hb2
      rename_i hHeld
      clear hHeld
      go_wp2
      go_roundw
      case rel => exact ⟨k + 1, by go_num, by omega, HB2.out⟩
      case measure => simp [intOf]; omega
    · obtain rfl : k = gs.length := by omega
      have HB : Hid (Below w.heap.size w wr) := hb
      clear hb
      go_wp2
      go_ret
      exact ⟨rfl, HB.out⟩
end Go.Proofs.YtkaolpnbddjdpaaGreatDoor
namespace Go.Proofs.YtkaolpnbddjdpaaGreatDoor
open Go.ChangeShapes Go.WideShapes Go.ChangeAt Go.RowKit
set_option maxHeartbeats 2000000 in
theorem eqM_any (r : Msg) (v v' : Value) (w : World) (h : RM w v r) (h' : RM w v' r) :
    Calls Tryz.prog 164 #[.agg #[.int .i64 r.num, v], .agg #[.int .i64 r.num, v']] w fun e w' => e = .returned (.bool true) ∧ Below w.heap.size w w' := by
  obtain ⟨num, body⟩ := r
  obtain ⟨a, cap, rfl⟩ := h.ls.val
  obtain ⟨a', cap', rfl⟩ := h'.ls.val
  dsimp only at h h' ⊢
  have b0 : Below w.heap.size w ((w.alloc (.cells #[.int .i64 num, (.slice a body.length cap)] 98)).alloc (.cells #[.int .i64 num, (.slice a' body.length cap')] 98)) := ((Below.refl _ _).alloc (Nat.le_refl _) _).alloc (by simp) _
  have H : Hid (RowG ((w.alloc (.cells #[.int .i64 num, (.slice a body.length cap)] 98)).alloc (.cells #[.int .i64 num, (.slice a' body.length cap')] 98)) (.slice a body.length cap) body ∧ RowG ((w.alloc (.cells #[.int .i64 num, (.slice a body.length cap)] 98)).alloc (.cells #[.int .i64 num, (.slice a' body.length cap')] 98)) (.slice a' body.length cap') body) := ⟨h.ls.below b0, h'.ls.below b0⟩
  clear h h'
  go_enter Tryz.func164, Tryz.ntmps164
  go_wp2_with fail
  refine (eqGs_any _ _ body _ H.out.1 H.out.2).mono ?_
  rintro e w1 ⟨rfl, hb⟩
  have HC : Hid (Below w.heap.size w w1) := b0.trans (hb.mono (by simp; omega))
  clear hb
  go_wp2
  go_ret
  exact ⟨rfl, HC.out⟩
set_option maxHeartbeats 4000000 in
theorem eqsM_any (v v' : Value) (rs : List Msg) (w : World) (h : RowM w v rs) (h' : RowM w v' rs) :
    Calls Tryz.prog 133 #[v, v'] w fun e w' => e = .returned (.bool true) ∧ Below w.heap.size w w' := by
  have hlen := h.len
  obtain ⟨a, cap, rfl⟩ := h.val
  obtain ⟨a', cap', rfl⟩ := h'.val
  have H : Hid (RowM w (.slice a rs.length cap) rs ∧ RowM w (.slice a' rs.length cap') rs) := ⟨h, h'⟩
  clear h h'
  go_enter Tryz.func133, Tryz.ntmps133
  go_wp2
  go_loopw [5] (fun i wr => ∃ k : Nat, i = .int .i64 (k : Int) ∧ k ≤ rs.length ∧ Below w.heap.size w wr) (fun i _ => rs.length - (intOf i).toNat)
  case atStart => exact ⟨0, rfl, by omega, Below.refl _ _⟩
  case round =>
    obtain ⟨k, rfl, hk, hb⟩ := hrel
    by_cases hlt : k < rs.length
    · have hlt' : (k : Int) < (rs.length : Int) := by omega
      obtain ⟨b, o, c1, g, u, e, hs, A, hR⟩ := (H.out.1.below hb).at hlt
      obtain ⟨b', o', c2, g', u', e', hs', A', hR'⟩ := (H.out.2.below hb).at hlt
      simp only [Value.slice.injEq, true_and] at e e'
      obtain ⟨rfl, rfl⟩ := e
      obtain ⟨rfl, rfl⟩ := e'
      obtain rfl : g = g' := by rw [hs] at hs'; exact Option.some.inj hs'
      have HB : Hid (Below w.heap.size w wr ∧ RM wr u g ∧ RM wr u' g ∧ AtM wr b (o + k * 2) u g ∧ AtM wr b' (o' + k * 2) u' g) := ⟨hb, hR, hR', A, A'⟩
      clear hs hs' hb hR hR'
      obtain ⟨q0, q1⟩ := A
      obtain ⟨p0, p1⟩ := A'
      go_wp2_with fail
      go_region_held3 (fun W => W.cell? ⟨b, o + k * 2, none⟩ = some (.int .i64 g.num) ∧ W.cell? ⟨b, o + k * 2 + 1, none⟩ = some (u) ∧ W.cell? ⟨b', o' + k * 2, none⟩ = some (.int .i64 g.num) ∧ W.cell? ⟨b', o' + k * 2 + 1, none⟩ = some (u')) (go_keep) (first | (go_at_call 164; refine (eqM_any g u u' _ (HB.out.2.1.below (Below.refl _ _).drew) (HB.out.2.2.1.below (Below.refl _ _).drew)).mono ?_; rintro e w2 ⟨rfl, hb2⟩; obtain ⟨y0, y1⟩ := (HB.out.2.2.2.1.below (Below.refl _ _).drew).below hb2; obtain ⟨z0, z1⟩ := (HB.out.2.2.2.2.below (Below.refl _ _).drew).below hb2))
      have HB2 : Hid (Below w.heap.size w w2) := HB.out.1.drew.trans (hb2.mono HB.out.1.size)
      clear hb2
      rename_i hHeld
      clear hHeld
      go_wp2
      go_roundw
      case rel => exact ⟨k + 1, by go_num, by omega, HB2.out⟩
      case measure => simp [intOf]; omega
    · obtain rfl : k = rs.length := by omega
      have HB : Hid (Below w.heap.size w wr) := hb
      clear hb
      go_wp2
      go_ret
      exact ⟨rfl, HB.out⟩
set_option maxHeartbeats 2000000 in
theorem eqB_any (r : Bun) (v v' : Value) (w : World) (h : RB w v r) (h' : RB w v' r) :
    Calls Tryz.prog 87 #[.agg #[.int .i64 r.kind, .int .i64 r.num, v], .agg #[.int .i64 r.kind, .int .i64 r.num, v']] w fun e w' => e = .returned (.bool true) ∧ Below w.heap.size w w' := by
  obtain ⟨kind, num, msgs⟩ := r
  obtain ⟨a, cap, rfl⟩ := h.ls.val
  obtain ⟨a', cap', rfl⟩ := h'.ls.val
  dsimp only at h h' ⊢
  have b0 : Below w.heap.size w ((w.alloc (.cells #[.int .i64 kind, .int .i64 num, (.slice a msgs.length cap)] 95)).alloc (.cells #[.int .i64 kind, .int .i64 num, (.slice a' msgs.length cap')] 95)) := ((Below.refl _ _).alloc (Nat.le_refl _) _).alloc (by simp) _
  have H : Hid (RowM ((w.alloc (.cells #[.int .i64 kind, .int .i64 num, (.slice a msgs.length cap)] 95)).alloc (.cells #[.int .i64 kind, .int .i64 num, (.slice a' msgs.length cap')] 95)) (.slice a msgs.length cap) msgs ∧ RowM ((w.alloc (.cells #[.int .i64 kind, .int .i64 num, (.slice a msgs.length cap)] 95)).alloc (.cells #[.int .i64 kind, .int .i64 num, (.slice a' msgs.length cap')] 95)) (.slice a' msgs.length cap') msgs) := ⟨h.ls.below b0, h'.ls.below b0⟩
  clear h h'
  go_enter Tryz.func87, Tryz.ntmps87
  go_wp2_with fail
  refine (eqsM_any _ _ msgs _ H.out.1 H.out.2).mono ?_
  rintro e w1 ⟨rfl, hb⟩
  have HC : Hid (Below w.heap.size w w1) := b0.trans (hb.mono (by simp; omega))
  clear hb
  go_wp2
  go_ret
  exact ⟨rfl, HC.out⟩
set_option maxHeartbeats 4000000 in
theorem eqsB_any (v v' : Value) (rs : List Bun) (w : World) (h : RowB w v rs) (h' : RowB w v' rs) :
    Calls Tryz.prog 48 #[v, v'] w fun e w' => e = .returned (.bool true) ∧ Below w.heap.size w w' := by
  have hlen := h.len
  obtain ⟨a, cap, rfl⟩ := h.val
  obtain ⟨a', cap', rfl⟩ := h'.val
  have H : Hid (RowB w (.slice a rs.length cap) rs ∧ RowB w (.slice a' rs.length cap') rs) := ⟨h, h'⟩
  clear h h'
  go_enter Tryz.func48, Tryz.ntmps48
  go_wp2
  go_loopw [5] (fun i wr => ∃ k : Nat, i = .int .i64 (k : Int) ∧ k ≤ rs.length ∧ Below w.heap.size w wr) (fun i _ => rs.length - (intOf i).toNat)
  case atStart => exact ⟨0, rfl, by omega, Below.refl _ _⟩
  case round =>
    obtain ⟨k, rfl, hk, hb⟩ := hrel
    by_cases hlt : k < rs.length
    · have hlt' : (k : Int) < (rs.length : Int) := by omega
      obtain ⟨b, o, c1, g, u, e, hs, A, hR⟩ := (H.out.1.below hb).at hlt
      obtain ⟨b', o', c2, g', u', e', hs', A', hR'⟩ := (H.out.2.below hb).at hlt
      simp only [Value.slice.injEq, true_and] at e e'
      obtain ⟨rfl, rfl⟩ := e
      obtain ⟨rfl, rfl⟩ := e'
      obtain rfl : g = g' := by rw [hs] at hs'; exact Option.some.inj hs'
      have HB : Hid (Below w.heap.size w wr ∧ RB wr u g ∧ RB wr u' g ∧ AtB wr b (o + k * 3) u g ∧ AtB wr b' (o' + k * 3) u' g) := ⟨hb, hR, hR', A, A'⟩
      clear hs hs' hb hR hR'
      obtain ⟨q0, q1, q2⟩ := A
      obtain ⟨p0, p1, p2⟩ := A'
      go_wp2_with fail
      go_region_held3 (fun W => W.cell? ⟨b, o + k * 3, none⟩ = some (.int .i64 g.kind) ∧ W.cell? ⟨b, o + k * 3 + 1, none⟩ = some (.int .i64 g.num) ∧ W.cell? ⟨b, o + k * 3 + 2, none⟩ = some (u) ∧ W.cell? ⟨b', o' + k * 3, none⟩ = some (.int .i64 g.kind) ∧ W.cell? ⟨b', o' + k * 3 + 1, none⟩ = some (.int .i64 g.num) ∧ W.cell? ⟨b', o' + k * 3 + 2, none⟩ = some (u')) (go_keep) (first | (go_at_call 87; refine (eqB_any g u u' _ (HB.out.2.1.below (Below.refl _ _).drew) (HB.out.2.2.1.below (Below.refl _ _).drew)).mono ?_; rintro e w2 ⟨rfl, hb2⟩; obtain ⟨y0, y1, y2⟩ := (HB.out.2.2.2.1.below (Below.refl _ _).drew).below hb2; obtain ⟨z0, z1, z2⟩ := (HB.out.2.2.2.2.below (Below.refl _ _).drew).below hb2))
      have HB2 : Hid (Below w.heap.size w w2) := HB.out.1.drew.trans (hb2.mono HB.out.1.size)
      clear hb2
      rename_i hHeld
      clear hHeld
      go_wp2
      go_roundw
      case rel => exact ⟨k + 1, by go_num, by omega, HB2.out⟩
      case measure => simp [intOf]; omega
    · obtain rfl : k = rs.length := by omega
      have HB : Hid (Below w.heap.size w wr) := hb
      clear hb
      go_wp2
      go_ret
      exact ⟨rfl, HB.out⟩
set_option maxHeartbeats 2000000 in
theorem eqI_any (r : Ixc) (v v' : Value) (w : World) (h : RI w v r) (h' : RI w v' r) :
    Calls Tryz.prog 20 #[.agg #[.string r.frm, .string r.to, .int .i64 r.num, v], .agg #[.string r.frm, .string r.to, .int .i64 r.num, v']] w fun e w' => e = .returned (.bool true) ∧ Below w.heap.size w w' := by
  obtain ⟨frm, tto, num, buns⟩ := r
  obtain ⟨a, cap, rfl⟩ := h.ls.val
  obtain ⟨a', cap', rfl⟩ := h'.ls.val
  dsimp only at h h' ⊢
  have b0 : Below w.heap.size w ((w.alloc (.cells #[.string frm, .string tto, .int .i64 num, (.slice a buns.length cap)] 44)).alloc (.cells #[.string frm, .string tto, .int .i64 num, (.slice a' buns.length cap')] 44)) := ((Below.refl _ _).alloc (Nat.le_refl _) _).alloc (by simp) _
  have H : Hid (RowB ((w.alloc (.cells #[.string frm, .string tto, .int .i64 num, (.slice a buns.length cap)] 44)).alloc (.cells #[.string frm, .string tto, .int .i64 num, (.slice a' buns.length cap')] 44)) (.slice a buns.length cap) buns ∧ RowB ((w.alloc (.cells #[.string frm, .string tto, .int .i64 num, (.slice a buns.length cap)] 44)).alloc (.cells #[.string frm, .string tto, .int .i64 num, (.slice a' buns.length cap')] 44)) (.slice a' buns.length cap') buns) := ⟨h.ls.below b0, h'.ls.below b0⟩
  clear h h'
  go_enter Tryz.func20, Tryz.ntmps20
  go_wp2_with fail
  refine (eqsB_any _ _ buns _ H.out.1 H.out.2).mono ?_
  rintro e w1 ⟨rfl, hb⟩
  have HC : Hid (Below w.heap.size w w1) := b0.trans (hb.mono (by simp; omega))
  clear hb
  go_wp2
  go_ret
  exact ⟨rfl, HC.out⟩
end Go.Proofs.YtkaolpnbddjdpaaGreatDoor
