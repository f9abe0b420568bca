/- Texts of ours put together: IxOf, SRowT, MarkT, Marks, MarkE, MarkL (what the other groups do not tell). -/
import Derived.WalkKit
import Derived.Below
import Derived.WalkSmall
import Derived.RangeFuncRecord
import Derived.ProofKit
import Derived.OpenShut
import Derived.ShutString
import Derived.ChangeOld
import Derived.WalkLawsBesides
import Derived.WalkSpells
import Derived.Deep.Light
import Derived.Handy
import Derived.Deep.QuietTactic
import Derived.BigQuiet
import Derived.BigRegion
import Derived.Deep.OwnRows
import Derived.Laws.OwnMore
import Derived.Lib.ParseIntB
import Derived.Lib.ItoaNum
import Derived.Lib.Strings
import Derived.Shelf.LaysM
import Derived.Shelf.Strconv.ParseIntPublic10
import Derived.Shelf.Strings.Prefix
import Derived.Lib.AtoiErrMem
import Derived.Laws.BytesArg
import Derived.Lib.Bytealg
import Derived.Lib.SlTrimSet
import Derived.Stop.Joined
import Derived.MakeChecks
import Derived.LaidLaws
import Derived.Lib.SmallJoins
import Derived.Shelf.Slices.Clone
import Derived.Lib.AppendIntMem
import Derived.Deep.RegionHeld3
import Derived.Deep.RegionLaw
import Derived.Deep.AppendLies
import Derived.RangeFuncBox
import Derived.Shelf.Strconv.Clone
import Derived.Shelf.Strconv.Itoa4
import Derived.Lib.LaidTab
import Derived.Shelf.Strings.Count
import Derived.Deep.DeepMust
import Derived.Deep.Cut
import Derived.Deep.CutRange
import Derived.Laws.AppendOwn
import Derived.Maps.AppendAt
import Derived.Shelf.Strings.SlTrimAscii
import Derived.Shelf.Strings.Search2
import Derived.Laws.StructEq
import Derived.Deep.CutBlock
import Derived.Deep.SlicePairs
import Derived.Deep.Slices
import Derived.SliceStrings
import Derived.Stop.LaidErr
import Derived.OpenVars
import Derived.LaidMore
import Derived.SevenTiedAt
import Derived.Lay
import Derived.Test.YtkaolpnbddjdpaaGreatDoorG00
import Derived.Test.YtkaolpnbddjdpaaGreatDoorG01
import Derived.Test.YtkaolpnbddjdpaaGreatDoorG02
import Derived.Test.YtkaolpnbddjdpaaGreatDoorG03
import Derived.Test.YtkaolpnbddjdpaaGreatDoorG04
import Derived.Test.YtkaolpnbddjdpaaGreatDoorG05
import Derived.Test.YtkaolpnbddjdpaaGreatDoorG06
import Derived.Test.YtkaolpnbddjdpaaGreatDoorG07
import Derived.Test.YtkaolpnbddjdpaaGreatDoorG08
import Derived.Test.YtkaolpnbddjdpaaGreatDoorG09
import Derived.Test.YtkaolpnbddjdpaaGreatDoorG10
import Derived.Test.YtkaolpnbddjdpaaGreatDoorG11
import Derived.Test.YtkaolpnbddjdpaaGreatDoorG12
import Derived.Test.YtkaolpnbddjdpaaGreatDoorG13
import Derived.Test.YtkaolpnbddjdpaaGreatDoorG14
import Derived.Test.YtkaolpnbddjdpaaGreatDoorG15
import Derived.Test.YtkaolpnbddjdpaaGreatDoorG16
import Derived.Test.YtkaolpnbddjdpaaGreatDoorG17
import Derived.Test.YtkaolpnbddjdpaaGreatDoorG18
import Derived.Test.YtkaolpnbddjdpaaGreatDoorG19
import Derived.Test.YtkaolpnbddjdpaaGreatDoorG20
import Derived.Test.YtkaolpnbddjdpaaGreatDoorG21
import Derived.Test.YtkaolpnbddjdpaaGreatDoorG22
import Derived.Test.YtkaolpnbddjdpaaGreatDoorG23
import Derived.Test.YtkaolpnbddjdpaaGreatDoorG24
import Derived.Test.YtkaolpnbddjdpaaGreatDoorG25
import Derived.Test.YtkaolpnbddjdpaaGreatDoorG26
import Derived.Test.YtkaolpnbddjdpaaGreatDoorG27
import Derived.Test.YtkaolpnbddjdpaaGreatDoorG28
import Derived.Test.YtkaolpnbddjdpaaGreatDoorG29
import Derived.Test.YtkaolpnbddjdpaaGreatDoorG30
import Derived.Test.YtkaolpnbddjdpaaGreatDoorG31
import Derived.Test.YtkaolpnbddjdpaaGreatDoorG32
import Derived.Test.YtkaolpnbddjdpaaGreatDoorG51
import Derived.Test.YtkaolpnbddjdpaaGreatDoorG33
import Derived.Test.YtkaolpnbddjdpaaGreatDoorG34
import Derived.Test.YtkaolpnbddjdpaaGreatDoorG35
import Derived.Test.YtkaolpnbddjdpaaGreatDoorG36
import Derived.Test.YtkaolpnbddjdpaaGreatDoorG37
import Derived.Test.YtkaolpnbddjdpaaGreatDoorG60
namespace Go.Proofs.YtkaolpnbddjdpaaGreatDoor
open Go.ChangeShapes Go.WideShapes Go.ChangeAt Go.RowKit
/-- The interchange in block X, so far. -/
def IOxZ (X N k : Nat) (frm tto : ByteArray) (num : Int) (W0 W : World) (L : List Bun) : Prop := ∃ Ab Cb bs, W.heap[X]? = some (.cells #[.string frm, .string tto, .int .i64 num, .slice Ab bs.length Cb] 44) ∧ OwnBs N W (.slice Ab bs.length Cb) bs ∧ bs.map (·.1) = L ∧ Below W0.heap.size W0 W ∧ N ≤ W.heap.size ∧ bs.length ≤ k ∧ SepBs bs
/-- And a last bundle that waits for a message. -/
def IOlZ (X N k : Nat) (frm tto : ByteArray) (num : Int) (W0 W : World) (m : Msg) (L : List Bun) : Prop := ∃ g Cb pre b mv ms, W.heap[X]? = some (.cells #[.string frm, .string tto, .int .i64 num, .slice (some ⟨g, 0, none⟩) (pre.length + 1) Cb] 44) ∧ OwnBs N W (.slice (some ⟨g, 0, none⟩) (pre.length + 1) Cb) (pre ++ [(b, mv, ms)]) ∧ pre.map (·.1) ++ [⟨b.kind, b.num, b.msgs ++ [m]⟩] = L ∧ Below W0.heap.size W0 W ∧ N ≤ W.heap.size ∧ pre.length ≤ k ∧ ms.length ≤ k ∧ SepBs (pre ++ [(b, mv, ms)])
theorem IOxZ.below {X N k : Nat} {frm tto : ByteArray} {num : Int} {W0 W W' : World} {L : List Bun} (h : IOxZ X N k frm tto num W0 W L) (hb : Below W.heap.size W W') : IOxZ X N k frm tto num W0 W' L := by
  obtain ⟨Ab, Cb, bs, h1, h2, h3, h4, h5, h6⟩ := h
  exact ⟨Ab, Cb, bs, (hb.block _ (Array.getElem?_eq_some_iff.1 h1).1).trans h1, h2.below hb, h3, h4.trans (hb.mono h4.size), Nat.le_trans h5 hb.size, h6⟩
/-- The last bundle is of the paper's kind. -/
theorem IOxZ.same {X N k : Nat} {frm tto : ByteArray} {num : Int} {W0 W : World} {qs : List Pap} {q q' : Pap} (h : IOxZ X N k frm tto num W0 W (bunsP qs)) (hl : qs.getLast? = some q') (hk : q'.kind = q.kind) (hn : qs.length = k) : IOlZ X N k frm tto num W0 W (msgP k q) (bunsP (qs ++ [q])) := by
  obtain ⟨Ab, Cb, bs, h1, h2, h3, h4, h5, h6, h7⟩ := h
  obtain ⟨pr, b, e, hb⟩ := bunsP_last hl
  rcases List.eq_nil_or_concat bs with rfl | ⟨pre, x, rfl⟩
  · rw [e] at h3; simp at h3
  rw [List.concat_eq_append] at h1 h2 h3 h6 h7
  obtain ⟨b', mv, ms⟩ := x
  rw [e, List.map_append] at h3
  simp only [List.map_cons, List.map_nil] at h3
  obtain ⟨e1, e2⟩ := List.append_inj' h3 rfl
  simp only [List.cons.injEq, and_true] at e2
  subst e2
  have hL : (pre ++ [((b', mv, ms) : BunV)]).length = pre.length + 1 := by simp
  have hr := h2.row
  rw [hL] at h1 h2 hr h6
  obtain ⟨g, C, ev, hg1, hg2⟩ := own_gX hr
  cases ev
  have hmm := (h2.msgs (b', mv, ms) (by simp)).2
  have hms : ms.length = b'.msgs.length := by rw [← hmm]; simp
  have hN := msgsN_buns qs
  rw [e, msgsN_app] at hN
  simp only [msgsN] at hN
  refine ⟨g, Cb, pre, b', mv, ms, h1, h2, ?_, h4, h5, by omega, by omega, h7⟩
  rw [bunsP_snoc, e, hn, addB_in _ _ _ _ (by rw [hb, hk]), e1]
/-- A new bundle is begun. -/
theorem IOlZ.new {X N k g cap : Nat} {frm tto : ByteArray} {num kk nn : Int} {W0 W W' : World} {qs : List Pap} {q : Pap} {Ab : Option Addr} {Cb : Nat} {bs : List BunV} (hX : W'.heap[X]? = some (.cells #[.string frm, .string tto, .int .i64 num, .slice (some ⟨g, 0, none⟩) (bs.length + 1) cap] 44)) (h2 : OwnBs N W (.slice Ab bs.length Cb) bs) (h3 : bs.map (·.1) = bunsP qs) (h4 : Below W0.heap.size W0 W') (h5 : N ≤ W'.heap.size) (h6 : bs.length ≤ k)
    (hq : qs = [] ∨ ∃ q', qs.getLast? = some q' ∧ q'.kind ≠ q.kind) (hn : qs.length = k) (hO : OwnBs N W' (.slice (some ⟨g, 0, none⟩) (bs.length + 1) cap) (bs ++ [(⟨kk, nn, []⟩, .slice none 0 0, [])])) (hkk : kk = q.kind) (hnn : nn = ((bs.length + 1 : Nat) : Int)) (hsp : SepBs bs) : IOlZ X N k frm tto num W0 W' (msgP k q) (bunsP (qs ++ [q])) := by
  refine ⟨g, cap, bs, ⟨kk, nn, []⟩, .slice none 0 0, [], hX, hO, ?_, h4, h5, h6, by simp, hsp.addN _ _⟩
  subst hkk hnn
  rw [bunsP_snoc, hn, h3]
  rcases hq with rfl | ⟨q', hl, hne⟩
  · have hb : bs = [] := by
      have : bs.length = 0 := by rw [← List.length_map (·.1), h3]; rfl
      exact List.eq_nil_of_length_eq_zero this
    subst hb
    simp [bunsP_nil, addB]
  · obtain ⟨pr, b, e, hb⟩ := bunsP_last hl
    have hnum := bunsP_num qs pr.length b (by rw [e]; simp)
    have hbl : bs.length = pr.length + 1 := by rw [← List.length_map (·.1), h3, e]; simp
    rw [e, addB_new _ _ _ _ (by rw [hb]; exact hne)]
    simp [hnum, hbl]
theorem IOlZ.done {X N k g Cb : Nat} {frm tto : ByteArray} {num : Int} {W0 W : World} {m : Msg} {L : List Bun} {pre : List BunV} {b : Bun} {mv' : Value} {ms : List MsgV} {gv : Value} {pp : List (Value × List Value)}
    (h1 : W.heap[X]? = some (.cells #[.string frm, .string tto, .int .i64 num, .slice (some ⟨g, 0, none⟩) (pre.length + 1) Cb] 44)) (h2 : OwnBs N W (.slice (some ⟨g, 0, none⟩) (pre.length + 1) Cb) (pre ++ [(⟨b.kind, b.num, b.msgs ++ [m]⟩, mv', ms ++ [(m, gv, pp)])])) (h3 : pre.map (·.1) ++ [⟨b.kind, b.num, b.msgs ++ [m]⟩] = L) (h4 : Below W0.heap.size W0 W) (h5 : N ≤ W.heap.size) (h6 : pre.length ≤ k) (h7 : SepBs (pre ++ [(⟨b.kind, b.num, b.msgs ++ [m]⟩, mv', ms ++ [(m, gv, pp)])])) : IOxZ X N (k + 1) frm tto num W0 W L := by
  refine ⟨some ⟨g, 0, none⟩, Cb, pre ++ [(⟨b.kind, b.num, b.msgs ++ [m]⟩, mv', ms ++ [(m, gv, pp)])], by simpa using h1, by simpa using h2, ?_, h4, h5, by simp; omega, h7⟩
  rw [← h3]
  simp
set_option maxRecDepth 100000 in
set_option maxHeartbeats 16000000 in
theorem ixOfZ_any (p : Pcl) (v : Value) (w : World) (h : PclR w v p) (hI : ∀ q ∈ p.papers, PapI q ∧ 1 ≤ q.kind ∧ q.kind ≤ 7) (hB : BdPc 1048576 p) (hV : VarsAt w) :
    Calls Tryz.prog 46 #[.agg #[.string p.frm, .string p.to, .int .i64 p.num, v]] w fun e w' => ∃ u bs, e = .returned (.agg #[.string p.frm, .string p.to, .int .i64 p.num, u]) ∧ OwnBs w.heap.size w' u bs ∧ bs.map (·.1) = bunsP p.papers ∧ Below w.heap.size w w' ∧ SepBs bs := by
  obtain ⟨frm, tto, num, ps⟩ := p
  dsimp only at hI ⊢
  obtain ⟨z1, z2, hBp⟩ := hB
  dsimp only at z1 z2 hBp
  have hps := h.ps
  dsimp only at hps
  obtain ⟨A, C, rfl⟩ := hps.val
  obtain ⟨W0, hW0⟩ : ∃ W0, (w.alloc (.cells #[.string frm, .string tto, .int .i64 num, .slice A ps.length C] 27)).alloc (.cells #[.string ⟨#[]⟩, .string ⟨#[]⟩, .int .i64 0, .slice none 0 0] 44) = W0 := ⟨_, rfl⟩
  have hb0 : Below w.heap.size w W0 := by rw [← hW0]; exact ((Below.refl _ _).alloc (Nat.le_refl _) _).alloc (by simp) _
  obtain ⟨x0, x1⟩ : W0.heap[w.heap.size]? = some (.cells #[.string frm, .string tto, .int .i64 num, .slice A ps.length C] 27) ∧ W0.heap[w.heap.size + 1]? = some (.cells #[.string ⟨#[]⟩, .string ⟨#[]⟩, .int .i64 0, .slice none 0 0] 44) := by rw [← hW0]; exact ix_two
  have HP : Hid (∀ W, Below W0.heap.size W0 W → (W.cell? ⟨w.heap.size, 0, none⟩ = some (.string frm) ∧ W.cell? ⟨w.heap.size, 1, none⟩ = some (.string tto) ∧ W.cell? ⟨w.heap.size, 2, none⟩ = some (.int .i64 num) ∧ W.cell? ⟨w.heap.size, 3, none⟩ = some (.slice A ps.length C))) := fun W hW => (ix4 ((hW.block _ (Array.getElem?_eq_some_iff.1 x0).1).trans x0)).2
  have HR : Hid (W0.heap[w.heap.size + 1]? = some (.cells #[.string ⟨#[]⟩, .string ⟨#[]⟩, .int .i64 0, .slice none 0 0] 44) ∧ Below w.heap.size w W0 ∧ RowPs W0 (.slice A ps.length C) ps ∧ VarsAt W0 ∧ BdPs 1048576 ps ∧ ∀ q ∈ ps, PapI q ∧ 1 ≤ q.kind ∧ q.kind ≤ 7) := ⟨x1, hb0, hps.below hb0, hV.below hb0, hBp, hI⟩
  have HLt : Hid (w.heap.size < W0.heap.size) := (Array.getElem?_eq_some_iff.1 x0).1
  obtain ⟨p0, p1, p2, p3⟩ := HP.out W0 (Below.refl _ _)
  clear h hps hI hBp hV hb0 x0 x1
  go_enter Tryz.func46, Tryz.ntmps46
  go_upto_region 1 with fail
  try rw [hW0]
  clear hW0
  have HA : Hid (∀ Wq, Below W0.heap.size W0 Wq → ∀ W', (Below (Wq.alloc (.cells #[.string ⟨#[]⟩, .string ⟨#[]⟩, .int .i64 0, .slice none 0 0] 44)).heap.size (Wq.alloc (.cells #[.string ⟨#[]⟩, .string ⟨#[]⟩, .int .i64 0, .slice none 0 0] 44)) W' ∨ Below (Wq.alloc (.cells #[.string ⟨#[]⟩, .string ⟨#[]⟩, .int .i64 0, .slice none 0 0] 44)).heap.size (Wq.alloc (.cells #[.string ⟨#[]⟩, .string ⟨#[]⟩, .int .i64 0, .slice none 0 0] 44)).drew W' ∨ Below (Wq.alloc (.cells #[.string ⟨#[]⟩, .string ⟨#[]⟩, .int .i64 0, .slice none 0 0] 44)).heap.size (Wq.drew.alloc (.cells #[.string ⟨#[]⟩, .string ⟨#[]⟩, .int .i64 0, .slice none 0 0] 44)) W') → Below W0.heap.size W0 W' ∧ W'.heap[Wq.heap.size]? = some (.cells #[.string ⟨#[]⟩, .string ⟨#[]⟩, .int .i64 0, .slice none 0 0] 44)) := fun Wq hq W' hW => by
    have h1 : Below (Wq.alloc (.cells #[.string ⟨#[]⟩, .string ⟨#[]⟩, .int .i64 0, .slice none 0 0] 44)).heap.size (Wq.alloc (.cells #[.string ⟨#[]⟩, .string ⟨#[]⟩, .int .i64 0, .slice none 0 0] 44)) W' := by
      rcases hW with h | h | h
      · exact h
      · exact undrewX h
      · exact ⟨h.os, h.tape, h.output, h.size, h.block⟩
    have ha : Below Wq.heap.size Wq (Wq.alloc (.cells #[.string ⟨#[]⟩, .string ⟨#[]⟩, .int .i64 0, .slice none 0 0] 44)) := (Below.refl _ _).alloc (Nat.le_refl _) _
    exact ⟨hq.trans ((ha.trans (h1.mono ha.size)).mono hq.size), (h1.block _ (by simp)).trans (World.alloc_heap_new _ _)⟩
  have HA0 := HA.out W0 (Below.refl _ _)
  have HA0' : Hid _ := HA0
  clear HA0
  go_cut [3] from 7 to 15 (fun x3 wx => ∃ X, x3 = .pointer (some ⟨X, 0, none⟩) ∧ wx.heap[X]? = some (.cells #[.string frm, .string tto, .int .i64 num, .slice none 0 0] 44) ∧ Below W0.heap.size W0 wx ∧ W0.heap.size ≤ X)
  case first =>
    refine wp_region_held_drew (S := fun W => W.cell? ⟨w.heap.size, 0, none⟩ = some (.string frm) ∧ W.cell? ⟨w.heap.size, 1, none⟩ = some (.string tto) ∧ W.cell? ⟨w.heap.size, 2, none⟩ = some (.int .i64 num)) (by kernel_rfl) ?_ (fun hHeld => ?_)
    · try dsimp only
      exact ⟨p0, p1, p2⟩
    refine wpAnyH_take (i := 0) (oi := { dst := some 7, op := Op.fieldAddr 27 (Operand.tmp 1) 0, type := 0, pos := "l06_parcel.go:188", after := #[], guard := none }) (v := ?_) rfl (by kernel_rfl) (by kernel_rfl) (by kernel_rfl) (fun _ _ _ h => h) (Or.inl ⟨by rfl, ?_⟩) (by assumption) ?_
    rotate_left 1
    · intro w hSw
      (try dsimp only at hSw)
      go_simp
      try with_reducible rfl
    try simp only [Act.put, List.setIfInBounds_toArray, List.set_cons_zero, List.set_cons_succ]
    refine wpAnyH_take (i := 1) (oi := { dst := some 8, op := Op.load 9 (Operand.tmp 7), type := 9, pos := "l06_parcel.go:188", after := #[{ on := 0, ground := Ground.data }], guard := none }) (v := ?_) rfl (by kernel_rfl) (by kernel_rfl) (by kernel_rfl) (fun _ _ _ h => h) (Or.inl ⟨by rfl, ?_⟩) (by assumption) ?_
    rotate_left 1
    · intro w hSw
      (try dsimp only at hSw)
      go_simp
      try with_reducible rfl
    try simp only [Act.put, List.setIfInBounds_toArray, List.set_cons_zero, List.set_cons_succ]
    refine wpAnyH_take (i := 3) (oi := { dst := some 10, op := Op.fieldAddr 27 (Operand.tmp 1) 1, type := 0, pos := "l06_parcel.go:188", after := #[], guard := none }) (v := ?_) rfl (by kernel_rfl) (by kernel_rfl) (by kernel_rfl) (fun _ _ _ h => h) (Or.inl ⟨by rfl, ?_⟩) (by assumption) ?_
    rotate_left 1
    · intro w hSw
      (try dsimp only at hSw)
      go_simp
      try with_reducible rfl
    try simp only [Act.put, List.setIfInBounds_toArray, List.set_cons_zero, List.set_cons_succ]
    refine wpAnyH_take (i := 4) (oi := { dst := some 11, op := Op.load 9 (Operand.tmp 10), type := 9, pos := "l06_parcel.go:188", after := #[{ on := 3, ground := Ground.data }], guard := none }) (v := ?_) rfl (by kernel_rfl) (by kernel_rfl) (by kernel_rfl) (fun _ _ _ h => h) (Or.inl ⟨by rfl, ?_⟩) (by assumption) ?_
    rotate_left 1
    · intro w hSw
      (try dsimp only at hSw)
      go_simp
      try with_reducible rfl
    try simp only [Act.put, List.setIfInBounds_toArray, List.set_cons_zero, List.set_cons_succ]
    refine wpAnyH_take (i := 6) (oi := { dst := some 13, op := Op.fieldAddr 27 (Operand.tmp 1) 2, type := 0, pos := "l06_parcel.go:188", after := #[], guard := none }) (v := ?_) rfl (by kernel_rfl) (by kernel_rfl) (by kernel_rfl) (fun _ _ _ h => h) (Or.inl ⟨by rfl, ?_⟩) (by assumption) ?_
    rotate_left 1
    · intro w hSw
      (try dsimp only at hSw)
      go_simp
      try with_reducible rfl
    try simp only [Act.put, List.setIfInBounds_toArray, List.set_cons_zero, List.set_cons_succ]
    refine wpAnyH_take (i := 7) (oi := { dst := some 14, op := Op.load 2 (Operand.tmp 13), type := 2, pos := "l06_parcel.go:188", after := #[{ on := 6, ground := Ground.data }], guard := none }) (v := ?_) rfl (by kernel_rfl) (by kernel_rfl) (by kernel_rfl) (fun _ _ _ h => h) (Or.inl ⟨by rfl, ?_⟩) (by assumption) ?_
    rotate_left 1
    · intro w hSw
      (try dsimp only at hSw)
      go_simp
      try with_reducible rfl
    try simp only [Act.put, List.setIfInBounds_toArray, List.set_cons_zero, List.set_cons_succ]
    refine wpAnyH_ready (rs := [2, 9]) (by kernel_rfl) (by simp) ?_
    refine AllReadyH.cons (o := { dst := some 9, op := Op.call { callee := Callee.value (Operand.func 84), args := #[Operand.tmp 8], argTypes := #[9] }, type := 9, pos := "l06_parcel.go:188", after := #[{ on := 1, ground := Ground.data }], guard := none }) rfl (fun K hK => ?_) ?_
    · skip
      go_simp
      go_at_call_of 84 (Value.string frm)
      refine (clone_any _ _ (by omega)).mono ?_
      rintro e wa ⟨rfl, hbwa⟩
      have bwa : Below W0.heap.size W0 wa := (by first | exact hbwa | exact undrewX hbwa)
      obtain ⟨k0, k1, k2, k3⟩ := HP.out wa bwa
      clear hbwa
      try dsimp only
      try go_wp2_with fail
      refine hK.out _ _ ?_ (fun hHeld => ?_)
      · try dsimp only
        exact ⟨k0, k1, k2⟩
      clear hK K
      try simp only [Act.put, List.setIfInBounds_toArray, List.set_cons_zero, List.set_cons_succ]
      refine wpAnyH_ready (rs := [5, 9]) (by kernel_rfl) (by simp) ?_
      refine AllReadyH.cons (o := { dst := some 12, op := Op.call { callee := Callee.value (Operand.func 84), args := #[Operand.tmp 11], argTypes := #[9] }, type := 9, pos := "l06_parcel.go:188", after := #[{ on := 4, ground := Ground.data }, { on := 2, ground := Ground.chain }], guard := none }) rfl (fun K hK => ?_) ?_
      · skip
        go_simp
        go_at_call_of 84 (Value.string tto)
        refine (clone_any _ _ (by omega)).mono ?_
        rintro e wb ⟨rfl, hbwb⟩
        have bwb : Below W0.heap.size W0 wb := bwa.trans ((by first | exact hbwb | exact undrewX hbwb : Below wa.heap.size wa wb).mono bwa.size)
        obtain ⟨m0, m1, m2, m3⟩ := HP.out wb bwb
        clear hbwb
        try dsimp only
        try go_wp2_with fail
        refine hK.out _ _ ?_ (fun hHeld => ?_)
        · try dsimp only
          exact ⟨m0, m1, m2⟩
        clear hK K
        try simp only [Act.put, List.setIfInBounds_toArray, List.set_cons_zero, List.set_cons_succ]
        refine wpAnyH_take (i := 8) (oi := { dst := some 15, op := Op.build 44 #[(0, Operand.tmp 9), (1, Operand.tmp 12), (2, Operand.tmp 14)], type := 44, pos := "l06_parcel.go:188", after := #[{ on := 2, ground := Ground.data }, { on := 5, ground := Ground.data }, { on := 7, ground := Ground.data }], guard := none }) (v := ?_) rfl (by kernel_rfl) (by kernel_rfl) (by kernel_rfl) (fun _ _ _ h => h) (Or.inl ⟨by rfl, ?_⟩) (by assumption) ?_
        rotate_left 1
        · intro w hSw
          (try dsimp only at hSw)
          go_simp
          try with_reducible rfl
        try simp only [Act.put, List.setIfInBounds_toArray, List.set_cons_zero, List.set_cons_succ]
        refine wpAnyH_ready (rs := [9]) (by kernel_rfl) (by simp) ?_
        refine AllReadyH.cons (o := { dst := some 3, op := Op.alloc 44, type := 0, pos := "l06_parcel.go:188", after := #[], guard := none }) rfl (fun K hK => ?_) AllReadyH.nil
        go_simp
        refine hK.out _ _ ?_ (fun hHeld => ?_)
        · try dsimp only
          go_keep
        clear hK K
        try simp only [Act.put, List.setIfInBounds_toArray, List.set_cons_zero, List.set_cons_succ]
        have HP2 : ∀ o, (wb.alloc o).cell? ⟨w.heap.size, 0, none⟩ = some (.string frm) ∧ (wb.alloc o).cell? ⟨w.heap.size, 1, none⟩ = some (.string tto) ∧ (wb.alloc o).cell? ⟨w.heap.size, 2, none⟩ = some (.int .i64 num) := fun o => by
          obtain ⟨g0, g1, g2, _⟩ := HP.out (wb.alloc o) (bwb.trans (((Below.refl _ _).alloc (Nat.le_refl _) _).mono bwb.size))
          exact ⟨g0, g1, g2⟩
        refine wpAnyH_ready (rs := [10]) (by kernel_rfl) (by simp) ?_
        refine AllReadyH.cons (o := { dst := none, op := Op.store 44 (Operand.tmp 3) (Operand.tmp 15), type := 0, pos := "l06_parcel.go:188", after := #[{ on := 9, ground := Ground.data }, { on := 8, ground := Ground.data }, { on := 5, ground := Ground.chain }, { on := 0, ground := Ground.phase }, { on := 1, ground := Ground.phase }, { on := 2, ground := Ground.phase }, { on := 3, ground := Ground.phase }, { on := 4, ground := Ground.phase }, { on := 5, ground := Ground.phase }, { on := 6, ground := Ground.phase }, { on := 7, ground := Ground.phase }, { on := 8, ground := Ground.phase }, { on := 9, ground := Ground.phase }], guard := none }) rfl (fun K hK => ?_) AllReadyH.nil
        go_simp
        refine hK.out _ _ ?_ (fun hHeld => ?_)
        · try dsimp only
          exact ⟨(HP2 _).1, (HP2 _).2.1, (HP2 _).2.2⟩
        clear hK K
        try simp only [Act.put, List.setIfInBounds_toArray, List.set_cons_zero, List.set_cons_succ]
        refine wpAnyH_done (by kernel_rfl) ?_ _
        go_wp2_with fail
        go_meet
        exact ⟨wb.heap.size, rfl, World.alloc_heap_new _ _, bwb.trans (((Below.refl _ _).alloc (Nat.le_refl _) _).mono bwb.size), bwb.size⟩
      refine AllReadyH.cons (o := { dst := some 3, op := Op.alloc 44, type := 0, pos := "l06_parcel.go:188", after := #[], guard := none }) rfl (fun K hK => ?_) AllReadyH.nil
      go_simp
      refine hK.out _ _ ?_ (fun hHeld => ?_)
      · try dsimp only
        go_keep
      clear hK K
      try simp only [Act.put, List.setIfInBounds_toArray, List.set_cons_zero, List.set_cons_succ]
      refine wpAnyH_ready (rs := [5]) (by kernel_rfl) (by simp) ?_
      refine AllReadyH.cons (o := { dst := some 12, op := Op.call { callee := Callee.value (Operand.func 84), args := #[Operand.tmp 11], argTypes := #[9] }, type := 9, pos := "l06_parcel.go:188", after := #[{ on := 4, ground := Ground.data }, { on := 2, ground := Ground.chain }], guard := none }) rfl (fun K hK => ?_) AllReadyH.nil
      go_simp
      go_at_call_of 84 (Value.string tto)
      refine (clone_any _ _ (by omega)).mono ?_
      rintro e wb ⟨rfl, hbwb⟩
      obtain ⟨bwb, xwb⟩ := HA.out wa bwa wb (by first | exact .inl hbwb | exact .inr (.inl hbwb) | exact .inr (.inr hbwb))
      obtain ⟨m0, m1, m2, m3⟩ := HP.out wb bwb
      clear hbwb
      try dsimp only
      try go_wp2_with fail
      refine hK.out _ _ ?_ (fun hHeld => ?_)
      · try dsimp only
        exact ⟨m0, m1, m2⟩
      clear hK K
      try simp only [Act.put, List.setIfInBounds_toArray, List.set_cons_zero, List.set_cons_succ]
      have hXn : w.heap.size ≠ wa.heap.size := by have := HLt.out; have := bwa.size; omega
      have hXl : W0.heap.size ≤ wa.heap.size := bwa.size
      refine wpAnyH_take (i := 8) (oi := { dst := some 15, op := Op.build 44 #[(0, Operand.tmp 9), (1, Operand.tmp 12), (2, Operand.tmp 14)], type := 44, pos := "l06_parcel.go:188", after := #[{ on := 2, ground := Ground.data }, { on := 5, ground := Ground.data }, { on := 7, ground := Ground.data }], guard := none }) (v := ?_) rfl (by kernel_rfl) (by kernel_rfl) (by kernel_rfl) (fun _ _ _ h => h) (Or.inl ⟨by rfl, ?_⟩) (by assumption) ?_
      rotate_left 1
      · intro w hSw
        (try dsimp only at hSw)
        go_simp
        try with_reducible rfl
      try simp only [Act.put, List.setIfInBounds_toArray, List.set_cons_zero, List.set_cons_succ]
      obtain ⟨xf, x0, x1, x2, x3⟩ := ix4 xwb
      refine wpAnyH_ready (rs := [10]) (by kernel_rfl) (by simp) ?_
      refine AllReadyH.cons (o := { dst := none, op := Op.store 44 (Operand.tmp 3) (Operand.tmp 15), type := 0, pos := "l06_parcel.go:188", after := #[{ on := 9, ground := Ground.data }, { on := 8, ground := Ground.data }, { on := 5, ground := Ground.chain }, { on := 0, ground := Ground.phase }, { on := 1, ground := Ground.phase }, { on := 2, ground := Ground.phase }, { on := 3, ground := Ground.phase }, { on := 4, ground := Ground.phase }, { on := 5, ground := Ground.phase }, { on := 6, ground := Ground.phase }, { on := 7, ground := Ground.phase }, { on := 8, ground := Ground.phase }, { on := 9, ground := Ground.phase }], guard := none }) rfl (fun K hK => ?_) AllReadyH.nil
      go_simp
      refine hK.out _ _ ?_ (fun hHeld => ?_)
      · try dsimp only
        exact ⟨ix_keep4 m0 hXn, ix_keep4 m1 hXn, ix_keep4 m2 hXn⟩
      clear hK K
      try simp only [Act.put, List.setIfInBounds_toArray, List.set_cons_zero, List.set_cons_succ]
      refine wpAnyH_done (by kernel_rfl) ?_ _
      go_wp2_with fail
      go_meet
      exact ⟨_, rfl, ix_set4 _ _ _ _ xwb, (((bwb.setCell hXl _).setCell hXl _).setCell hXl _).setCell hXl _, hXl⟩
    refine AllReadyH.cons (o := { dst := some 3, op := Op.alloc 44, type := 0, pos := "l06_parcel.go:188", after := #[], guard := none }) rfl (fun K hK => ?_) AllReadyH.nil
    go_simp
    refine hK.out _ _ ?_ (fun hHeld => ?_)
    · try dsimp only
      go_keep
    clear hK K
    try simp only [Act.put, List.setIfInBounds_toArray, List.set_cons_zero, List.set_cons_succ]
    refine wpAnyH_ready (rs := [2]) (by kernel_rfl) (by simp) ?_
    refine AllReadyH.cons (o := { dst := some 9, op := Op.call { callee := Callee.value (Operand.func 84), args := #[Operand.tmp 8], argTypes := #[9] }, type := 9, pos := "l06_parcel.go:188", after := #[{ on := 1, ground := Ground.data }], guard := none }) rfl (fun K hK => ?_) AllReadyH.nil
    go_simp
    go_at_call_of 84 (Value.string frm)
    refine (clone_any _ _ (by omega)).mono ?_
    rintro e wa ⟨rfl, hbwa⟩
    obtain ⟨bwa, xwa⟩ := HA0'.out wa (by first | exact .inl hbwa | exact .inr (.inl hbwa) | exact .inr (.inr hbwa))
    obtain ⟨k0, k1, k2, k3⟩ := HP.out wa bwa
    clear hbwa
    try dsimp only
    try go_wp2_with fail
    refine hK.out _ _ ?_ (fun hHeld => ?_)
    · try dsimp only
      exact ⟨k0, k1, k2⟩
    clear hK K
    try simp only [Act.put, List.setIfInBounds_toArray, List.set_cons_zero, List.set_cons_succ]
    refine wpAnyH_ready (rs := [5]) (by kernel_rfl) (by simp) ?_
    refine AllReadyH.cons (o := { dst := some 12, op := Op.call { callee := Callee.value (Operand.func 84), args := #[Operand.tmp 11], argTypes := #[9] }, type := 9, pos := "l06_parcel.go:188", after := #[{ on := 4, ground := Ground.data }, { on := 2, ground := Ground.chain }], guard := none }) rfl (fun K hK => ?_) AllReadyH.nil
    go_simp
    go_at_call_of 84 (Value.string tto)
    refine (clone_any _ _ (by omega)).mono ?_
    rintro e wb ⟨rfl, hbwb⟩
    have hb2 : Below wa.heap.size wa wb := (by first | exact hbwb | exact undrewX hbwb)
    have bwb : Below W0.heap.size W0 wb := bwa.trans (hb2.mono bwa.size)
    have xwb := (hb2.block _ (Array.getElem?_eq_some_iff.1 xwa).1).trans xwa
    clear hb2
    obtain ⟨m0, m1, m2, m3⟩ := HP.out wb bwb
    clear hbwb
    try dsimp only
    try go_wp2_with fail
    refine hK.out _ _ ?_ (fun hHeld => ?_)
    · try dsimp only
      exact ⟨m0, m1, m2⟩
    clear hK K
    try simp only [Act.put, List.setIfInBounds_toArray, List.set_cons_zero, List.set_cons_succ]
    have hXn : w.heap.size ≠ W0.heap.size := by have := HLt.out; omega
    have hXl : W0.heap.size ≤ W0.heap.size := Nat.le_refl _
    refine wpAnyH_take (i := 8) (oi := { dst := some 15, op := Op.build 44 #[(0, Operand.tmp 9), (1, Operand.tmp 12), (2, Operand.tmp 14)], type := 44, pos := "l06_parcel.go:188", after := #[{ on := 2, ground := Ground.data }, { on := 5, ground := Ground.data }, { on := 7, ground := Ground.data }], guard := none }) (v := ?_) rfl (by kernel_rfl) (by kernel_rfl) (by kernel_rfl) (fun _ _ _ h => h) (Or.inl ⟨by rfl, ?_⟩) (by assumption) ?_
    rotate_left 1
    · intro w hSw
      (try dsimp only at hSw)
      go_simp
      try with_reducible rfl
    try simp only [Act.put, List.setIfInBounds_toArray, List.set_cons_zero, List.set_cons_succ]
    obtain ⟨xf, x0, x1, x2, x3⟩ := ix4 xwb
    refine wpAnyH_ready (rs := [10]) (by kernel_rfl) (by simp) ?_
    refine AllReadyH.cons (o := { dst := none, op := Op.store 44 (Operand.tmp 3) (Operand.tmp 15), type := 0, pos := "l06_parcel.go:188", after := #[{ on := 9, ground := Ground.data }, { on := 8, ground := Ground.data }, { on := 5, ground := Ground.chain }, { on := 0, ground := Ground.phase }, { on := 1, ground := Ground.phase }, { on := 2, ground := Ground.phase }, { on := 3, ground := Ground.phase }, { on := 4, ground := Ground.phase }, { on := 5, ground := Ground.phase }, { on := 6, ground := Ground.phase }, { on := 7, ground := Ground.phase }, { on := 8, ground := Ground.phase }, { on := 9, ground := Ground.phase }], guard := none }) rfl (fun K hK => ?_) AllReadyH.nil
    go_simp
    refine hK.out _ _ ?_ (fun hHeld => ?_)
    · try dsimp only
      exact ⟨ix_keep4 m0 hXn, ix_keep4 m1 hXn, ix_keep4 m2 hXn⟩
    clear hK K
    try simp only [Act.put, List.setIfInBounds_toArray, List.set_cons_zero, List.set_cons_succ]
    refine wpAnyH_done (by kernel_rfl) ?_ _
    go_wp2_with fail
    go_meet
    exact ⟨_, rfl, ix_set4 _ _ _ _ xwb, (((bwb.setCell hXl _).setCell hXl _).setCell hXl _).setCell hXl _, hXl⟩
  case rest =>
    obtain ⟨X, rfl, hX, hWx, hXl⟩ := hcut
    rename World => wx
    obtain ⟨N0, hN0⟩ : ∃ N0, N0 = wx.heap.size := ⟨_, rfl⟩
    have HX : Hid (wx.heap[X]? = some (.cells #[.string frm, .string tto, .int .i64 num, .slice none 0 0] 44) ∧ Below W0.heap.size W0 wx ∧ W0.heap.size ≤ X ∧ X < N0 ∧ N0 = wx.heap.size) := ⟨hX, hWx, hXl, by rw [hN0]; exact (Array.getElem?_eq_some_iff.1 hX).1, hN0⟩
    have hpl : ps.length ≤ 1048576 := HR.out.2.2.2.2.1.1
    clear hX hWx hXl hN0 p0 p1 p2 p3 HA HA0'
    obtain ⟨_, _, _, p3⟩ := HP.out wx HX.out.2.1
    obtain ⟨j0, hj0i, hi0, hi1, hi2⟩ := info_parts infoBunX
    obtain ⟨l0, hl0i, ki0, ki1, ki2⟩ := info_parts infoMsgX
    go_wp2_with fail
    clear p3
    go_loopw [19] (fun i wr => ∃ k : Nat, i = .int .i64 (k : Int) ∧ k ≤ ps.length ∧ Hid (IOxZ X N0 k frm tto num W0 wr (bunsP (ps.take k)))) (fun i _ => ps.length - (intOf i).toNat)
    case atStart => exact ⟨0, rfl, by omega, none, 0, [], HX.out.1, OwnBs.nil _ _, rfl, HX.out.2.1, Nat.le_of_eq HX.out.2.2.2.2, Nat.le_refl _, SepBs.nil⟩
    case round =>
      obtain ⟨k, rfl, hk, HI⟩ := hrel
      by_cases hlt : k < ps.length
      · have hlt' : (k : Int) < (ps.length : Int) := by omega
        have hwr : Below W0.heap.size W0 wr := by obtain ⟨_, _, _, _, _, _, h, _⟩ := HI.out; exact h
        obtain ⟨b9, o9, c9, q, vn, vl, e9, hs, hat, hpr⟩ := HR.out.2.2.1.at hlt
        obtain ⟨y0, y1, y2, y3, y4, y5⟩ := hat.below hwr
        clear hat
        simp only [Value.slice.injEq, true_and] at e9
        obtain ⟨rfl, rfl⟩ := e9
        obtain ⟨An, Cn, rfl⟩ := hpr.ns.val
        obtain ⟨Al, Cl, rfl⟩ := hpr.ls.val
        obtain ⟨W1, hW1⟩ : ∃ W1, wr.alloc (.cells #[.int .i64 q.kind, .string q.ref, .string q.other, .int .i64 q.day, .slice An q.notes.length Cn, .slice Al q.lines.length Cl] 66) = W1 := ⟨_, rfl⟩
        have hb1 : Below wr.heap.size wr W1 := by rw [← hW1]; exact (Below.refl _ _).alloc (Nat.le_refl _) _
        have hx1 : W1.heap[wr.heap.size]? = some (.cells #[.int .i64 q.kind, .string q.ref, .string q.other, .int .i64 q.day, .slice An q.notes.length Cn, .slice Al q.lines.length Cl] 66) := by rw [← hW1]; exact World.alloc_heap_new _ _
        obtain ⟨P, hP⟩ : ∃ P, P = wr.heap.size := ⟨_, rfl⟩
        rw [← hP] at hx1
        have hbW := hwr.trans (hb1.mono hwr.size)
        have H1 : Hid (IOxZ X N0 k frm tto num W0 W1 (bunsP (ps.take k)) ∧ W1.heap[P]? = some (.cells #[.int .i64 q.kind, .string q.ref, .string q.other, .int .i64 q.day, .slice An q.notes.length Cn, .slice Al q.lines.length Cl] 66) ∧ Below W0.heap.size W0 W1 ∧ (∀ W, Below W0.heap.size W0 W → PapR W (.slice An q.notes.length Cn) (.slice Al q.lines.length Cl) q) ∧ ps[k]? = some q ∧ P < W1.heap.size ∧ N0 ≤ P) := ⟨HI.out.below hb1, hx1, hbW, fun W hW => hpr.below hW, hs, (Array.getElem?_eq_some_iff.1 hx1).1, by rw [hP]; obtain ⟨_, _, _, _, _, _, _, h, _⟩ := HI.out; exact h⟩
        have HW1 : Hid (wr.alloc (.cells #[.int .i64 q.kind, .string q.ref, .string q.other, .int .i64 q.day, .slice An q.notes.length Cn, .slice Al q.lines.length Cl] 66) = W1 ∧ P = wr.heap.size) := ⟨hW1, hP⟩
        clear hb1 hx1 hW1 hP hpr hs HI hbW
        go_upto_region 5 with fail
        try rw [HW1.out.1]
        try rw [← HW1.out.2]
        clear HW1 y0 y1 y2 y3 y4 y5 hwr
        have hqk := HR.out.2.2.2.2.2 q (List.mem_of_getElem? H1.out.2.2.2.2.1)
        obtain ⟨pf, y0, y1, y2, y3, y4, y5⟩ := box6P H1.out.2.1
        obtain ⟨_, _, _, p3⟩ := HP.out W1 H1.out.2.2.1
        obtain ⟨nw, hnw⟩ : ∃ nw : Bool, nw = true ↔ (k = 0 ∨ ∃ q', ps[k - 1]? = some q' ∧ q'.kind ≠ q.kind) := by
          by_cases h : k = 0 ∨ ∃ q', ps[k - 1]? = some q' ∧ q'.kind ≠ q.kind
          · exact ⟨true, by simp only [true_iff]; exact h⟩
          · exact ⟨false, by simp only [Bool.false_eq_true, false_iff]; exact h⟩
        have HNW : Hid (nw = true ↔ (k = 0 ∨ ∃ q', ps[k - 1]? = some q' ∧ q'.kind ≠ q.kind)) := hnw
        clear hnw
        go_cut [37] from 24 to 37 (fun s37 wy => Hid (s37 = .bool nw) ∧ Below W1.heap.size W1 wy)
        case first =>
          rcases Nat.eq_zero_or_pos k with h0 | h0
          · have hnt : nw = true := HNW.out.2 (.inl h0)
            subst hnt
            have d1 : ((k : Int) == 0) = true := by simp [h0]
            clear h0
            go_quiet (fail)
            go_wp2_with fail
            go_meet
            exact ⟨rfl, by first | exact below_drewX (Below.refl _ _) _ | exact Below.refl _ _⟩
          · obtain ⟨m, rfl⟩ : ∃ m, k = m + 1 := ⟨k - 1, by omega⟩
            obtain ⟨b8, o8, c8, q', vn', vl', e8, hs', ⟨z0, _, _, _, _, _⟩, _⟩ := (HR.out.2.2.1.below H1.out.2.2.1).at (show m < ps.length by omega)
            simp only [Value.slice.injEq, Option.some.injEq, Addr.mk.injEq, and_true, true_and] at e8
            obtain ⟨⟨rfl, rfl⟩, rfl⟩ := e8
            have d1 : ((m : Int) + 1 == 0) = false := by simp; omega
            have d2 : ((((m + 1 : Nat) : Int)) == 0) = false := by simp; omega
            have d3 : decide ((m : Int) + 1 = 0) = false := by simp; omega
            have d4 : decide (((m + 1 : Nat) : Int) = 0) = false := by simp; omega
            have i0 : (0 : Int) ≤ (m : Int) := by omega
            have i2 : (m : Int) < (ps.length : Int) := by omega
            have i3 : IntKind.i64.wrap ((m : Int) + 1 - 1) = (m : Int) := by rw [show (m : Int) + 1 - 1 = (m : Int) by omega]; simp [IntKind.wrap, IntKind.bits, IntKind.signed]; omega
            have i4 : IntKind.i64.wrap (m : Int) = (m : Int) := by simp [IntKind.wrap, IntKind.bits, IntKind.signed]; omega
            obtain ⟨kd, hkd⟩ : ∃ kd, kd = q'.kind := ⟨_, rfl⟩
            rw [← hkd] at z0
            have HK : Hid (kd = q'.kind ∧ ps[m]? = some q') := ⟨hkd, hs'⟩
            clear hkd hs' h0
            by_cases hkk : kd = q.kind
            · have hnf : nw = false := by
                cases e : nw with
                | false => rfl
                | true =>
                  rcases HNW.out.1 e with h | ⟨q2, h, hne⟩
                  · omega
                  · rw [Nat.add_sub_cancel, HK.out.2] at h
                    cases h
                    exact absurd (HK.out.1.symm.trans hkk) hne
              subst hnf
              have g1 : (q.kind != kd) = false := by simp [hkk]
              clear hkk
              go_quiet (fail)
              go_wp2_with fail
              go_meet
              exact ⟨rfl, by first | exact below_drewX (Below.refl _ _) _ | exact Below.refl _ _⟩
            · have hnt : nw = true := HNW.out.2 (.inr ⟨q', by rw [Nat.add_sub_cancel]; exact HK.out.2, by rw [← HK.out.1]; exact hkk⟩)
              subst hnt
              have g1 : (q.kind != kd) = true := by simp; exact fun e => hkk e.symm
              have g2 : ¬ q.kind = kd := fun e => hkk e.symm
              clear hkk
              go_quiet (fail)
              go_wp2_with fail
              go_meet
              exact ⟨rfl, by first | exact below_drewX (Below.refl _ _) _ | exact Below.refl _ _⟩
        case rest =>
          obtain ⟨H37, hby⟩ := hcut
          rename World => wy
          have H2 : Hid (IOxZ X N0 k frm tto num W0 wy (bunsP (ps.take k)) ∧ wy.heap[P]? = some (.cells #[.int .i64 q.kind, .string q.ref, .string q.other, .int .i64 q.day, .slice An q.notes.length Cn, .slice Al q.lines.length Cl] 66) ∧ Below W0.heap.size W0 wy) := ⟨H1.out.1.below hby, (hby.block P H1.out.2.2.2.2.2.1).trans H1.out.2.1, H1.out.2.2.1.trans (hby.mono H1.out.2.2.1.size)⟩
          have HT : Hid (ps.take (k + 1) = ps.take k ++ [q] ∧ (ps.take k).length = k) := ⟨by rw [List.take_add_one, H1.out.2.2.2.2.1]; rfl, by rw [List.length_take]; omega⟩
          clear hby pf y0 y1 y2 y3 y4 y5 p3
          go_wp2_with fail
          go_cut [] from 38 to 49 (fun wz => Hid (IOlZ X N0 k frm tto num W0 wz (msgP k q) (bunsP (ps.take (k + 1))) ∧ wz.heap[P]? = some (.cells #[.int .i64 q.kind, .string q.ref, .string q.other, .int .i64 q.day, .slice An q.notes.length Cn, .slice Al q.lines.length Cl] 66)))
          case first =>
            have h37 := H37.out
            subst h37
            obtain ⟨Ab, Cb, bs, hX, hO, hL, hB, hN, hbl, hsp⟩ := H2.out.1
            have HSP : Hid (SepBs bs) := hsp
            clear hsp
            cases nw with
            | true =>
              have HQ : Hid (ps.take k = [] ∨ ∃ q', (ps.take k).getLast? = some q' ∧ q'.kind ≠ q.kind) := by
                rcases HNW.out.1 rfl with h | ⟨q', h, hne⟩
                · exact .inl (by rw [h]; rfl)
                · by_cases h0 : k = 0
                  · exact .inl (by rw [h0]; rfl)
                  · exact .inr ⟨q', by rw [List.getLast?_eq_getElem?, HT.out.2, List.getElem?_take_of_lt (by omega)]; exact h, hne⟩
              have ha : Below wy.heap.size wy (wy.alloc (.cells #[.int .i64 q.kind, .int .i64 ((bs.length : Int) + 1), .slice none 0 0] 95)) := (Below.refl _ _).alloc (Nat.le_refl _) _
              have hbl2 : bs.length ≤ 1048576 := by omega
              have H3 : Hid (wy.heap[X]? = some (.cells #[.string frm, .string tto, .int .i64 num, .slice Ab bs.length Cb] 44) ∧ OwnBs N0 wy (.slice Ab bs.length Cb) bs ∧ bs.map (·.1) = bunsP (ps.take k) ∧ N0 ≤ wy.heap.size ∧ bs.length ≤ k ∧ Below wy.heap.size wy (wy.alloc (.cells #[.int .i64 q.kind, .int .i64 ((bs.length : Int) + 1), .slice none 0 0] 95))) := ⟨hX, hO, hL, hN, hbl, ha⟩
              obtain ⟨_, x0, x1, x2, x3⟩ := ix4 hX
              obtain ⟨pf, y0, y1, y2, y3, y4, y5⟩ := box6P H2.out.2.1
              have rowN := (hO.below ha).row
              have hsN : N0 ≤ (wy.alloc (.cells #[.int .i64 q.kind, .int .i64 ((bs.length : Int) + 1), .slice none 0 0] 95)).heap.size := Nat.le_trans hN ha.size
              have hmx : bs.length + 1 ≤ maxLen := by unfold maxLen; omega
              clear hX hO hL hB hN hbl ha
              go_wp2_with (first | (at_builtin; go_must (refine wpList_append_lies _ (by rfl) _ _ _ (by rfl) N0 95 j0 _ 3 40 Tryz.underlying42 hj0i hi0 hi1 hi2 rfl (by omega) (.slice Ab bs.length Cb) bs.length (bs.flatMap clBv) (by rfl) rowN ⟨wy.heap.size, 0, none⟩ 1 1 [.int .i64 q.kind, .int .i64 ((bs.length : Int) + 1), .slice none 0 0] (by rfl) (by rfl) (World.news_of_block (cs := #[.int .i64 q.kind, .int .i64 ((bs.length : Int) + 1), .slice none 0 0]) (t := 95) (fr := (0, 0)) (World.alloc_heap_new wy _)) (by simp [Value.oneCell']) (by omega) hmx (by omega) hsN (wy.heap.size + 1) (by simp) ?_; intro g cap w7 hown7 hgrow7 hat7 hlt7; have H7 : Hid (w7.heap[X]? = some (.cells #[.string frm, .string tto, .int .i64 num, .slice Ab bs.length Cb] 44) ∧ OwnBs N0 w7 (.slice (some ⟨g, 0, none⟩) (bs.length + 1) cap) (bs ++ [(⟨q.kind, (bs.length : Int) + 1, []⟩, .slice none 0 0, [])]) ∧ Below W0.heap.size W0 w7 ∧ N0 ≤ w7.heap.size ∧ w7.heap[P]? = some (.cells #[.int .i64 q.kind, .string q.ref, .string q.other, .int .i64 q.day, .slice An q.notes.length Cn, .slice Al q.lines.length Cl] 66)) := newB_next H3.out.1 H3.out.2.1 H2.out.2.1 H2.out.2.2 H3.out.2.2.2.1 H3.out.2.2.2.2.2 HX.out.2.2.2.1 (Nat.le_trans HX.out.2.1.size (Nat.le_of_eq HX.out.2.2.2.2.symm)) hown7 hgrow7; obtain ⟨xf, _, _, _, _⟩ := ix4 H7.out.1; clear x0 x1 x2 x3 pf y0 y1 y2 y3 y4 y5 rowN hsN hown7 hgrow7 hat7 hlt7; try dsimp only)))
              go_wp2_with fail
              go_meet
              have hX7 : (w7.setCell ⟨X, 3, none⟩ (.slice (some ⟨g, 0, none⟩) (bs.length + 1) cap)).heap[X]? = some (.cells #[.string frm, .string tto, .int .i64 num, .slice (some ⟨g, 0, none⟩) (bs.length + 1) cap] 44) := heap_setCell_same _ X 3 _ _ _ H7.out.1
              refine ⟨?_, ?_⟩
              · rw [HT.out.1]
                exact IOlZ.new hX7 H3.out.2.1 H3.out.2.2.1 (H7.out.2.2.1.setCell HX.out.2.2.1 _) (by simpa [World.setCell] using H7.out.2.2.2.1) H3.out.2.2.2.2.1 HQ.out HT.out.2 (H7.out.2.1.setX HX.out.2.2.2.1 _ _) rfl (by simp) HSP.out
              · exact (heap_setCell_other _ _ _ _ (by have := HX.out.2.2.2.1; have := H1.out.2.2.2.2.2.2; show P ≠ X; omega)).trans H7.out.2.2.2.2
            | false =>
              have HQ : Hid (∃ q', (ps.take k).getLast? = some q' ∧ q'.kind = q.kind) := by
                have hn : ¬ (k = 0 ∨ ∃ q', ps[k - 1]? = some q' ∧ q'.kind ≠ q.kind) := fun h => by have := HNW.out.2 h; cases this
                have h0 : k ≠ 0 := fun e => hn (.inl e)
                have hk1 : ps[k - 1]? = some (ps[k - 1]'(by omega)) := List.getElem?_eq_getElem (by omega)
                refine ⟨_, by rw [List.getLast?_eq_getElem?, HT.out.2, List.getElem?_take_of_lt (by omega)]; exact hk1, ?_⟩
                exact Classical.byContradiction fun g => hn (.inr ⟨_, hk1, g⟩)
              clear hX hO hL hB hN hbl
              go_wp2_with fail
              go_meet
              obtain ⟨q', h1, h2⟩ := HQ.out
              refine ⟨?_, H2.out.2.1⟩
              rw [HT.out.1]
              exact H2.out.1.same h1 h2 HT.out.2
          case rest =>
            obtain ⟨hL, hPz⟩ := hcut.out
            rename World => wz
            obtain ⟨g, Cb, pre, b, mv, ms, hX, hO, hLL, hB, hN, hpl2, hml, hsp⟩ := hL
            have hlen : (pre ++ [((b, mv, ms) : BunV)]).length = pre.length + 1 := by simp
            have hr := hO.row
            rw [hlen] at hr
            have hmrow : wz.ownsRow N0 98 2 mv ms.length (ms.flatMap clMv) := (hO.msgs (b, mv, ms) (by simp)).1.row
            obtain ⟨Am, Cm, rfl⟩ := own_formX hmrow
            clear hmrow
            have hgN : N0 ≤ g := (hr.lt g rfl).1
            have hmv : wz.cell? ⟨g, pre.length * 3 + 2, none⟩ = some (.slice Am ms.length Cm) := by
              rw [hr.cellAt _ (by omega), List.flatMap_append, List.getElem?_append_right (by rw [clBv_len]; omega), clBv_len]
              simp [clBv]
            have hml2 : ms.length ≤ 1048576 := by omega
            have hmx : ms.length + 1 ≤ maxLen := by unfold maxLen; omega
            have hpl3 : pre.length ≤ 1048576 := by omega
            have H4 : Hid (wz.heap[X]? = some (.cells #[.string frm, .string tto, .int .i64 num, .slice (some ⟨g, 0, none⟩) (pre.length + 1) Cb] 44) ∧ OwnBs N0 wz (.slice (some ⟨g, 0, none⟩) (pre.length + 1) Cb) (pre ++ [(b, .slice Am ms.length Cm, ms)]) ∧ pre.map (·.1) ++ [⟨b.kind, b.num, b.msgs ++ [msgP k q]⟩] = bunsP (ps.take (k + 1)) ∧ Below W0.heap.size W0 wz ∧ N0 ≤ wz.heap.size ∧ pre.length ≤ k ∧ N0 ≤ g) := ⟨hX, hO, hLL, hB, hN, hpl2, hgN⟩
            have HSP : Hid (SepBs (pre ++ [(b, .slice Am ms.length Cm, ms)])) := hsp
            clear hsp
            have QB : Hid (∀ W, Below wz.heap.size wz W → Calls Tryz.prog 85 #[.agg #[.int .i64 q.kind, .string q.ref, .string q.other, .int .i64 q.day, .slice An q.notes.length Cn, .slice Al q.lines.length Cl]] W fun e w' => ∃ u pp, e = .returned u ∧ OwnL W.heap.size w' u pp (bodyW wordsI q) ∧ Below W.heap.size W w') := fun W hW => by
              have hq := hB.trans (hW.mono hB.size)
              exact bodyOf_any q _ _ W hqk.2 hqk.1 (H1.out.2.2.2.1 W hq) (HR.out.2.2.2.2.1.2 k q H1.out.2.2.2.2.1) (HR.out.2.2.2.1.below hq)
            have CH : Hid (∀ W, Below wz.heap.size wz W → W.cell? ⟨g, pre.length * 3 + 2, none⟩ = some (.slice Am ms.length Cm) ∧ W.heap[P]? = some (.cells #[.int .i64 q.kind, .string q.ref, .string q.other, .int .i64 q.day, .slice An q.notes.length Cn, .slice Al q.lines.length Cl] 66) ∧ OwnBs N0 W (.slice (some ⟨g, 0, none⟩) (pre.length + 1) Cb) (pre ++ [(b, .slice Am ms.length Cm, ms)]) ∧ Below W0.heap.size W0 W ∧ N0 ≤ W.heap.size ∧ W.heap[X]? = some (.cells #[.string frm, .string tto, .int .i64 num, .slice (some ⟨g, 0, none⟩) (pre.length + 1) Cb] 44)) := fun W hW =>
              ⟨(hW.cell (World.block_lt_of_cell? _ _ hmv)).trans hmv, (hW.block P (Array.getElem?_eq_some_iff.1 hPz).1).trans hPz, hO.below hW, hB.trans (hW.mono hB.size), Nat.le_trans hN hW.size, (hW.block X (Array.getElem?_eq_some_iff.1 hX).1).trans hX⟩
            obtain ⟨_, x0, x1, x2, x3⟩ := ix4 hX
            clear hX hO hLL hB hN hpl2 hml hr hlen hmv hPz hgN
            have hw : IntKind.i64.wrap ((k : Int) + 1) = (k : Int) + 1 := by rw [IntKind.wrap_i64]; omega
            go_upto_region 8 with fail
            clear x0 x1 x2 x3
            obtain ⟨c1, c2, _⟩ := CH.out wz.drew (Below.refl _ _).drew
            obtain ⟨_, y0, y1, y2, y3, y4, y5⟩ := box6P c2
            clear c2
            go_region_law (first | (go_simp; go_at_call 85; go_must (refine (QB.out _ (Below.refl _ _).drew).mono ?_; rintro e wc ⟨u, pp, rfl, hV, hbc⟩; obtain ⟨A3, C3, hu3⟩ := own_formX hV.row; subst hu3; have bc : Below wz.heap.size wz wc := (Below.refl wz.heap.size wz).drew.trans hbc; have HC : Hid (OwnL wz.heap.size wc (.slice A3 (bodyW wordsI q).length C3) pp (bodyW wordsI q) ∧ Below wz.heap.size wz wc) := ⟨hV, bc⟩; obtain ⟨d1, _⟩ := CH.out wc bc; obtain ⟨d2, _⟩ := CH.out (wc.alloc (.cells #[.int .i64 ((k : Int) + 1), .slice A3 (bodyW wordsI q).length C3] 98)) (bc.alloc bc.size _); have rowM := (((CH.out _ (bc.alloc bc.size (.cells #[.int .i64 ((k : Int) + 1), .slice A3 (bodyW wordsI q).length C3] 98))).2.2.1.msgs (b, .slice Am ms.length Cm, ms) (by simp)).1.row); have hsN : N0 ≤ (wc.alloc (.cells #[.int .i64 ((k : Int) + 1), .slice A3 (bodyW wordsI q).length C3] 98)).heap.size := (CH.out _ (bc.alloc bc.size _)).2.2.2.2.1; clear hV hbc bc; try dsimp only)) | (go_must (refine step_append_lies _ (by rfl) _ _ _ (by rfl) N0 98 l0 _ 2 32 Tryz.underlying93 hl0i ki0 ki1 ki2 rfl (by omega) (.slice Am ms.length Cm) ms.length (ms.flatMap clMv) (by rfl) rowM ⟨wc.heap.size, 0, none⟩ 1 1 [.int .i64 ((k : Int) + 1), .slice A3 (bodyW wordsI q).length C3] (by rfl) (by rfl) (World.news_of_block (cs := #[.int .i64 ((k : Int) + 1), .slice A3 (bodyW wordsI q).length C3]) (t := 98) (fr := (0, 0)) (World.alloc_heap_new wc _)) (by simp [Value.oneCell']) (by omega) hmx (by omega) hsN (wc.heap.size + 1) (by simp) ?_; intro gg cap w7 hown7 hgrow7 hat7 hlt7; have H7 : Hid _ := addM_next (CH.out _ (HC.out.2.alloc HC.out.2.size _)) HC.out.1 HC.out.2 H4.out.2.2.2.2.1 HX.out.2.2.2.1 (Nat.le_trans HX.out.2.1.size (Nat.le_of_eq HX.out.2.2.2.2.symm)) hown7 hgrow7 hat7 (by simp); obtain ⟨e1, e2⟩ := H7.out.1; try dsimp only)))
            all_goals (
              have HF : Hid (IOxZ X N0 (k + 1) frm tto num W0 (w7.setCell ⟨g, pre.length * 3 + 2, none⟩ (.slice (some ⟨gg, 0, none⟩) (ms.length + 1) cap)) (bunsP (ps.take (k + 1)))) :=
                IOlZ.done ((heap_setCell_other _ _ _ _ (by have := HX.out.2.2.2.1; have := H4.out.2.2.2.2.2.2; show X ≠ g; omega)).trans H7.out.2.2.2.2) H7.out.2.1 (by have := H4.out.2.2.1; simpa [msgP] using this) (H7.out.2.2.1.setCell (Nat.le_trans HX.out.2.1.size (Nat.le_trans (Nat.le_of_eq HX.out.2.2.2.2.symm) H4.out.2.2.2.2.2.2)) _) (by simpa [World.setCell] using H7.out.2.2.2.1) H4.out.2.2.2.2.2.1 (HSP.out.addM H4.out.2.1 HC.out.1)
              clear hown7 hgrow7 hat7 hlt7 rowM hsN d1 d2 e1 e2 c1 y0 y1 y2 y3 y4 y5 hw
              go_wp2
              go_roundw
              case rel => exact ⟨k + 1, by go_num, by omega, HF.out⟩
              case measure => simp [intOf]; omega)
      · obtain rfl : k = ps.length := by omega
        have hlt' : ¬ ((ps.length : Nat) : Int) < (ps.length : Int) := by omega
        obtain ⟨Ab, Cb, bs, hX, hO, hL, hB, hN, _, hsp⟩ := HI.out
        have HSP : Hid (SepBs bs) := hsp
        clear hsp
        have hZ := (hB.block _ (Array.getElem?_eq_some_iff.1 HR.out.1).1).trans HR.out.1
        have hlw : w.heap.size + 1 < W0.heap.size := (Array.getElem?_eq_some_iff.1 HR.out.1).1
        have HF : Hid (OwnBs N0 wr (.slice Ab bs.length Cb) bs ∧ bs.map (·.1) = bunsP ps ∧ Below w.heap.size w wr ∧ w.heap.size + 1 < N0 ∧ w.heap.size ≤ N0) := ⟨hO, by rw [hL, List.take_length], HR.out.2.1.trans (hB.mono HR.out.2.1.size), by have := HX.out; omega, by have := HX.out; omega⟩
        have hne : w.heap.size + 1 ≠ X := by have := HX.out.2.2.1; omega
        obtain ⟨_, x0, x1, x2, x3⟩ := ix4 hX
        obtain ⟨zf, z0, z1, z2, z3⟩ := ix4 hZ
        obtain ⟨_, f0, f1, f2, f3⟩ := ix4 (ix_set4 (.string frm) (.string tto) (.int .i64 num) (.slice Ab bs.length Cb) hZ)
        clear hX hO hL hB hN hZ hlw HI
        go_wp2
        refine bodyPost_ret (v := .agg #[.string frm, .string tto, .int .i64 num, .slice Ab bs.length Cb]) (by simp [results, Tryz.results46, go_sem, f0, f1, f2, f3]) rfl ⟨_, rfl, bs, ?_, HF.out.2.1, ?_, HSP.out⟩
        · exact ((((HF.out.1.setX HF.out.2.2.2.1 _ _).setX HF.out.2.2.2.1 _ _).setX HF.out.2.2.2.1 _ _).setX HF.out.2.2.2.1 _ _).monoX HF.out.2.2.2.2
        · exact (((HF.out.2.2.1.setCell (Nat.le_succ _) _).setCell (Nat.le_succ _) _).setCell (Nat.le_succ _) _).setCell (Nat.le_succ _) _
end Go.Proofs.YtkaolpnbddjdpaaGreatDoor
namespace Go.Proofs.YtkaolpnbddjdpaaGreatDoor
open Go.ChangeShapes Go.WideShapes Go.ChangeAt Go.RowKit
/-- A list of strings that lies in block g from n₀ on, or is empty. -/
structure SRow (W : World) (n₀ g : Nat) (ad : Option Addr) (T : List ByteArray) : Prop where
  at_ : 0 < T.length → ad = some ⟨g, 0, none⟩
  base : 0 < T.length → n₀ ≤ g
  cell : ∀ i, i < T.length → W.cell? ⟨g, i, none⟩ = some (.string (T[i]?.getD ⟨#[]⟩))
  fz : 0 < T.length → ∀ o, W.frozen? ⟨g, o, none⟩ = false
theorem SRow.keep {W W' : World} {n₀ g B : Nat} {ad : Option Addr} {T : List ByteArray} (h : SRow W n₀ g ad T) (hk : Keep B W W') (hB : 0 < T.length → g ≠ B) : SRow W' n₀ g ad T :=
  ⟨h.at_, h.base, fun i hi => hk.cell (h.cell i hi) (hB (by omega)), fun g0 o => (hk.frozen (cell_lt (h.cell 0 g0)) o (hB g0)).trans (h.fz g0 o)⟩
theorem SRow.below {W W' : World} {n₀ g : Nat} {ad : Option Addr} {T : List ByteArray} (h : SRow W n₀ g ad T) (hb : Below W.heap.size W W') : SRow W' n₀ g ad T :=
  h.keep (Keep.of_below (B := g + 1) hb) (fun _ => by omega)
theorem SRow.of_owns {W : World} {n₀ : Nat} {v : Value} {T : List ByteArray} (h : W.ownsRow n₀ 9 1 v T.length (T.map Value.string)) : ∃ g ad cap, v = .slice ad T.length cap ∧ SRow W n₀ g ad T := by
  rcases h.2 with ⟨rfl, e⟩ | ⟨g, cap, cur, rfl, hb, hgb, _, _, _, htk⟩
  · exact ⟨0, none, 0, by rw [e], ⟨fun h => by omega, fun h => by omega, fun i hi => by omega, fun h => by omega⟩⟩
  · refine ⟨g, _, cap, rfl, ⟨fun _ => rfl, fun _ => hb, fun i hi => ?_, fun _ o => by simp [World.frozen?, hgb]⟩⟩
    have h1 : (cur.toList.take (T.length * 1))[i]? = (T.map Value.string)[i]? := by rw [htk]
    rw [List.getElem?_take_of_lt (by omega)] at h1
    simp [World.cell?, hgb, List.getElem?_eq_getElem hi] at h1 ⊢
    rw [h1]
end Go.Proofs.YtkaolpnbddjdpaaGreatDoor
namespace Go.Proofs.YtkaolpnbddjdpaaGreatDoor
open Go.ChangeShapes Go.WideShapes Go.ChangeAt Go.RowKit
/-- The digits of a number ahead of a text. -/
def digs : Nat → Nat → ByteArray → ByteArray
  | 0, _, acc => acc
  | f + 1, k, acc => if k = 0 then acc else digs f (k / 10) (strOfNums [48 + ((k % 10 : Nat) : Int)] ++ acc)
theorem digs_zero (f : Nat) (acc : ByteArray) : digs f 0 acc = acc := by cases f <;> simp [digs]
def mt (k : Nat) : ByteArray := ⟨#[109]⟩ ++ digs 6 k ⟨#[]⟩
set_option maxHeartbeats 1000000 in
theorem markText_any (k0 : Nat) (w : World) (h0 : 0 < k0) (h1 : k0 ≤ 99999) :
    Calls Tryz.prog 88 #[.int .i64 k0] w fun e w' => e = .returned (.string (mt k0)) ∧ Below w.heap.size w w' := by
  have h0' : (0 : Int) < (k0 : Int) := by omega
  have h1' : (k0 : Int) ≤ 99999 := by omega
  have hz0 : decide (k0 = 0) = false := by simp; omega
  go_enter Tryz.func88, Tryz.ntmps88
  go_wp2
  go_loopw [0, 3] (fun kv o wr => ∃ (f j : Nat) (acc : ByteArray), kv = .int .i64 j ∧ o = .string acc ∧ j < 10 ^ f ∧ j ≤ 99999 ∧ acc.size + f ≤ 6 ∧ digs f j acc = digs 6 k0 ⟨#[]⟩ ∧ Below w.heap.size w wr) (fun kv _ _ => (intOf kv).toNat)
  case atStart => exact ⟨6, k0, ⟨#[]⟩, rfl, rfl, by omega, h1, by decide, rfl, Below.refl _ _⟩
  case round =>
    obtain ⟨f, j, acc, rfl, rfl, hj, hj2, hac, hd, hb⟩ := hrel
    have H : Hid (j < 10 ^ f ∧ digs f j acc = digs 6 k0 ⟨#[]⟩ ∧ Below w.heap.size w wr) := ⟨hj, hd, hb⟩
    have hwz := hb.size
    clear hj hd hb
    have hcv := conv1 wr
    by_cases hp : 0 < j
    · have hp' : (0 : Int) < (j : Int) := by omega
      have hsn : (strOfNums [48 + (j : Int) % 10]).size = 1 := by rw [strOfNums_size]; rfl
      go_wp2
      obtain ⟨f, rfl⟩ : ∃ f', f = f' + 1 := by
        cases f with
        | zero =>
          have := H.out.1
          simp at this
          omega
        | succ f => exact ⟨f, rfl⟩
      have hd := H.out.2.1
      unfold digs at hd
      rw [if_neg (by omega)] at hd
      have hlt : j / 10 < 10 ^ f := by
        have := H.out.1
        rw [Nat.pow_succ] at this
        omega
      go_roundw
      case rel => exact ⟨f, j / 10, strOfNums [48 + ((j % 10 : Nat) : Int)] ++ acc, by simp, by simp, hlt, by omega, by rw [ByteArray.size_append, strOfNums_size]; simp; omega, hd, H.out.2.2.alloc hwz _⟩
      case measure => simp [intOf]; omega
    · obtain rfl : j = 0 := by omega
      have hacc : acc.size ≤ 6 := by omega
      have hd := H.out.2.1
      rw [digs_zero] at hd
      have HD : Hid (acc = digs 6 k0 ⟨#[]⟩) := hd
      clear hd
      go_wp2
      go_ret
      exact ⟨by unfold mt; rw [← HD.out]; rfl, H.out.2.2⟩
end Go.Proofs.YtkaolpnbddjdpaaGreatDoor
namespace Go.Proofs.YtkaolpnbddjdpaaGreatDoor
open Go.ChangeShapes Go.WideShapes Go.ChangeAt Go.RowKit
set_option maxHeartbeats 1000000 in
theorem markStrings_any (ad : Option Addr) (cap g n₀ k0 : Nat) (T : List ByteArray) (w : World) (hT : T.length ≤ 40001) (hk0 : 0 < k0) (hk1 : k0 + T.length ≤ 99999) (h : SRow w n₀ g ad T) :
    Calls Tryz.prog 89 #[.slice ad T.length cap, .int .i64 k0] w fun e w' => e = .returned (.int .i64 ((k0 + T.length : Nat) : Int)) ∧ (∀ i, i < T.length → w'.cell? ⟨g, i, none⟩ = some (.string (mt (k0 + i)))) ∧ ∀ B, (0 < T.length → B = g) → Keep B w w' := by
  have HT : Hid (SRow w n₀ g ad T) := h
  clear h
  go_enter Tryz.func89, Tryz.ntmps89
  go_wp2
  go_loopw [1, 5] (fun kv i wr => ∃ k : Nat, k ≤ T.length ∧ i = .int .i64 k ∧ kv = .int .i64 ((k0 + k : Nat) : Int) ∧ (∀ i, i < k → wr.cell? ⟨g, i, none⟩ = some (.string (mt (k0 + i)))) ∧ (∀ i, i < T.length → (wr.cell? ⟨g, i, none⟩).isSome = true) ∧ (0 < T.length → ∀ o, wr.frozen? ⟨g, o, none⟩ = false) ∧ ∀ B, (0 < T.length → B = g) → Keep B w wr) (fun _ i _ => T.length - (intOf i).toNat)
  case atStart => exact ⟨0, Nat.zero_le _, rfl, by simp, fun i hi => by omega, fun i hi => by rw [HT.out.cell i hi]; rfl, HT.out.fz, fun _ _ => Keep.refl _ _⟩
  case round =>
    obtain ⟨k, hk, rfl, rfl, hm, hsome, hfz, hK⟩ := hrel
    have HK : Hid ((∀ i, i < k → wr.cell? ⟨g, i, none⟩ = some (.string (mt (k0 + i)))) ∧ (∀ i, i < T.length → (wr.cell? ⟨g, i, none⟩).isSome = true) ∧ (0 < T.length → ∀ o, wr.frozen? ⟨g, o, none⟩ = false) ∧ ∀ B, (0 < T.length → B = g) → Keep B w wr) := ⟨hm, hsome, hfz, hK⟩
    clear hm hsome hfz hK
    by_cases hlt : k < T.length
    · have hlt' : (k : Int) < (T.length : Int) := by omega
      have e1 := HT.out.at_ (by omega)
      subst e1
      go_wp2_with fail
      refine (markText_any (k0 + k) _ (by omega) (by omega)).mono ?_
      rintro e w3 ⟨rfl, hb3⟩
      obtain ⟨m1, m2, m3, m4⟩ := HK.out
      obtain ⟨u, hu⟩ := Option.isSome_iff_exists.1 (m2 k hlt)
      have hgl : g < wr.heap.size := cell_lt hu
      have ku : w3.cell? ⟨g, k, none⟩ = some u := (hb3.cell (p := ⟨g, k, none⟩) hgl).trans hu
      have zu : ∀ o, w3.frozen? ⟨g, o, none⟩ = false := fun o => (hb3.frozen (p := ⟨g, o, none⟩) hgl).trans (m3 (by omega) o)
      have HM : Hid ((∀ i, i < k → w3.cell? ⟨g, i, none⟩ = some (.string (mt (k0 + i)))) ∧ (∀ i, i < T.length → (w3.cell? ⟨g, i, none⟩).isSome = true) ∧ Keep g w w3) := ⟨fun i hi => (hb3.cell (p := ⟨g, i, none⟩) hgl).trans (m1 i hi), fun i hi => by rw [hb3.cell (p := ⟨g, i, none⟩) hgl]; exact m2 i hi, (m4 g (fun _ => rfl)).trans (Keep.of_below hb3)⟩
      clear m1 m2 m3 m4 HK hb3 hu hgl
      go_wp2
      go_roundw
      case rel =>
        refine ⟨k + 1, by omega, by go_num, by first | go_num | (congr 1; omega), fun i hi => ?_, fun i hi => ?_, fun _ o => by rw [World.frozen?_setCell]; exact zu o, fun B hB => ?_⟩
        · by_cases e : i = k
          · subst e
            exact World.cell?_setCell_same' _ _ _ (by rw [ku]; rfl)
          · rw [World.cell?_setCell_other _ _ _ _ (by simp <;> omega)]
            exact HM.out.1 i (by omega)
        · by_cases e : i = k
          · subst e
            rw [World.cell?_setCell_same' _ _ _ (by rw [ku]; rfl)]
            rfl
          · rw [World.cell?_setCell_other _ _ _ _ (by simp <;> omega)]
            exact HM.out.2.1 i hi
        · obtain rfl : B = g := hB (by omega)
          exact HM.out.2.2.setCell k _
      case measure => simp [intOf]; omega
    · have hge : (T.length : Int) ≤ (k : Int) := by omega
      obtain rfl : k = T.length := by omega
      go_wp2
      go_ret
      exact ⟨rfl, HK.out.1, HK.out.2.2.2⟩
set_option maxHeartbeats 1000000 in
theorem heldStrings_any (ad : Option Addr) (cap g k0 n : Nat) (w : World) (hn : n ≤ 40001) (hk0 : 0 < k0) (hk1 : k0 + n ≤ 99999) (hat : 0 < n → ad = some ⟨g, 0, none⟩) (hc : ∀ i, i < n → w.cell? ⟨g, i, none⟩ = some (.string (mt (k0 + i)))) :
    Calls Tryz.prog 184 #[.slice ad n cap, .int .i64 k0] w fun e w' => e = .returned (.int .i64 ((k0 + n : Nat) : Int)) ∧ Below w.heap.size w w' := by
  have HT : Hid ((0 < n → ad = some ⟨g, 0, none⟩) ∧ ∀ i, i < n → w.cell? ⟨g, i, none⟩ = some (.string (mt (k0 + i)))) := ⟨hat, hc⟩
  clear hat hc
  go_enter Tryz.func184, Tryz.ntmps184
  go_wp2
  go_loopw [1, 5] (fun kv i wr => ∃ k : Nat, k ≤ n ∧ i = .int .i64 k ∧ kv = .int .i64 ((k0 + k : Nat) : Int) ∧ Below w.heap.size w wr) (fun _ i _ => n - (intOf i).toNat)
  case atStart => exact ⟨0, Nat.zero_le _, rfl, by simp, Below.refl _ _⟩
  case round =>
    obtain ⟨k, hk, rfl, rfl, hb⟩ := hrel
    by_cases hlt : k < n
    · have hlt' : (k : Int) < (n : Int) := by omega
      have e1 := HT.out.1 (by omega)
      subst e1
      have hgl : g < w.heap.size := cell_lt (HT.out.2 k hlt)
      have ku : wr.cell? ⟨g, k, none⟩ = some (.string (mt (k0 + k))) := (hb.cell (p := ⟨g, k, none⟩) hgl).trans (HT.out.2 k hlt)
      have hgr : g < wr.heap.size := by have := hb.size; omega
      have HB : Hid (Below w.heap.size w wr) := hb
      clear hb
      go_wp2_with fail
      go_region_held3 (fun w' => w'.cell? ⟨g, k, none⟩ = some (.string (mt (k0 + k)))) (go_keep)
        (first | (go_at_call 88; refine (markText_any (k0 + k) _ (by omega) (by omega)).mono ?_; rintro e w3 ⟨rfl, hb3⟩; have ku3 := (hb3.cell (p := ⟨g, k, none⟩) hgr).trans (show wr.drew.cell? ⟨g, k, none⟩ = _ from ku)))
      go_wp2
      go_roundw
      case rel => exact ⟨k + 1, by omega, by go_num, by first | go_num | (congr 1; omega), HB.out.drew.trans (hb3.mono (show w.heap.size ≤ wr.heap.size from HB.out.size))⟩
      case measure => simp [intOf]; omega
    · have hge : (n : Int) ≤ (k : Int) := by omega
      obtain rfl : k = n := by omega
      have HB : Hid (Below w.heap.size w wr) := hb
      clear hb
      go_wp2
      go_ret
      exact ⟨rfl, HB.out⟩
end Go.Proofs.YtkaolpnbddjdpaaGreatDoor
namespace Go.Proofs.YtkaolpnbddjdpaaGreatDoor
open Go.ChangeShapes Go.WideShapes Go.ChangeAt Go.RowKit
/-- How many parts stand ahead of an element. -/
def offE (es : List (List ByteArray)) (i : Nat) : Nat := ((es.take i).map List.length).sum
theorem offE_zero (es : List (List ByteArray)) : offE es 0 = 0 := by simp [offE]
theorem offE_succ {es : List (List ByteArray)} {i : Nat} {e : List ByteArray} (h : es[i]? = some e) : offE es (i + 1) = offE es i + e.length := by
  unfold offE
  rw [List.take_add_one, h]
  simp
theorem offE_le {es : List (List ByteArray)} (hX : BdX es) : ∀ i, i ≤ es.length → offE es i ≤ 4 * i := by
  intro i
  induction i with
  | zero => intro _; simp [offE]
  | succ i ih =>
    intro hi
    have hlt : i < es.length := by omega
    rw [offE_succ (List.getElem?_eq_getElem hlt)]
    have := ih (by omega)
    have := (hX es[i] (List.getElem_mem hlt)).1
    omega
theorem row_keepG {n₀ t k R : Nat} {W W' : World} {v : Value} {xs : List Value} (h : W.ownsRow n₀ t 1 v k xs) (hv : v.ownBlock ≠ some R) (hk : Keep R W W') : W'.ownsRow n₀ t 1 v k xs :=
  h.kept hk.grownBy (.inr hv)
/-- What is none of these rows lies as it lay. -/
def KeepV (vals : List Value) (w w' : World) : Prop := ∀ k, k < w.heap.size → (∀ x ∈ vals, x.ownBlock ≠ some k) → w'.heap[k]? = w.heap[k]?
/-- The elements' parts hold the marks from k0 on. -/
structure MkE (k0 : Nat) (W : World) (v : Value) (vals : List Value) (es : List (List ByteArray)) : Prop where
  len : vals.length = es.length
  at_ : ∃ A C, v = .slice A es.length C ∧ (0 < es.length → ∃ b, A = some ⟨b, 0, none⟩ ∧ ∀ (i : Nat) (u : Value), vals[i]? = some u → W.cell? ⟨b, i, none⟩ = some u)
  parts : ∀ (i : Nat) (u : Value) (e : List ByteArray), vals[i]? = some u → es[i]? = some e → ∃ g cap, u = .slice (some ⟨g, 0, none⟩) e.length cap ∧ ∀ j, j < e.length → W.cell? ⟨g, j, none⟩ = some (.string (mt (k0 + offE es i + j)))
theorem MkE.below {k0 : Nat} {W W' : World} {v : Value} {vals : List Value} {es : List (List ByteArray)} (h : MkE k0 W v vals es) (hb : Below W.heap.size W W') : MkE k0 W' v vals es := by
  obtain ⟨A, C, hv, hA⟩ := h.at_
  refine ⟨h.len, ⟨A, C, hv, fun h0 => ?_⟩, fun i u e hu he => ?_⟩
  · obtain ⟨b, hb1, hb2⟩ := hA h0
    exact ⟨b, hb1, fun i u hu => (hb.cell (p := ⟨b, i, none⟩) (cell_lt (hb2 i u hu))).trans (hb2 i u hu)⟩
  · obtain ⟨g, cap, e1, e2⟩ := h.parts i u e hu he
    exact ⟨g, cap, e1, fun j hj => (hb.cell (p := ⟨g, j, none⟩) (cell_lt (e2 j hj))).trans (e2 j hj)⟩
set_option maxHeartbeats 2000000 in
theorem markV_any (v : Value) (vals : List Value) (es : List (List ByteArray)) (n₀ k0 : Nat) (w : World) (h : OwnV n₀ w v vals es) (hX : BdX es) (hl : es.length ≤ 10) (hn : n₀ ≤ w.heap.size) (hk0 : 0 < k0) (hk1 : k0 ≤ 99900) :
    Calls Tryz.prog 165 #[v, .int .i64 k0] w fun e w' => e = .returned (.int .i64 ((k0 + offE es es.length : Nat) : Int)) ∧ MkE k0 w' v vals es ∧ Below n₀ w w' ∧ KeepV vals w w' := by
  have HO : Hid (OwnV n₀ w v vals es ∧ BdX es) := ⟨h, hX⟩
  obtain ⟨A, C, rfl, _⟩ := h.slice
  clear h hX
  go_enter Tryz.func165, Tryz.ntmps165
  go_wp2
  go_loopw [1, 5] (fun kv i wr => ∃ m : Nat, m ≤ es.length ∧ i = .int .i64 m ∧ kv = .int .i64 ((k0 + offE es m : Nat) : Int) ∧ wr.ownsRow n₀ 141 1 (.slice A es.length C) es.length vals ∧ (∀ (i : Nat) (u : Value) (e : List ByteArray), vals[i]? = some u → es[i]? = some e → i < m → ∃ g cap, u = .slice (some ⟨g, 0, none⟩) e.length cap ∧ ∀ j, j < e.length → wr.cell? ⟨g, j, none⟩ = some (.string (mt (k0 + offE es i + j)))) ∧ (∀ (i : Nat) (u : Value) (e : List ByteArray), vals[i]? = some u → es[i]? = some e → m ≤ i → wr.ownsRow n₀ 9 1 u e.length (e.map Value.string)) ∧ Below n₀ w wr ∧ KeepV vals w wr) (fun _ i _ => es.length - (intOf i).toNat)
  case atStart => exact ⟨0, Nat.zero_le _, rfl, by simp [offE_zero], HO.out.1.row, fun i u e _ _ hi => by omega, fun i u e hu he _ => (HO.out.1.parts i u e hu he).1, Below.refl _ _, fun _ _ _ => rfl⟩
  case round =>
    obtain ⟨m, hm, rfl, rfl, hrow, hmk, hun, hb, hT⟩ := hrel
    have hof := offE_le HO.out.2 m hm
    by_cases hlt : m < es.length
    · have hlt' : (m : Int) < (es.length : Int) := by omega
      obtain ⟨e, he⟩ : ∃ e, es[m]? = some e := ⟨_, List.getElem?_eq_getElem hlt⟩
      obtain ⟨u, hu⟩ : ∃ u, vals[m]? = some u := ⟨_, List.getElem?_eq_getElem (by rw [HO.out.1.len]; exact hlt)⟩
      have he4 := (HO.out.2 e (List.mem_of_getElem? he)).1
      have hp := (HO.out.1.parts m u e hu he).2
      have hur := hun m u e hu he (Nat.le_refl _)
      obtain ⟨g, ad, cap, hue, S⟩ := SRow.of_owns hur
      have hueb : u.ownBlock = some g := by rw [hue, S.at_ hp]; rfl
      subst hue
      have had := S.at_ hp
      subst had
      obtain ⟨b, hA⟩ : ∃ b, A = some ⟨b, 0, none⟩ := by
        rcases hrow.2 with ⟨h1, h0⟩ | ⟨g, cap, cur, h1, _⟩
        · omega
        · simp at h1
          exact ⟨g, h1.1⟩
      subst hA
      have hc := hrow.cells (g := b) rfl m _ hu
      rw [addr0] at hc
      have HS : Hid (SRow wr n₀ g (some ⟨g, 0, none⟩) e ∧ wr.ownsRow n₀ 141 1 (.slice (some ⟨b, 0, none⟩) es.length C) es.length vals ∧ (∀ (i : Nat) (u : Value) (e : List ByteArray), vals[i]? = some u → es[i]? = some e → i < m → ∃ g cap, u = .slice (some ⟨g, 0, none⟩) e.length cap ∧ ∀ j, j < e.length → wr.cell? ⟨g, j, none⟩ = some (.string (mt (k0 + offE es i + j)))) ∧ (∀ (i : Nat) (u : Value) (e : List ByteArray), vals[i]? = some u → es[i]? = some e → m ≤ i → wr.ownsRow n₀ 9 1 u e.length (e.map Value.string)) ∧ Below n₀ w wr ∧ vals[m]? = some (.slice (some ⟨g, 0, none⟩) e.length cap) ∧ es[m]? = some e ∧ KeepV vals w wr) := ⟨S, hrow, hmk, hun, hb, hu, he, hT⟩
      clear hrow hmk hun hb hu he hur S hueb hT
      go_wp2_with fail
      refine (markStrings_any (some ⟨g, 0, none⟩) cap g n₀ (k0 + offE es m) e _ (by omega) (by omega) (by omega) HS.out.1).mono ?_
      rintro e1 w2 ⟨rfl, hm2, hk2⟩
      obtain ⟨S, hrow, hmk, hun, hb, hu, he, hT⟩ := HS.out
      have hK := hk2 g (fun _ => rfl)
      have hgn := S.base hp
      have hne : ∀ (i : Nat) (x : Value), i ≠ m → vals[i]? = some x → x.ownBlock ≠ some g := fun i x hi hx => by
        have hgb : (Value.slice (some ⟨g, 0, none⟩) e.length cap).ownBlock = some g := rfl
        rcases Nat.lt_or_ge i m with q | q
        · have := HO.out.1.apart i m x _ q hx hu
          rwa [hgb] at this
        · have := HO.out.1.apart m i _ x (by omega) hu hx
          rw [hgb] at this
          exact this.symm
      have HN : Hid (w2.ownsRow n₀ 141 1 (.slice (some ⟨b, 0, none⟩) es.length C) es.length vals ∧ (∀ (i : Nat) (u : Value) (e : List ByteArray), vals[i]? = some u → es[i]? = some e → i < m + 1 → ∃ g cap, u = .slice (some ⟨g, 0, none⟩) e.length cap ∧ ∀ j, j < e.length → w2.cell? ⟨g, j, none⟩ = some (.string (mt (k0 + offE es i + j)))) ∧ (∀ (i : Nat) (u : Value) (e : List ByteArray), vals[i]? = some u → es[i]? = some e → m + 1 ≤ i → w2.ownsRow n₀ 9 1 u e.length (e.map Value.string)) ∧ Below n₀ w w2 ∧ offE es (m + 1) = offE es m + e.length ∧ KeepV vals w w2) := by
        refine ⟨?_, fun i x y hx hy hi => ?_, fun i x y hx hy hi => row_keepG (hun i x y hx hy (by omega)) (hne i x (by omega) hx) hK, hb.trans (hK.below hgn (Nat.le_trans hn hb.size)), offE_succ he, fun q hq hc => (hK.block q (Nat.lt_of_lt_of_le hq hb.size) (fun h => ?_)).trans (hT q hq hc)⟩
        · refine row_keepG hrow ?_ hK
          rcases rows_apart (hun m _ e hu he (Nat.le_refl _)) hrow (by decide) with h1 | h1
          · simp [Value.ownBlock] at h1
          · exact fun h2 => h1 (by rw [h2]; rfl)
        · rcases Nat.lt_or_ge i m with q | q
          · obtain ⟨g1, c1, e1, e2⟩ := hmk i x y hx hy q
            have := hne i x (by omega) hx
            rw [e1] at this
            have hg1 : g1 ≠ g := fun h => this (by rw [h]; rfl)
            exact ⟨g1, c1, e1, fun j hj => hK.cell (e2 j hj) hg1⟩
          · obtain rfl : i = m := by omega
            rw [hu] at hx
            rw [he] at hy
            cases hx
            cases hy
            exact ⟨g, cap, rfl, hm2⟩
        · exact hc _ (List.mem_of_getElem? hu) (by rw [h]; rfl)
      clear HS S hrow hmk hun hb hu he hK hk2 hm2 hne hT
      go_wp2
      go_roundw
      case rel => exact ⟨m + 1, by omega, by go_num, by rw [HN.out.2.2.2.2.1]; congr 1; omega, HN.out.1, HN.out.2.1, HN.out.2.2.1, HN.out.2.2.2.1, HN.out.2.2.2.2.2⟩
      case measure => simp [intOf]; omega
    · have hge : (es.length : Int) ≤ (m : Int) := by omega
      obtain rfl : m = es.length := by omega
      have HS : Hid (wr.ownsRow n₀ 141 1 (.slice A es.length C) es.length vals ∧ (∀ (i : Nat) (u : Value) (e : List ByteArray), vals[i]? = some u → es[i]? = some e → i < es.length → ∃ g cap, u = .slice (some ⟨g, 0, none⟩) e.length cap ∧ ∀ j, j < e.length → wr.cell? ⟨g, j, none⟩ = some (.string (mt (k0 + offE es i + j)))) ∧ Below n₀ w wr ∧ KeepV vals w wr) := ⟨hrow, hmk, hb, hT⟩
      clear hrow hmk hun hb hT
      go_wp2
      go_ret
      refine ⟨rfl, ⟨HO.out.1.len, ⟨A, C, rfl, fun h0 => ?_⟩, fun i u e hu he => HS.out.2.1 i u e hu he (List.getElem?_eq_some_iff.1 he).1⟩, HS.out.2.2.1, HS.out.2.2.2⟩
      rcases HS.out.1.2 with ⟨h1, h0'⟩ | ⟨g, cap, cur, h1, _⟩
      · omega
      · simp at h1
        refine ⟨g, h1.1, fun i u hu => ?_⟩
        have := HS.out.1.cells (g := g) (by rw [h1.1]; rfl) i u hu
        rwa [addr0] at this
set_option maxHeartbeats 2000000 in
theorem heldE_any (v : Value) (vals : List Value) (es : List (List ByteArray)) (k0 : Nat) (w : World) (h : MkE k0 w v vals es) (hX : BdX es) (hl : es.length ≤ 10) (hk0 : 0 < k0) (hk1 : k0 ≤ 99900) :
    Calls Tryz.prog 166 #[v, .int .i64 k0] w fun e w' => e = .returned (.int .i64 ((k0 + offE es es.length : Nat) : Int)) ∧ Below w.heap.size w w' := by
  have HO : Hid (MkE k0 w v vals es ∧ BdX es) := ⟨h, hX⟩
  obtain ⟨A, C, rfl, _⟩ := h.at_
  clear h hX
  go_enter Tryz.func166, Tryz.ntmps166
  go_wp2
  go_loopw [1, 5] (fun kv i wr => ∃ m : Nat, m ≤ es.length ∧ i = .int .i64 m ∧ kv = .int .i64 ((k0 + offE es m : Nat) : Int) ∧ Below w.heap.size w wr) (fun _ i _ => es.length - (intOf i).toNat)
  case atStart => exact ⟨0, Nat.zero_le _, rfl, by simp [offE_zero], Below.refl _ _⟩
  case round =>
    obtain ⟨m, hm, rfl, rfl, hb⟩ := hrel
    have hof := offE_le HO.out.2 m hm
    by_cases hlt : m < es.length
    · have hlt' : (m : Int) < (es.length : Int) := by omega
      have hK := HO.out.1.below hb
      obtain ⟨e, he⟩ : ∃ e, es[m]? = some e := ⟨_, List.getElem?_eq_getElem hlt⟩
      obtain ⟨u, hu⟩ : ∃ u, vals[m]? = some u := ⟨_, List.getElem?_eq_getElem (by rw [HO.out.1.len]; exact hlt)⟩
      have he4 := (HO.out.2 e (List.mem_of_getElem? he)).1
      obtain ⟨g, cap, hue, hcs⟩ := hK.parts m u e hu he
      subst hue
      obtain ⟨A', C', hv, hA⟩ := hK.at_
      obtain ⟨b, hA', hc'⟩ := hA (by omega)
      simp at hv
      obtain ⟨rfl, rfl⟩ := hv
      subst hA'
      have hc := hc' m _ hu
      have HS : Hid ((∀ j, j < e.length → wr.cell? ⟨g, j, none⟩ = some (.string (mt (k0 + offE es m + j)))) ∧ Below w.heap.size w wr ∧ offE es (m + 1) = offE es m + e.length) := ⟨hcs, hb, offE_succ he⟩
      clear hK hu he hcs hA hc' hb
      go_wp2_with fail
      refine (heldStrings_any (some ⟨g, 0, none⟩) cap g (k0 + offE es m) e.length _ (by omega) (by omega) (by omega) (fun _ => rfl) HS.out.1).mono ?_
      rintro e1 w2 ⟨rfl, hb2⟩
      have HN : Hid (Below w.heap.size w w2 ∧ offE es (m + 1) = offE es m + e.length) := ⟨HS.out.2.1.trans (hb2.mono HS.out.2.1.size), HS.out.2.2⟩
      clear HS hb2
      go_wp2
      go_roundw
      case rel => exact ⟨m + 1, by omega, by go_num, by rw [HN.out.2]; congr 1; omega, HN.out.1⟩
      case measure => simp [intOf]; omega
    · have hge : (es.length : Int) ≤ (m : Int) := by omega
      obtain rfl : m = es.length := by omega
      have HB : Hid (Below w.heap.size w wr) := hb
      clear hb
      go_wp2
      go_ret
      exact ⟨rfl, HB.out⟩
end Go.Proofs.YtkaolpnbddjdpaaGreatDoor
namespace Go.Proofs.YtkaolpnbddjdpaaGreatDoor
open Go.ChangeShapes Go.WideShapes Go.ChangeAt Go.RowKit
/-- How many marks a list of segments takes ahead of one. -/
def offL (gs : List Seg) (i : Nat) : Nat := ((gs.take i).map fun g => 1 + offE g.2 g.2.length).sum
theorem offL_zero (gs : List Seg) : offL gs 0 = 0 := by simp [offL]
theorem offL_succ {gs : List Seg} {i : Nat} {g : Seg} (h : gs[i]? = some g) : offL gs (i + 1) = offL gs i + 1 + offE g.2 g.2.length := by
  unfold offL
  rw [List.take_add_one, h]
  simp
  omega
theorem offL_le {gs : List Seg} (hX : BdLg gs) : ∀ i, i ≤ gs.length → offL gs i ≤ 41 * i := by
  intro i
  induction i with
  | zero => intro _; simp [offL]
  | succ i ih =>
    intro hi
    have hlt : i < gs.length := by omega
    rw [offL_succ (List.getElem?_eq_getElem hlt)]
    have := ih (by omega)
    have h1 := hX gs[i] (List.getElem_mem hlt)
    have := offE_le h1.1 gs[i].2.length (Nat.le_refl _)
    omega
theorem MkE.same {k0 : Nat} {W W' : World} {v : Value} {vals : List Value} {es : List (List ByteArray)} (h : MkE k0 W v vals es) (hs : ∀ x ∈ v :: vals, ∀ g, x.ownBlock = some g → W'.heap[g]? = W.heap[g]?) : MkE k0 W' v vals es := by
  obtain ⟨A, C, hv, hA⟩ := h.at_
  refine ⟨h.len, ⟨A, C, hv, fun h0 => ?_⟩, fun i u e hu he => ?_⟩
  · obtain ⟨b, hb1, hb2⟩ := hA h0
    exact ⟨b, hb1, fun i u hu => (World.cell?_of_block (w := W) (hs v (by simp) b (by rw [hv, hb1]; rfl))).trans (hb2 i u hu)⟩
  · obtain ⟨g, cap, e1, e2⟩ := h.parts i u e hu he
    exact ⟨g, cap, e1, fun j hj => (World.cell?_of_block (w := W) (hs u (by simp [List.mem_of_getElem? hu]) g (by rw [e1]; rfl))).trans (e2 j hj)⟩
/-- Tags and parts hold the marks from k0 on. -/
structure MkL (k0 : Nat) (W : World) (v : Value) (ps : List (Value × List Value)) (gs : List Seg) : Prop where
  len : ps.length = gs.length
  at_ : ∃ A C, v = .slice A gs.length C ∧ (0 < gs.length → ∃ b, A = some ⟨b, 0, none⟩ ∧ ∀ (i : Nat) (p : Value × List Value), ps[i]? = some p → W.cell? ⟨b, i * 2, none⟩ = some (.string (mt (k0 + offL gs i))) ∧ W.cell? ⟨b, i * 2 + 1, none⟩ = some p.1)
  segs : ∀ (i : Nat) (p : Value × List Value) (g : Seg), ps[i]? = some p → gs[i]? = some g → MkE (k0 + offL gs i + 1) W p.1 p.2 g.2
theorem MkL.below {k0 : Nat} {W W' : World} {v : Value} {ps : List (Value × List Value)} {gs : List Seg} (h : MkL k0 W v ps gs) (hb : Below W.heap.size W W') : MkL k0 W' v ps gs := by
  obtain ⟨A, C, hv, hA⟩ := h.at_
  refine ⟨h.len, ⟨A, C, hv, fun h0 => ?_⟩, fun i p g hp hg => (h.segs i p g hp hg).below hb⟩
  obtain ⟨b, hb1, hb2⟩ := hA h0
  exact ⟨b, hb1, fun i p hp => ⟨(hb.cell (p := ⟨b, i * 2, none⟩) (cell_lt (hb2 i p hp).1)).trans (hb2 i p hp).1, (hb.cell (p := ⟨b, i * 2 + 1, none⟩) (cell_lt (hb2 i p hp).2)).trans (hb2 i p hp).2⟩⟩
end Go.Proofs.YtkaolpnbddjdpaaGreatDoor
