/- Texts of ours put together: PcX, RiT, MarkZ, MkJ, MkMs, MkBs, BdIx (what the other groups do not tell). -/
import Derived.WalkKit
import Derived.Below
import Derived.WalkSmall
import Derived.RangeFuncRecord
import Derived.ProofKit
import Derived.OpenShut
import Derived.ShutString
import Derived.ChangeOld
import Derived.WalkLawsBesides
import Derived.WalkSpells
import Derived.Deep.Light
import Derived.Handy
import Derived.Deep.QuietTactic
import Derived.BigQuiet
import Derived.BigRegion
import Derived.Deep.OwnRows
import Derived.Laws.OwnMore
import Derived.Lib.ParseIntB
import Derived.Lib.ItoaNum
import Derived.Lib.Strings
import Derived.Shelf.LaysM
import Derived.Shelf.Strconv.ParseIntPublic10
import Derived.Shelf.Strings.Prefix
import Derived.Lib.AtoiErrMem
import Derived.Laws.BytesArg
import Derived.Lib.Bytealg
import Derived.Lib.SlTrimSet
import Derived.Stop.Joined
import Derived.MakeChecks
import Derived.LaidLaws
import Derived.Lib.SmallJoins
import Derived.Shelf.Slices.Clone
import Derived.Lib.AppendIntMem
import Derived.Deep.RegionHeld3
import Derived.Deep.RegionLaw
import Derived.Deep.AppendLies
import Derived.RangeFuncBox
import Derived.Shelf.Strconv.Clone
import Derived.Shelf.Strconv.Itoa4
import Derived.Lib.LaidTab
import Derived.Shelf.Strings.Count
import Derived.Deep.DeepMust
import Derived.Deep.Cut
import Derived.Deep.CutRange
import Derived.Laws.AppendOwn
import Derived.Maps.AppendAt
import Derived.Shelf.Strings.SlTrimAscii
import Derived.Shelf.Strings.Search2
import Derived.Laws.StructEq
import Derived.Deep.CutBlock
import Derived.Deep.SlicePairs
import Derived.Deep.Slices
import Derived.SliceStrings
import Derived.Stop.LaidErr
import Derived.OpenVars
import Derived.LaidMore
import Derived.SevenTiedAt
import Derived.Lay
import Derived.Test.YtkaolpnbddjdpaaGreatDoorG00
import Derived.Test.YtkaolpnbddjdpaaGreatDoorG01
import Derived.Test.YtkaolpnbddjdpaaGreatDoorG02
import Derived.Test.YtkaolpnbddjdpaaGreatDoorG03
import Derived.Test.YtkaolpnbddjdpaaGreatDoorG04
import Derived.Test.YtkaolpnbddjdpaaGreatDoorG05
import Derived.Test.YtkaolpnbddjdpaaGreatDoorG06
import Derived.Test.YtkaolpnbddjdpaaGreatDoorG07
import Derived.Test.YtkaolpnbddjdpaaGreatDoorG08
import Derived.Test.YtkaolpnbddjdpaaGreatDoorG09
import Derived.Test.YtkaolpnbddjdpaaGreatDoorG10
import Derived.Test.YtkaolpnbddjdpaaGreatDoorG11
import Derived.Test.YtkaolpnbddjdpaaGreatDoorG12
import Derived.Test.YtkaolpnbddjdpaaGreatDoorG13
import Derived.Test.YtkaolpnbddjdpaaGreatDoorG14
import Derived.Test.YtkaolpnbddjdpaaGreatDoorG15
import Derived.Test.YtkaolpnbddjdpaaGreatDoorG16
import Derived.Test.YtkaolpnbddjdpaaGreatDoorG17
import Derived.Test.YtkaolpnbddjdpaaGreatDoorG18
import Derived.Test.YtkaolpnbddjdpaaGreatDoorG19
import Derived.Test.YtkaolpnbddjdpaaGreatDoorG20
import Derived.Test.YtkaolpnbddjdpaaGreatDoorG21
import Derived.Test.YtkaolpnbddjdpaaGreatDoorG22
import Derived.Test.YtkaolpnbddjdpaaGreatDoorG23
import Derived.Test.YtkaolpnbddjdpaaGreatDoorG24
import Derived.Test.YtkaolpnbddjdpaaGreatDoorG25
import Derived.Test.YtkaolpnbddjdpaaGreatDoorG26
import Derived.Test.YtkaolpnbddjdpaaGreatDoorG27
import Derived.Test.YtkaolpnbddjdpaaGreatDoorG28
import Derived.Test.YtkaolpnbddjdpaaGreatDoorG29
import Derived.Test.YtkaolpnbddjdpaaGreatDoorG30
import Derived.Test.YtkaolpnbddjdpaaGreatDoorG31
import Derived.Test.YtkaolpnbddjdpaaGreatDoorG32
import Derived.Test.YtkaolpnbddjdpaaGreatDoorG51
import Derived.Test.YtkaolpnbddjdpaaGreatDoorG33
import Derived.Test.YtkaolpnbddjdpaaGreatDoorG34
import Derived.Test.YtkaolpnbddjdpaaGreatDoorG35
import Derived.Test.YtkaolpnbddjdpaaGreatDoorG36
import Derived.Test.YtkaolpnbddjdpaaGreatDoorG37
import Derived.Test.YtkaolpnbddjdpaaGreatDoorG60
import Derived.Test.YtkaolpnbddjdpaaGreatDoorG61
namespace Go.Proofs.YtkaolpnbddjdpaaGreatDoor
open Go.ChangeShapes Go.WideShapes Go.ChangeAt Go.RowKit
/-- What ParcelIx tells. -/
noncomputable def ixT (p : Pcl) : Ixc := bif pclB p then ixP p else ⟨⟨#[]⟩, ⟨#[]⟩, 0, []⟩
theorem pclB_all {p : Pcl} (h : pclB p = true) : ∀ q ∈ p.papers, papB q = true := by
  unfold pclB at h
  rw [Bool.and_eq_true, List.all_eq_true] at h
  exact h.1
set_option maxHeartbeats 8000000 in
theorem parcelIx_impl (p : Pcl) (v : Value) (w : World) (h : PclR w v p) (hI : ∀ q ∈ p.papers, PapI q) (hB : BdPc 1048576 p) (hV : VarsAt w) :
    Calls Tryz.prog 19 #[.agg #[.string p.frm, .string p.to, .int .i64 p.num, v]] w fun e w' => ∃ u bs, e = .returned (.agg #[.string (ixT p).frm, .string (ixT p).to, .int .i64 (ixT p).num, u]) ∧ OwnBs w.heap.size w' u bs ∧ bs.map (·.1) = (ixT p).buns ∧ Below w.heap.size w w' ∧ SepBs bs := by
  obtain ⟨frm, tto, num, ps⟩ := p
  have hps := h.ps
  dsimp only at hps
  obtain ⟨A, C, rfl⟩ := hps.val
  obtain ⟨W1, hW1⟩ : ∃ W1, (w.alloc (.cells #[.string frm, .string tto, .int .i64 num, .slice A ps.length C] 27)).alloc (.cells #[.string ⟨#[]⟩, .string ⟨#[]⟩, .int .i64 0, .slice none 0 0] 44) = W1 := ⟨_, rfl⟩
  have hb1 : Below w.heap.size w W1 := by rw [← hW1]; exact ((Below.refl _ _).alloc (Nat.le_refl _) _).alloc (by simp) _
  have hs1 : W1.heap.size = w.heap.size + 2 := by rw [← hW1]; simp
  have hx0 : W1.heap[w.heap.size]? = some (.cells #[.string frm, .string tto, .int .i64 num, .slice A ps.length C] 27) := by
    rw [← hW1, (Below.alloc (Below.refl (w.alloc (.cells #[.string frm, .string tto, .int .i64 num, .slice A ps.length C] 27)).heap.size (w.alloc (.cells #[.string frm, .string tto, .int .i64 num, .slice A ps.length C] 27))) (Nat.le_refl _) (.cells #[.string ⟨#[]⟩, .string ⟨#[]⟩, .int .i64 0, .slice none 0 0] 44)).block w.heap.size (by simp)]
    exact World.alloc_heap_new w _
  have hy0 : W1.heap[w.heap.size + 1]? = some (.cells #[.string ⟨#[]⟩, .string ⟨#[]⟩, .int .i64 0, .slice none 0 0] 44) := by
    rw [← hW1]
    have := World.alloc_heap_new (w.alloc (.cells #[.string frm, .string tto, .int .i64 num, .slice A ps.length C] 27)) (.cells #[.string ⟨#[]⟩, .string ⟨#[]⟩, .int .i64 0, .slice none 0 0] 44)
    simpa using this
  have HW1 : Hid ((w.alloc (.cells #[.string frm, .string tto, .int .i64 num, .slice A ps.length C] 27)).alloc (.cells #[.string ⟨#[]⟩, .string ⟨#[]⟩, .int .i64 0, .slice none 0 0] 44) = W1 ∧ W1.heap.size = w.heap.size + 2) := ⟨hW1, hs1⟩
  have HP : Hid (∀ W, Below W1.heap.size W1 W → W.heap[w.heap.size]? = some (.cells #[.string frm, .string tto, .int .i64 num, .slice A ps.length C] 27) ∧ W.heap[w.heap.size + 1]? = some (.cells #[.string ⟨#[]⟩, .string ⟨#[]⟩, .int .i64 0, .slice none 0 0] 44)) := fun W hW => ⟨(hW.block _ (Array.getElem?_eq_some_iff.1 hx0).1).trans hx0, (hW.block _ (Array.getElem?_eq_some_iff.1 hy0).1).trans hy0⟩
  dsimp only at hI ⊢
  have H0 : Hid (PclR w (.slice A ps.length C) ⟨frm, tto, num, ps⟩ ∧ (∀ q ∈ ps, PapI q) ∧ BdPc 1048576 ⟨frm, tto, num, ps⟩ ∧ Below w.heap.size w W1 ∧ VarsAt w) := ⟨h, hI, hB, hb1, hV⟩
  have QR := parcelRight_impl ⟨frm, tto, num, ps⟩ (.slice A ps.length C) W1 (H0.out.1.below H0.out.2.2.2.1) H0.out.2.1 H0.out.2.2.1 (H0.out.2.2.2.2.below H0.out.2.2.2.1)
  obtain ⟨y, hy⟩ : ∃ y, y = pclB ⟨frm, tto, num, ps⟩ := ⟨_, rfl⟩
  have HY : Hid (y = pclB ⟨frm, tto, num, ps⟩) := hy
  rw [← hy] at QR
  dsimp only at QR
  obtain ⟨_, x0, x1, x2, x3⟩ := ix4 hx0
  clear h hI hB hb1 hps hW1 hx0 hy0 hs1 hy hV
  go_enter Tryz.func19, Tryz.ntmps19
  go_upto_region 1 with fail
  try rw [HW1.out.1]
  go_wp2_with fail
  refine QR.mono ?_
  rintro e w1 ⟨rfl, hr1⟩
  have H1 : Hid (Below w.heap.size w w1) := H0.out.2.2.2.1.trans (hr1.mono H0.out.2.2.2.1.size)
  have K1 : Hid (Below W1.heap.size W1 w1) := hr1
  clear hr1 QR x0 x1 x2 x3
  cases y with
  | false =>
    have HF : Hid (ixT ⟨frm, tto, num, ps⟩ = ⟨⟨#[]⟩, ⟨#[]⟩, 0, []⟩) := by show _ = _; unfold ixT; rw [← HY.out]; rfl
    obtain ⟨_, y0, y1, y2, y3⟩ := ix4 (HP.out w1 K1.out).2
    go_wp2
    obtain ⟨W3, hW3⟩ : ∃ W3, ((((w1.setCell ⟨w.heap.size + 1, 0, none⟩ (.string ⟨#[]⟩)).setCell ⟨w.heap.size + 1, 1, none⟩ (.string ⟨#[]⟩)).setCell ⟨w.heap.size + 1, 2, none⟩ (.int .i64 0)).setCell ⟨w.heap.size + 1, 3, none⟩ (.slice none 0 0)) = W3 := ⟨_, rfl⟩
    rw [hW3]
    have hz : W3.heap[w.heap.size + 1]? = some (.cells #[.string ⟨#[]⟩, .string ⟨#[]⟩, .int .i64 0, .slice none 0 0] 44) := by rw [← hW3]; exact ix_set4 _ _ _ _ (HP.out w1 K1.out).2
    have hbz : Below w.heap.size w W3 := by rw [← hW3]; exact (((H1.out.setCell (Nat.le_succ _) _).setCell (Nat.le_succ _) _).setCell (Nat.le_succ _) _).setCell (Nat.le_succ _) _
    clear hW3 y0 y1 y2 y3
    obtain ⟨_, y0, y1, y2, y3⟩ := ix4 hz
    refine bodyPost_ret (v := .agg #[.string ⟨#[]⟩, .string ⟨#[]⟩, .int .i64 0, .slice none 0 0]) (by simp [results, Tryz.results19, go_sem, y0, y1, y2, y3]) rfl ?_
    exact ⟨.slice none 0 0, [], by rw [HF.out], OwnBs.nil _ _, by rw [HF.out]; rfl, hbz, SepBs.nil⟩
  | true =>
    have hall : ∀ q ∈ ps, papB q = true := pclB_all HY.out.symm
    have HF : Hid (ixT ⟨frm, tto, num, ps⟩ = ixP ⟨frm, tto, num, ps⟩) := by show _ = _; unfold ixT; rw [← HY.out]; rfl
    have QX := ixOfZ_any ⟨frm, tto, num, ps⟩ (.slice A ps.length C) w1 (H0.out.1.below H1.out) (fun q hq => ⟨H0.out.2.1 q hq, (papB_okX (hall q hq)).kd⟩) H0.out.2.2.1 (H0.out.2.2.2.2.below H1.out)
    dsimp only at QX
    obtain ⟨_, x0, x1, x2, x3⟩ := ix4 (HP.out w1 K1.out).1
    clear hall
    go_wp2_with fail
    refine QX.mono ?_
    rintro e w2 ⟨u, bs, rfl, hO, hbs, hb2, hsp⟩
    have HSP : Hid (SepBs bs) := hsp
    obtain ⟨Au, nu, Cu, rfl⟩ : ∃ Au nu Cu, u = .slice Au nu Cu := by obtain ⟨A', C', e⟩ := own_formX hO.row; exact ⟨A', _, C', e⟩
    have K2 : Hid (Below W1.heap.size W1 w2) := K1.out.trans (hb2.mono K1.out.size)
    have H2 : Hid (OwnBs w1.heap.size w2 (.slice Au nu Cu) bs ∧ bs.map (·.1) = bunsP ps ∧ Below w.heap.size w w2 ∧ w.heap.size + 2 ≤ w1.heap.size) := ⟨hO, hbs, H1.out.trans (hb2.mono H1.out.size), by have := K1.out.size; have := HW1.out.2; omega⟩
    clear hO hbs hb2 hsp QX x0 x1 x2 x3
    obtain ⟨_, y0, y1, y2, y3⟩ := ix4 (HP.out w2 K2.out).2
    go_wp2
    obtain ⟨W3, hW3⟩ : ∃ W3, ((((w2.setCell ⟨w.heap.size + 1, 0, none⟩ (.string frm)).setCell ⟨w.heap.size + 1, 1, none⟩ (.string tto)).setCell ⟨w.heap.size + 1, 2, none⟩ (.int .i64 num)).setCell ⟨w.heap.size + 1, 3, none⟩ (.slice Au nu Cu)) = W3 := ⟨_, rfl⟩
    rw [hW3]
    have hz : W3.heap[w.heap.size + 1]? = some (.cells #[.string frm, .string tto, .int .i64 num, .slice Au nu Cu] 44) := by rw [← hW3]; exact ix_set4 _ _ _ _ (HP.out w2 K2.out).2
    have hbz : Below w.heap.size w W3 := by rw [← hW3]; exact (((H2.out.2.2.1.setCell (Nat.le_succ _) _).setCell (Nat.le_succ _) _).setCell (Nat.le_succ _) _).setCell (Nat.le_succ _) _
    have hlt : w.heap.size + 1 < w1.heap.size := by have := H2.out.2.2.2; omega
    have hle : w.heap.size ≤ w1.heap.size := by omega
    have hO3 : OwnBs w.heap.size W3 (.slice Au nu Cu) bs := by rw [← hW3]; exact ((((H2.out.1.setX hlt _ _).setX hlt _ _).setX hlt _ _).setX hlt _ _).monoX hle
    have H3 : Hid (OwnBs w.heap.size W3 (.slice Au nu Cu) bs ∧ Below w.heap.size w W3) := ⟨hO3, hbz⟩
    clear hW3 y0 y1 y2 y3 hO3 hbz hlt hle
    obtain ⟨_, y0, y1, y2, y3⟩ := ix4 hz
    refine bodyPost_ret (v := .agg #[.string frm, .string tto, .int .i64 num, .slice Au nu Cu]) (by simp [results, Tryz.results19, go_sem, y0, y1, y2, y3]) rfl ?_
    exact ⟨.slice Au nu Cu, bs, by rw [HF.out]; rfl, H3.out.1, by rw [HF.out]; exact H2.out.2.1, H3.out.2, HSP.out⟩
set_option maxHeartbeats 8000000 in
theorem parcelIx_spec (p : Pcl) (v : Value) (w : World) (h : PclR w v p) (hI : ∀ q ∈ p.papers, PapI q) (hB : BdPc 1048576 p) :
    Calls Tryz.prog 18 #[.agg #[.string p.frm, .string p.to, .int .i64 p.num, v]] w fun e w' => ∃ u bs, e = .returned (.agg #[.string (ixT p).frm, .string (ixT p).to, .int .i64 (ixT p).num, u]) ∧ OwnBs w.heap.size w' u bs ∧ bs.map (·.1) = (ixT p).buns ∧ Below w.heap.size w w' := by
  obtain ⟨frm, tto, num, ps⟩ := p
  have hps := h.ps
  dsimp only at hps
  obtain ⟨A, C, rfl⟩ := hps.val
  obtain ⟨W1, hW1⟩ : ∃ W1, (w.alloc (.cells #[.string frm, .string tto, .int .i64 num, .slice A ps.length C] 27)).alloc (.cells #[.string ⟨#[]⟩, .string ⟨#[]⟩, .int .i64 0, .slice none 0 0] 44) = W1 := ⟨_, rfl⟩
  have hb1 : Below w.heap.size w W1 := by rw [← hW1]; exact ((Below.refl _ _).alloc (Nat.le_refl _) _).alloc (by simp) _
  have hs1 : W1.heap.size = w.heap.size + 2 := by rw [← hW1]; simp
  have hx0 : W1.heap[w.heap.size]? = some (.cells #[.string frm, .string tto, .int .i64 num, .slice A ps.length C] 27) := by
    rw [← hW1, (Below.alloc (Below.refl (w.alloc (.cells #[.string frm, .string tto, .int .i64 num, .slice A ps.length C] 27)).heap.size (w.alloc (.cells #[.string frm, .string tto, .int .i64 num, .slice A ps.length C] 27))) (Nat.le_refl _) (.cells #[.string ⟨#[]⟩, .string ⟨#[]⟩, .int .i64 0, .slice none 0 0] 44)).block w.heap.size (by simp)]
    exact World.alloc_heap_new w _
  have hy0 : W1.heap[w.heap.size + 1]? = some (.cells #[.string ⟨#[]⟩, .string ⟨#[]⟩, .int .i64 0, .slice none 0 0] 44) := by
    rw [← hW1]
    have := World.alloc_heap_new (w.alloc (.cells #[.string frm, .string tto, .int .i64 num, .slice A ps.length C] 27)) (.cells #[.string ⟨#[]⟩, .string ⟨#[]⟩, .int .i64 0, .slice none 0 0] 44)
    simpa using this
  have HW1 : Hid ((w.alloc (.cells #[.string frm, .string tto, .int .i64 num, .slice A ps.length C] 27)).alloc (.cells #[.string ⟨#[]⟩, .string ⟨#[]⟩, .int .i64 0, .slice none 0 0] 44) = W1 ∧ W1.heap.size = w.heap.size + 2) := ⟨hW1, hs1⟩
  have HP : Hid (∀ W, Below W1.heap.size W1 W → W.heap[w.heap.size]? = some (.cells #[.string frm, .string tto, .int .i64 num, .slice A ps.length C] 27) ∧ W.heap[w.heap.size + 1]? = some (.cells #[.string ⟨#[]⟩, .string ⟨#[]⟩, .int .i64 0, .slice none 0 0] 44)) := fun W hW => ⟨(hW.block _ (Array.getElem?_eq_some_iff.1 hx0).1).trans hx0, (hW.block _ (Array.getElem?_eq_some_iff.1 hy0).1).trans hy0⟩
  dsimp only at hI ⊢
  have H0 : Hid (PclR w (.slice A ps.length C) ⟨frm, tto, num, ps⟩ ∧ (∀ q ∈ ps, PapI q) ∧ BdPc 1048576 ⟨frm, tto, num, ps⟩ ∧ Below w.heap.size w W1 ∧ True) := ⟨h, hI, hB, hb1, trivial⟩
  have QR := parcelRight_spec ⟨frm, tto, num, ps⟩ (.slice A ps.length C) W1 (H0.out.1.below H0.out.2.2.2.1) H0.out.2.1 H0.out.2.2.1
  obtain ⟨y, hy⟩ : ∃ y, y = pclB ⟨frm, tto, num, ps⟩ := ⟨_, rfl⟩
  have HY : Hid (y = pclB ⟨frm, tto, num, ps⟩) := hy
  rw [← hy] at QR
  dsimp only at QR
  obtain ⟨_, x0, x1, x2, x3⟩ := ix4 hx0
  clear h hI hB hb1 hps hW1 hx0 hy0 hs1 hy
  go_enter Tryz.func18, Tryz.ntmps18
  go_upto_region 1 with fail
  try rw [HW1.out.1]
  go_wp2_with fail
  refine QR.mono ?_
  rintro e w1 ⟨rfl, hr1⟩
  have H1 : Hid (Below w.heap.size w w1) := H0.out.2.2.2.1.trans (hr1.mono H0.out.2.2.2.1.size)
  have K1 : Hid (Below W1.heap.size W1 w1) := hr1
  clear hr1 QR x0 x1 x2 x3
  cases y with
  | false =>
    have HF : Hid (ixT ⟨frm, tto, num, ps⟩ = ⟨⟨#[]⟩, ⟨#[]⟩, 0, []⟩) := by show _ = _; unfold ixT; rw [← HY.out]; rfl
    obtain ⟨_, y0, y1, y2, y3⟩ := ix4 (HP.out w1 K1.out).2
    go_wp2
    obtain ⟨W3, hW3⟩ : ∃ W3, ((((w1.setCell ⟨w.heap.size + 1, 0, none⟩ (.string ⟨#[]⟩)).setCell ⟨w.heap.size + 1, 1, none⟩ (.string ⟨#[]⟩)).setCell ⟨w.heap.size + 1, 2, none⟩ (.int .i64 0)).setCell ⟨w.heap.size + 1, 3, none⟩ (.slice none 0 0)) = W3 := ⟨_, rfl⟩
    rw [hW3]
    have hz : W3.heap[w.heap.size + 1]? = some (.cells #[.string ⟨#[]⟩, .string ⟨#[]⟩, .int .i64 0, .slice none 0 0] 44) := by rw [← hW3]; exact ix_set4 _ _ _ _ (HP.out w1 K1.out).2
    have hbz : Below w.heap.size w W3 := by rw [← hW3]; exact (((H1.out.setCell (Nat.le_succ _) _).setCell (Nat.le_succ _) _).setCell (Nat.le_succ _) _).setCell (Nat.le_succ _) _
    clear hW3 y0 y1 y2 y3
    obtain ⟨_, y0, y1, y2, y3⟩ := ix4 hz
    refine bodyPost_ret (v := .agg #[.string ⟨#[]⟩, .string ⟨#[]⟩, .int .i64 0, .slice none 0 0]) (by simp [results, Tryz.results18, go_sem, y0, y1, y2, y3]) rfl ?_
    exact ⟨.slice none 0 0, [], by rw [HF.out], OwnBs.nil _ _, by rw [HF.out]; rfl, hbz⟩
  | true =>
    have hall : ∀ q ∈ ps, papB q = true := pclB_all HY.out.symm
    have HF : Hid (ixT ⟨frm, tto, num, ps⟩ = ixP ⟨frm, tto, num, ps⟩) := by show _ = _; unfold ixT; rw [← HY.out]; rfl
    have QX := l06Ix_any ⟨frm, tto, num, ps⟩ (.slice A ps.length C) w1 (H0.out.1.below H1.out) hall H0.out.2.1 H0.out.2.2.1
    dsimp only at QX
    obtain ⟨_, x0, x1, x2, x3⟩ := ix4 (HP.out w1 K1.out).1
    clear hall
    go_wp2_with fail
    refine QX.mono ?_
    rintro e w2 ⟨u, bs, rfl, hO, hbs, hb2⟩
    obtain ⟨Au, nu, Cu, rfl⟩ : ∃ Au nu Cu, u = .slice Au nu Cu := by obtain ⟨A', C', e⟩ := own_formX hO.row; exact ⟨A', _, C', e⟩
    have K2 : Hid (Below W1.heap.size W1 w2) := K1.out.trans (hb2.mono K1.out.size)
    have H2 : Hid (OwnBs w1.heap.size w2 (.slice Au nu Cu) bs ∧ bs.map (·.1) = bunsP ps ∧ Below w.heap.size w w2 ∧ w.heap.size + 2 ≤ w1.heap.size) := ⟨hO, hbs, H1.out.trans (hb2.mono H1.out.size), by have := K1.out.size; have := HW1.out.2; omega⟩
    clear hO hbs hb2 QX x0 x1 x2 x3
    obtain ⟨_, y0, y1, y2, y3⟩ := ix4 (HP.out w2 K2.out).2
    go_wp2
    obtain ⟨W3, hW3⟩ : ∃ W3, ((((w2.setCell ⟨w.heap.size + 1, 0, none⟩ (.string frm)).setCell ⟨w.heap.size + 1, 1, none⟩ (.string tto)).setCell ⟨w.heap.size + 1, 2, none⟩ (.int .i64 num)).setCell ⟨w.heap.size + 1, 3, none⟩ (.slice Au nu Cu)) = W3 := ⟨_, rfl⟩
    rw [hW3]
    have hz : W3.heap[w.heap.size + 1]? = some (.cells #[.string frm, .string tto, .int .i64 num, .slice Au nu Cu] 44) := by rw [← hW3]; exact ix_set4 _ _ _ _ (HP.out w2 K2.out).2
    have hbz : Below w.heap.size w W3 := by rw [← hW3]; exact (((H2.out.2.2.1.setCell (Nat.le_succ _) _).setCell (Nat.le_succ _) _).setCell (Nat.le_succ _) _).setCell (Nat.le_succ _) _
    have hlt : w.heap.size + 1 < w1.heap.size := by have := H2.out.2.2.2; omega
    have hle : w.heap.size ≤ w1.heap.size := by omega
    have hO3 : OwnBs w.heap.size W3 (.slice Au nu Cu) bs := by rw [← hW3]; exact ((((H2.out.1.setX hlt _ _).setX hlt _ _).setX hlt _ _).setX hlt _ _).monoX hle
    have H3 : Hid (OwnBs w.heap.size W3 (.slice Au nu Cu) bs ∧ Below w.heap.size w W3) := ⟨hO3, hbz⟩
    clear hW3 y0 y1 y2 y3 hO3 hbz hlt hle
    obtain ⟨_, y0, y1, y2, y3⟩ := ix4 hz
    refine bodyPost_ret (v := .agg #[.string frm, .string tto, .int .i64 num, .slice Au nu Cu]) (by simp [results, Tryz.results18, go_sem, y0, y1, y2, y3]) rfl ?_
    exact ⟨.slice Au nu Cu, bs, by rw [HF.out]; rfl, H3.out.1, by rw [HF.out]; exact H2.out.2.1, H3.out.2⟩
end Go.Proofs.YtkaolpnbddjdpaaGreatDoor
namespace Go.Proofs.YtkaolpnbddjdpaaGreatDoor
open Go.ChangeShapes Go.WideShapes Go.ChangeAt Go.RowKit
/-- What is owned reads as an interchange within bounds. -/
theorem OwnBs.riT {N : Nat} {W : World} {v : Value} {bs : List BunV} {p : Pcl} (h : OwnBs N W v bs) (hb : bs.map (·.1) = (ixT p).buns) (hB : BdPc 1048576 p) : RI W v (ixT p) ∧ BdI 1048576 (ixT p) := by
  unfold ixT at hb ⊢
  cases g : pclB p
  · rw [g] at hb
    have hn : bs = [] := by simpa using hb
    subst hn
    have := h.rowB (fun x hx => by cases hx) (by simp) (fun x hx => by cases hx)
    exact ⟨⟨this, by simp [ByteArray.size], by simp [ByteArray.size]⟩, by simp [ByteArray.size], by simp [ByteArray.size], by simp, fun i r hi => by simp at hi⟩
  · rw [g] at hb
    exact h.ri hb (pclB_all g) hB
end Go.Proofs.YtkaolpnbddjdpaaGreatDoor
namespace Go.Proofs.YtkaolpnbddjdpaaGreatDoor
open Go.ChangeShapes Go.WideShapes Go.ChangeAt Go.RowKit
/-- What is none of the list's own blocks lies as it lay. -/
def KeepO (v : Value) (ps : List (Value × List Value)) (w w' : World) : Prop := ∀ k, k < w.heap.size → v.ownBlock ≠ some k → (∀ p ∈ ps, ∀ x ∈ p.1 :: p.2, x.ownBlock ≠ some k) → w'.heap[k]? = w.heap[k]?
/-- What stands when m segments are marked. -/
structure MIz (n₀ k0 b m : Nat) (w W : World) (ps : List (Value × List Value)) (gs : List Seg) : Prop where
  tags : ∀ (i : Nat) (p : Value × List Value), ps[i]? = some p → (∃ t, W.cell? ⟨b, i * 2, none⟩ = some (.string t)) ∧ W.cell? ⟨b, i * 2 + 1, none⟩ = some p.1
  fz : 0 < gs.length → ∀ o, W.frozen? ⟨b, o, none⟩ = false
  done : ∀ (i : Nat) (p : Value × List Value) (g : Seg), ps[i]? = some p → gs[i]? = some g → i < m → W.cell? ⟨b, i * 2, none⟩ = some (.string (mt (k0 + offL gs i))) ∧ MkE (k0 + offL gs i + 1) W p.1 p.2 g.2
  todo : ∀ (i : Nat) (p : Value × List Value) (g : Seg), ps[i]? = some p → gs[i]? = some g → m ≤ i → OwnV n₀ W p.1 p.2 g.2
  bel : Below n₀ w W
  keep : ∀ k, k < w.heap.size → k ≠ b → (∀ p ∈ ps, ∀ x ∈ p.1 :: p.2, x.ownBlock ≠ some k) → W.heap[k]? = w.heap[k]?
theorem MIz.below {n₀ k0 b m : Nat} {w W W' : World} {ps : List (Value × List Value)} {gs : List Seg} (h : MIz n₀ k0 b m w W ps gs) (hn : n₀ ≤ w.heap.size) (hb : Below W.heap.size W W') (hbl : 0 < gs.length → b < W.heap.size) : MIz n₀ k0 b m w W' ps gs :=
  ⟨fun i p hp => ⟨(h.tags i p hp).1.imp fun _ ht => (hb.cell (p := ⟨b, i * 2, none⟩) (cell_lt ht)).trans ht, (hb.cell (p := ⟨b, i * 2 + 1, none⟩) (cell_lt (h.tags i p hp).2)).trans (h.tags i p hp).2⟩,
    fun h0 o => (hb.frozen (p := ⟨b, o, none⟩) (hbl h0)).trans (h.fz h0 o),
    fun i p g hp hg hi => ⟨(hb.cell (p := ⟨b, i * 2, none⟩) (cell_lt (h.done i p g hp hg hi).1)).trans (h.done i p g hp hg hi).1, (h.done i p g hp hg hi).2.below hb⟩,
    fun i p g hp hg hi => (h.todo i p g hp hg hi).below hb, h.bel.trans (hb.mono (Nat.le_trans hn h.bel.size)), fun k hk h1 h2 => (hb.block k (Nat.lt_of_lt_of_le hk h.bel.size)).trans (h.keep k hk h1 h2)⟩
theorem MIz.tag {n₀ k0 b m : Nat} {w W : World} {ps : List (Value × List Value)} {gs : List Seg} (h : MIz n₀ k0 b m w W ps gs) (hb : n₀ ≤ b) (hty : ∃ c, w.heap[b]? = some (.cells c 90 (0, 0)))
    (hO : ∀ (i : Nat) (p : Value × List Value) (g : Seg), ps[i]? = some p → gs[i]? = some g → OwnV n₀ w p.1 p.2 g.2) (p : Value × List Value) (hp : ps[m]? = some p) (t : ByteArray) :
    MIz n₀ k0 b m w (W.setCell ⟨b, m * 2, none⟩ (.string t)) ps gs ∧ (W.setCell ⟨b, m * 2, none⟩ (.string t)).cell? ⟨b, m * 2, none⟩ = some (.string t) := by
  obtain ⟨c0, hc0⟩ := hty
  have hne : ∀ (i : Nat) (p : Value × List Value) (g : Seg), ps[i]? = some p → gs[i]? = some g → ∀ x ∈ p.1 :: p.2, x.ownBlock ≠ some b := fun i p g hp hg x hx e => by
    have hOv := hO i p g hp hg
    rcases List.mem_cons.1 hx with rfl | hx
    · obtain ⟨_, _, c, h2⟩ := row_at hOv.row e
      rw [hc0] at h2
      simp at h2
    · obtain ⟨j, hj⟩ := List.getElem?_of_mem hx
      have hlt := (List.getElem?_eq_some_iff.1 hj).1
      rw [hOv.len] at hlt
      obtain ⟨_, _, c, h2⟩ := row_at (hOv.parts j x _ hj (List.getElem?_eq_getElem hlt)).1 e
      rw [hc0] at h2
      simp at h2
  have hsame : (W.setCell ⟨b, m * 2, none⟩ (.string t)).cell? ⟨b, m * 2, none⟩ = some (.string t) := World.cell?_setCell_same' _ _ _ (by obtain ⟨t0, ht0⟩ := (h.tags m p hp).1; rw [ht0]; rfl)
  refine ⟨⟨fun i q hq => ⟨?_, ?_⟩, fun h0 o => by rw [World.frozen?_setCell]; exact h.fz h0 o, fun i q g hq hg hi => ⟨?_, ?_⟩, fun i q g hq hg hi => ?_, h.bel.setCell hb _, fun k hk h1 h2 => (Below.heap_setCell W ⟨b, m * 2, none⟩ _ k (show k ≠ b from h1)).trans (h.keep k hk h1 h2)⟩, hsame⟩
  · by_cases e : i = m
    · subst e
      exact ⟨t, hsame⟩
    · rw [World.cell?_setCell_other _ _ _ _ (by simp <;> omega)]
      exact (h.tags i q hq).1
  · rw [World.cell?_setCell_other _ _ _ _ (by simp <;> omega)]
    exact (h.tags i q hq).2
  · rw [World.cell?_setCell_other _ _ _ _ (by simp <;> omega)]
    exact (h.done i q g hq hg hi).1
  · exact (h.done i q g hq hg hi).2.same fun x hx k hk => Below.heap_setCell W ⟨b, m * 2, none⟩ _ k (show k ≠ b from fun e => hne i q g hq hg x hx (by rw [hk, e]))
  · have hOv := h.todo i q g hq hg hi
    refine ⟨hOv.len, row_same hOv.row fun k hk => Below.heap_setCell W ⟨b, m * 2, none⟩ _ k (show k ≠ b from fun e => hne i q g hq hg q.1 (by simp) (by rw [hk, e])), fun j u y hu hy => ⟨row_same (hOv.parts j u y hu hy).1 fun k hk => Below.heap_setCell W ⟨b, m * 2, none⟩ _ k (show k ≠ b from fun e => hne i q g hq hg u (by simp [List.mem_of_getElem? hu]) (by rw [hk, e])), (hOv.parts j u y hu hy).2⟩, hOv.apart⟩
theorem MIz.next {n₀ k0 b m : Nat} {w W W' : World} {ps : List (Value × List Value)} {gs : List Seg} (h : MIz n₀ k0 b m w W ps gs) (hty : ∃ c, w.heap[b]? = some (.cells c 90 (0, 0))) (hbl : b < W.heap.size)
    (hO : ∀ (i : Nat) (p : Value × List Value) (g : Seg), ps[i]? = some p → gs[i]? = some g → OwnV n₀ w p.1 p.2 g.2) (hsep : ∀ (i j : Nat) (p q : Value × List Value), i < j → ps[i]? = some p → ps[j]? = some q → ∀ x ∈ p.1 :: p.2, ∀ y ∈ q.1 :: q.2, ∀ b, x.ownBlock = some b → y.ownBlock ≠ some b)
    (p : Value × List Value) (g : Seg) (hp : ps[m]? = some p) (hg : gs[m]? = some g) (htag : W.cell? ⟨b, m * 2, none⟩ = some (.string (mt (k0 + offL gs m)))) (hm : MkE (k0 + offL gs m + 1) W' p.1 p.2 g.2) (hb : Below n₀ W W') (hk : KeepV p.2 W W') : MIz n₀ k0 b (m + 1) w W' ps gs := by
  obtain ⟨c0, hc0⟩ := hty
  have hvals : ∀ x ∈ p.2, ∀ k, x.ownBlock = some k → ∃ c, w.heap[k]? = some (.cells c 9 (0, 0)) := fun x hx k e => by
    have hOv := hO m p g hp hg
    obtain ⟨j, hj⟩ := List.getElem?_of_mem hx
    have hlt := (List.getElem?_eq_some_iff.1 hj).1
    rw [hOv.len] at hlt
    obtain ⟨_, _, c, h2⟩ := row_at (hOv.parts j x _ hj (List.getElem?_eq_getElem hlt)).1 e
    exact ⟨c, h2⟩
  have hB : W'.heap[b]? = W.heap[b]? := hk b hbl fun x hx e => by
    obtain ⟨c, hc⟩ := hvals x hx b e
    rw [hc0] at hc
    simp at hc
  have hcell : ∀ o, W'.cell? ⟨b, o, none⟩ = W.cell? ⟨b, o, none⟩ := fun o => World.cell?_of_block (w := W) hB
  have hoth : ∀ (i : Nat) (q : Value × List Value), i ≠ m → ps[i]? = some q → ∀ x ∈ q.1 :: q.2, ∀ k, x.ownBlock = some k → k < W.heap.size → W'.heap[k]? = W.heap[k]? := fun i q hi hq x hx k e hkl => hk k hkl fun y hy e2 => by
    rcases Nat.lt_or_ge i m with h1 | h1
    · exact hsep i m q p h1 hq hp x hx y (List.mem_cons_of_mem _ hy) k e e2
    · exact hsep m i p q (by omega) hp hq y (List.mem_cons_of_mem _ hy) x hx k e2 e
  refine ⟨fun i q hq => ⟨(h.tags i q hq).1.imp fun _ ht => (hcell _).trans ht, (hcell _).trans (h.tags i q hq).2⟩, fun h0 o => (World.frozen?_of_block (w := W) hB).trans (h.fz h0 o), fun i q y hq hy hi => ?_, fun i q y hq hy hi => ?_, h.bel.trans hb, fun k hk' h1 h2 => (hk k (Nat.lt_of_lt_of_le hk' h.bel.size) fun x hx e => ?_).trans (h.keep k hk' h1 h2)⟩
  · by_cases e : i = m
    · subst e
      rw [hp] at hq
      rw [hg] at hy
      cases hq
      cases hy
      exact ⟨(hcell _).trans htag, hm⟩
    · have hd := h.done i q y hq hy (by omega)
      refine ⟨(hcell _).trans hd.1, hd.2.same fun x hx k hk' => hoth i q e hq x hx k hk' ?_⟩
      have := (hO i q y hq hy).base x hx k hk'
      exact Nat.lt_of_lt_of_le this.2 h.bel.size
  · have ht := h.todo i q y hq hy (by omega)
    refine ⟨ht.len, row_same ht.row fun k hk' => hoth i q (by omega) hq q.1 (by simp) k hk' (row_at ht.row hk').2.1, fun j u z hu hz => ⟨row_same (ht.parts j u z hu hz).1 fun k hk' => hoth i q (by omega) hq u (by simp [List.mem_of_getElem? hu]) k hk' (row_at (ht.parts j u z hu hz).1 hk').2.1, (ht.parts j u z hu hz).2⟩, ht.apart⟩
  · exact h2 p (List.mem_of_getElem? hp) x (List.mem_cons_of_mem _ hx) e
set_option maxRecDepth 20000 in
set_option maxHeartbeats 2000000 in
theorem markZ_any (v : Value) (ps : List (Value × List Value)) (gs : List Seg) (n₀ k0 : Nat) (w : World) (h : OwnL n₀ w v ps gs) (hX : BdLg gs) (hl : gs.length ≤ 2400) (hn : n₀ ≤ w.heap.size) (hk0 : 0 < k0) (hk1 : k0 + 41 * gs.length ≤ 99900) :
    Calls Tryz.prog 134 #[v, .int .i64 k0] w fun e w' => e = .returned (.int .i64 ((k0 + offL gs gs.length : Nat) : Int)) ∧ MkL k0 w' v ps gs ∧ Below n₀ w w' ∧ KeepO v ps w w' := by
  have HO : Hid (OwnL n₀ w v ps gs ∧ BdLg gs) := ⟨h, hX⟩
  obtain ⟨A, C, rfl⟩ := h.slice
  obtain ⟨b, hA, hbn, hbt, hbv⟩ : ∃ b, (0 < gs.length → A = some ⟨b, 0, none⟩) ∧ (0 < gs.length → n₀ ≤ b ∧ b < w.heap.size) ∧ (0 < gs.length → ∃ c, w.heap[b]? = some (.cells c 90 (0, 0))) ∧ ∀ k, k < w.heap.size → (Value.slice A gs.length C).ownBlock ≠ some k → k ≠ b := by
    rcases h.row.2 with ⟨_, h0⟩ | ⟨g, cap, cur, e, hb, hgb, _⟩
    · exact ⟨w.heap.size, fun h => by omega, fun h => by omega, fun h => by omega, fun k hk _ => by omega⟩
    · simp at e
      exact ⟨g, fun _ => e.1, fun _ => ⟨hb, (Array.getElem?_eq_some_iff.1 hgb).1⟩, fun _ => ⟨_, hgb⟩, fun k _ hv e2 => hv (by rw [e2, e.1]; rfl)⟩
  have hI0 : MIz n₀ k0 b 0 w w ps gs := by
    refine ⟨fun i p hp => ?_, fun h0 o => ?_, fun i p g _ _ hi => by omega, fun i p g hp hg _ => h.segs i p g hp hg, Below.refl _ _, fun _ _ _ _ => rfl⟩
    · have hi : i < gs.length := by rw [← h.len]; exact (List.getElem?_eq_some_iff.1 hp).1
      obtain ⟨k1, k2⟩ := cellsL_get (List.getElem?_eq_getElem hi) hp
      have e := hA (by omega)
      subst e
      have a1 := h.row.cells (g := b) rfl (i * 2) _ k1
      have a2 := h.row.cells (g := b) rfl (i * 2 + 1) _ k2
      rw [addr0] at a1 a2
      exact ⟨⟨_, a1⟩, a2⟩
    · obtain ⟨c, hc⟩ := hbt h0
      simp [World.frozen?, hc]
  have HI0 : Hid (MIz n₀ k0 b 0 w w ps gs) := hI0
  have HB : Hid ((0 < gs.length → A = some ⟨b, 0, none⟩) ∧ (0 < gs.length → n₀ ≤ b ∧ b < w.heap.size) ∧ (0 < gs.length → ∃ c, w.heap[b]? = some (.cells c 90 (0, 0))) ∧ ∀ k, k < w.heap.size → (Value.slice A gs.length C).ownBlock ≠ some k → k ≠ b) := ⟨hA, hbn, hbt, hbv⟩
  clear h hX hI0 hA hbn hbt hbv
  go_enter Tryz.func134, Tryz.ntmps134
  go_wp2
  go_loopw [1, 5] (fun kv i wr => ∃ m : Nat, m ≤ gs.length ∧ i = .int .i64 m ∧ kv = .int .i64 ((k0 + offL gs m : Nat) : Int) ∧ MIz n₀ k0 b m w wr ps gs) (fun _ i _ => gs.length - (intOf i).toNat)
  case atStart => exact ⟨0, Nat.zero_le _, rfl, by simp [offL_zero], HI0.out⟩
  case round =>
    obtain ⟨m, hm, rfl, rfl, hI⟩ := hrel
    have hof := offL_le HO.out.2 m hm
    clear HI0
    by_cases hlt : m < gs.length
    · have hlt' : (m : Int) < (gs.length : Int) := by omega
      obtain ⟨g, hg⟩ : ∃ g, gs[m]? = some g := ⟨_, List.getElem?_eq_getElem hlt⟩
      obtain ⟨p, hp⟩ : ∃ p, ps[m]? = some p := ⟨_, List.getElem?_eq_getElem (by rw [HO.out.1.len]; exact hlt)⟩
      have hgX := HO.out.2 g (List.mem_of_getElem? hg)
      have hA := HB.out.1 (by omega)
      subst hA
      obtain ⟨hbn, hbw⟩ := HB.out.2.1 (by omega)
      have HI : Hid (MIz n₀ k0 b m w wr ps gs ∧ gs[m]? = some g ∧ ps[m]? = some p) := ⟨hI, hg, hp⟩
      have hwr := hI.bel.size
      clear hI hg hp
      go_wp2_with fail
      refine (markText_any (k0 + offL gs m) _ (by omega) (by omega)).mono ?_
      rintro e w2 ⟨rfl, hb2⟩
      have hI2 := HI.out.1.below hn hb2 (fun _ => by omega)
      have hw2 := hb2.size
      obtain ⟨⟨t0, ct⟩, cu⟩ := hI2.tags m p HI.out.2.2
      have zt := hI2.fz (by omega)
      obtain ⟨hI3, ct3⟩ := hI2.tag hbn (HB.out.2.2.1 (by omega)) HO.out.1.segs p HI.out.2.2 (mt (k0 + offL gs m))
      have cu3 := (hI3.tags m p HI.out.2.2).2
      have hOv := hI3.todo m p g HI.out.2.2 HI.out.2.1 (Nat.le_refl _)
      obtain ⟨Av, Cv, hv, _⟩ := hOv.slice
      have HI3 : Hid (MIz n₀ k0 b m w (w2.setCell ⟨b, m * 2, none⟩ (.string (mt (k0 + offL gs m)))) ps gs ∧ (w2.setCell ⟨b, m * 2, none⟩ (.string (mt (k0 + offL gs m)))).cell? ⟨b, m * 2, none⟩ = some (.string (mt (k0 + offL gs m))) ∧ OwnV n₀ (w2.setCell ⟨b, m * 2, none⟩ (.string (mt (k0 + offL gs m)))) p.1 p.2 g.2) := ⟨hI3, ct3, hOv⟩
      rw [hv] at cu cu3
      have HV : Hid (p.1 = .slice Av g.2.length Cv) := hv
      clear hI2 hI3 ct3 hOv hb2 hv
      go_wp2_with fail
      rw [← HV.out]
      refine (markV_any p.1 p.2 g.2 n₀ (k0 + offL gs m + 1) _ HI3.out.2.2 hgX.1 hgX.2.1 (by simp; omega) (by omega) (by omega)).mono ?_
      rintro e w4 ⟨rfl, hm4, hb4, hk4⟩
      have HN : Hid (MIz n₀ k0 b (m + 1) w w4 ps gs ∧ offL gs (m + 1) = offL gs m + 1 + offE g.2 g.2.length) := ⟨HI3.out.1.next (HB.out.2.2.1 (by omega)) (by simp; omega) HO.out.1.segs HO.out.1.sep p g HI.out.2.2 HI.out.2.1 HI3.out.2.1 hm4 hb4 hk4, offL_succ HI.out.2.1⟩
      clear hm4 hb4 hk4 HI HI3
      go_wp2
      go_roundw
      case rel => exact ⟨m + 1, by omega, by go_num, by rw [HN.out.2]; congr 1; omega, HN.out.1⟩
      case measure => simp [intOf]; omega
    · have hge : (gs.length : Int) ≤ (m : Int) := by omega
      obtain rfl : m = gs.length := by omega
      have HI : Hid (MIz n₀ k0 b gs.length w wr ps gs) := hI
      clear hI
      go_wp2
      go_ret
      refine ⟨rfl, ⟨HO.out.1.len, ⟨A, C, rfl, fun h0 => ⟨b, HB.out.1 h0, fun i p hp => ?_⟩⟩, fun i p g hp hg => (HI.out.done i p g hp hg (List.getElem?_eq_some_iff.1 hg).1).2⟩, HI.out.bel, fun k hk h1 h2 => HI.out.keep k hk (HB.out.2.2.2 k hk h1) h2⟩
      have hi : i < gs.length := by rw [← HO.out.1.len]; exact (List.getElem?_eq_some_iff.1 hp).1
      exact ⟨(HI.out.done i p _ hp (List.getElem?_eq_getElem hi) hi).1, (HI.out.tags i p hp).2⟩
set_option maxRecDepth 20000 in
set_option maxHeartbeats 2000000 in
theorem heldZ_any (v : Value) (ps : List (Value × List Value)) (gs : List Seg) (k0 : Nat) (w : World) (h : MkL k0 w v ps gs) (hX : BdLg gs) (hl : gs.length ≤ 2400) (hk0 : 0 < k0) (hk1 : k0 + 41 * gs.length ≤ 99900) :
    Calls Tryz.prog 135 #[v, .int .i64 k0] w fun e w' => e = .returned (.int .i64 ((k0 + offL gs gs.length : Nat) : Int)) ∧ Below w.heap.size w w' := by
  have HO : Hid (MkL k0 w v ps gs ∧ BdLg gs) := ⟨h, hX⟩
  obtain ⟨A, C, rfl, _⟩ := h.at_
  clear h hX
  go_enter Tryz.func135, Tryz.ntmps135
  go_wp2
  go_loopw [1, 5] (fun kv i wr => ∃ m : Nat, m ≤ gs.length ∧ i = .int .i64 m ∧ kv = .int .i64 ((k0 + offL gs m : Nat) : Int) ∧ Below w.heap.size w wr) (fun _ i _ => gs.length - (intOf i).toNat)
  case atStart => exact ⟨0, Nat.zero_le _, rfl, by simp [offL_zero], Below.refl _ _⟩
  case round =>
    obtain ⟨m, hm, rfl, rfl, hb⟩ := hrel
    have hof := offL_le HO.out.2 m hm
    by_cases hlt : m < gs.length
    · have hlt' : (m : Int) < (gs.length : Int) := by omega
      have hK := HO.out.1.below hb
      obtain ⟨g, hg⟩ : ∃ g, gs[m]? = some g := ⟨_, List.getElem?_eq_getElem hlt⟩
      obtain ⟨p, hp⟩ : ∃ p, ps[m]? = some p := ⟨_, List.getElem?_eq_getElem (by rw [HO.out.1.len]; exact hlt)⟩
      have hgX := HO.out.2 g (List.mem_of_getElem? hg)
      obtain ⟨A', C', hv, hA⟩ := hK.at_
      obtain ⟨b, hA', hc'⟩ := hA (by omega)
      simp at hv
      obtain ⟨rfl, rfl⟩ := hv
      subst hA'
      obtain ⟨ct, cu⟩ := hc' m p hp
      have hbl := cell_lt ct
      have hmk := hK.segs m p g hp hg
      obtain ⟨Av, Cv, hv, _⟩ := hmk.at_
      rw [hv] at cu
      have HS : Hid (MkE (k0 + offL gs m + 1) wr p.1 p.2 g.2 ∧ Below w.heap.size w wr ∧ offL gs (m + 1) = offL gs m + 1 + offE g.2 g.2.length ∧ p.1 = .slice Av g.2.length Cv) := ⟨hmk, hb, offL_succ hg, hv⟩
      clear hK hmk hb hg hp hA hc' hv
      go_wp2_with fail
      go_region_held3 (fun W => W.cell? ⟨b, m * 2, none⟩ = some (.string (mt (k0 + offL gs m)))) (go_keep) (first | (go_at_call 88; refine (markText_any (k0 + offL gs m) _ (by omega) (by omega)).mono ?_; rintro e w3 ⟨rfl, hb3⟩; have ku3 := (hb3.cell (p := ⟨b, m * 2, none⟩) hbl).trans (show wr.drew.cell? ⟨b, m * 2, none⟩ = _ from ct)))
      have hb3' : Below wr.heap.size wr w3 := (Below.refl _ _).drew.trans hb3
      have cu3 : w3.cell? ⟨b, m * 2 + 1, none⟩ = some (.slice Av g.2.length Cv) := (hb3'.cell (p := ⟨b, m * 2 + 1, none⟩) hbl).trans cu
      have HT : Hid (MkE (k0 + offL gs m + 1) w3 p.1 p.2 g.2 ∧ Below w.heap.size w w3) := ⟨HS.out.1.below hb3', HS.out.2.1.trans (hb3'.mono HS.out.2.1.size)⟩
      clear hb3 hb3'
      go_wp2_with fail
      rw [← HS.out.2.2.2]
      refine (heldE_any p.1 p.2 g.2 (k0 + offL gs m + 1) _ HT.out.1 hgX.1 hgX.2.1 (by omega) (by omega)).mono ?_
      rintro e1 w4 ⟨rfl, hb4⟩
      have HN : Hid (Below w.heap.size w w4 ∧ offL gs (m + 1) = offL gs m + 1 + offE g.2 g.2.length) := ⟨HT.out.2.trans (hb4.mono HT.out.2.size), HS.out.2.2.1⟩
      clear HS HT hb4
      go_wp2
      go_roundw
      case rel => exact ⟨m + 1, by omega, by go_num, by rw [HN.out.2]; congr 1; omega, HN.out.1⟩
      case measure => simp [intOf]; omega
    · have hge : (gs.length : Int) ≤ (m : Int) := by omega
      obtain rfl : m = gs.length := by omega
      have HB : Hid (Below w.heap.size w wr) := hb
      clear hb
      go_wp2
      go_ret
      exact ⟨rfl, HB.out⟩
end Go.Proofs.YtkaolpnbddjdpaaGreatDoor
namespace Go.Proofs.YtkaolpnbddjdpaaGreatDoor
open Go.ChangeShapes Go.WideShapes Go.ChangeAt Go.RowKit
/-- How many marks a list takes ahead of a place. -/
def offR {X : Type} (c : X → Nat) (xs : List X) (i : Nat) : Nat := ((xs.take i).map c).sum
theorem offR_zero {X : Type} (c : X → Nat) (xs : List X) : offR c xs 0 = 0 := by simp [offR]
theorem offR_succ {X : Type} {c : X → Nat} {xs : List X} {i : Nat} {x : X} (h : xs[i]? = some x) : offR c xs (i + 1) = offR c xs i + c x := by
  unfold offR
  rw [List.take_add_one, h]
  simp
theorem offR_le {X : Type} {c : X → Nat} {xs : List X} {n : Nat} (h : ∀ x ∈ xs, c x ≤ n) : ∀ i, i ≤ xs.length → offR c xs i ≤ n * i := by
  intro i
  induction i with
  | zero => intro _; simp [offR]
  | succ i ih =>
    intro hi
    have hlt : i < xs.length := by omega
    rw [offR_succ (List.getElem?_eq_getElem hlt), Nat.mul_succ]
    have := ih (by omega)
    have := h xs[i] (List.getElem_mem hlt)
    omega
theorem place_ne {q i m j k : Nat} (hi : i ≠ m) (hj : j < q + 1) (hk : k < q + 1) : i * (q + 1) + j ≠ m * (q + 1) + k := by
  rcases Nat.lt_or_gt_of_ne hi with h | h
  · have := Nat.mul_le_mul_right (q + 1) (show i + 1 ≤ m from h)
    rw [Nat.succ_mul] at this
    omega
  · have := Nat.mul_le_mul_right (q + 1) (show m + 1 ≤ i from h)
    rw [Nat.succ_mul] at this
    omega
section
variable {X : Type}
/-- What stands when m places are marked: q numbers and a value each. -/
structure MJ (bl : X → Nat → Prop) (own : World → X → Prop) (mk : Nat → World → X → Prop) (vl : X → Value) (q : Nat) (off : Nat → Nat) (N k0 b m : Nat) (w W : World) (xs : List X) : Prop where
  nums : ∀ (i : Nat) (x : X), xs[i]? = some x → (∀ j, j < q → ∃ z, W.cell? ⟨b, i * (q + 1) + j, none⟩ = some (.int .i64 z)) ∧ W.cell? ⟨b, i * (q + 1) + q, none⟩ = some (vl x)
  fz : 0 < xs.length → ∀ o, W.frozen? ⟨b, o, none⟩ = false
  done : ∀ (i : Nat) (x : X), xs[i]? = some x → i < m → (∀ j, j < q → W.cell? ⟨b, i * (q + 1) + j, none⟩ = some (.int .i64 ((k0 + off i + j : Nat) : Int))) ∧ mk (k0 + off i + q) W x
  todo : ∀ (i : Nat) (x : X), xs[i]? = some x → m ≤ i → own W x
  bel : Below N w W
  keep : ∀ k, k < w.heap.size → k ≠ b → (∀ x ∈ xs, ¬ bl x k) → W.heap[k]? = w.heap[k]?
variable {bl : X → Nat → Prop} {own : World → X → Prop} {mk : Nat → World → X → Prop} {vl : X → Value} {q : Nat} {off : Nat → Nat} {N k0 b m : Nat} {w W W' : World} {xs : List X}
theorem MJ.num (h : MJ bl own mk vl q off N k0 b m w W xs) (hb : N ≤ b) (hnb : ∀ x ∈ xs, ¬ bl x b)
    (hown : ∀ (W W' : World) (x : X), own W x → (∀ g, bl x g → W'.heap[g]? = W.heap[g]?) → own W' x) (hmk : ∀ (k : Nat) (W W' : World) (x : X), mk k W x → (∀ g, bl x g → W'.heap[g]? = W.heap[g]?) → mk k W' x)
    {x : X} (hx : xs[m]? = some x) {j : Nat} (hj : j < q) (z : Int) :
    MJ bl own mk vl q off N k0 b m w (W.setCell ⟨b, m * (q + 1) + j, none⟩ (.int .i64 z)) xs ∧ (W.setCell ⟨b, m * (q + 1) + j, none⟩ (.int .i64 z)).cell? ⟨b, m * (q + 1) + j, none⟩ = some (.int .i64 z) := by
  have hsame : (W.setCell ⟨b, m * (q + 1) + j, none⟩ (.int .i64 z)).cell? ⟨b, m * (q + 1) + j, none⟩ = some (.int .i64 z) := World.cell?_setCell_same' _ _ _ (by obtain ⟨z0, h0⟩ := (h.nums m x hx).1 j hj; rw [h0]; rfl)
  have hoth : ∀ o, o ≠ m * (q + 1) + j → (W.setCell ⟨b, m * (q + 1) + j, none⟩ (.int .i64 z)).cell? ⟨b, o, none⟩ = W.cell? ⟨b, o, none⟩ := fun o ho => World.cell?_setCell_other _ _ _ _ (fun e => ho (by cases e; rfl))
  have hblk : ∀ y ∈ xs, ∀ g, bl y g → (W.setCell ⟨b, m * (q + 1) + j, none⟩ (.int .i64 z)).heap[g]? = W.heap[g]? := fun y hy g hg => Below.heap_setCell W ⟨b, m * (q + 1) + j, none⟩ _ g (show g ≠ b from fun e => hnb y hy (e ▸ hg))
  refine ⟨⟨fun i y hy => ⟨fun k hk => ?_, ?_⟩, fun h0 o => by rw [World.frozen?_setCell]; exact h.fz h0 o, fun i y hy hi => ⟨fun k hk => ?_, ?_⟩, fun i y hy hi => hown _ _ _ (h.todo i y hy hi) (hblk y (List.mem_of_getElem? hy)), h.bel.setCell hb _, fun k hk h1 h2 => (Below.heap_setCell W ⟨b, m * (q + 1) + j, none⟩ _ k (show k ≠ b from h1)).trans (h.keep k hk h1 h2)⟩, hsame⟩
  · by_cases e : i * (q + 1) + k = m * (q + 1) + j
    · rw [e]
      exact ⟨z, hsame⟩
    · rw [hoth _ e]
      exact (h.nums i y hy).1 k hk
  · rw [hoth]
    · exact (h.nums i y hy).2
    · by_cases e : i = m
      · subst e; omega
      · exact place_ne e (by omega) (by omega)
  · rw [hoth _ (place_ne (by omega) (by omega) (by omega))]
    exact (h.done i y hy hi).1 k hk
  · exact hmk _ _ _ _ (h.done i y hy hi).2 (hblk y (List.mem_of_getElem? hy))
theorem MJ.next (h : MJ bl own mk vl q off N k0 b m w W xs) (hbl : b < W.heap.size) (hnb : ∀ x ∈ xs, ¬ bl x b)
    (hown : ∀ (W W' : World) (x : X), own W x → (∀ g, bl x g → W'.heap[g]? = W.heap[g]?) → own W' x) (hmk : ∀ (k : Nat) (W W' : World) (x : X), mk k W x → (∀ g, bl x g → W'.heap[g]? = W.heap[g]?) → mk k W' x)
    (hin : ∀ x ∈ xs, ∀ g, bl x g → g < w.heap.size) (hsep : ∀ (i j : Nat) (x y : X), i ≠ j → xs[i]? = some x → xs[j]? = some y → ∀ g, bl x g → ¬ bl y g)
    {x : X} (hx : xs[m]? = some x) (hn : ∀ j, j < q → W.cell? ⟨b, m * (q + 1) + j, none⟩ = some (.int .i64 ((k0 + off m + j : Nat) : Int))) (hm : mk (k0 + off m + q) W' x) (hb : Below N W W')
    (hk : ∀ k, k < W.heap.size → ¬ bl x k → W'.heap[k]? = W.heap[k]?) : MJ bl own mk vl q off N k0 b (m + 1) w W' xs := by
  have hxm := List.mem_of_getElem? hx
  have hB : W'.heap[b]? = W.heap[b]? := hk b hbl (hnb x hxm)
  have hcell : ∀ o, W'.cell? ⟨b, o, none⟩ = W.cell? ⟨b, o, none⟩ := fun o => World.cell?_of_block (w := W) hB
  have hoth : ∀ (i : Nat) (y : X), i ≠ m → xs[i]? = some y → ∀ g, bl y g → W'.heap[g]? = W.heap[g]? := fun i y hi hy g hg => hk g (Nat.lt_of_lt_of_le (hin y (List.mem_of_getElem? hy) g hg) h.bel.size) (hsep i m y x hi hy hx g hg)
  refine ⟨fun i y hy => ⟨fun j hj => ((h.nums i y hy).1 j hj).imp fun _ hz => (hcell _).trans hz, (hcell _).trans (h.nums i y hy).2⟩, fun h0 o => (World.frozen?_of_block (w := W) hB).trans (h.fz h0 o), fun i y hy hi => ?_, fun i y hy hi => hown _ _ _ (h.todo i y hy (by omega)) (hoth i y (by omega) hy), h.bel.trans hb, fun k hk' h1 h2 => (hk k (Nat.lt_of_lt_of_le hk' h.bel.size) (h2 x hxm)).trans (h.keep k hk' h1 h2)⟩
  by_cases e : i = m
  · subst e
    rw [hx] at hy
    cases hy
    exact ⟨fun j hj => (hcell _).trans (hn j hj), hm⟩
  · have hd := h.done i y hy (by omega)
    exact ⟨fun j hj => (hcell _).trans (hd.1 j hj), hmk _ _ _ _ hd.2 (hoth i y e hy)⟩
/-- All places hold the marks from k0 on. -/
structure MkR (mk : Nat → World → X → Prop) (vl : X → Value) (q : Nat) (off : Nat → Nat) (k0 : Nat) (W : World) (v : Value) (xs : List X) : Prop where
  at_ : ∃ A C, v = .slice A xs.length C ∧ (0 < xs.length → ∃ b, A = some ⟨b, 0, none⟩ ∧ ∀ (i : Nat) (x : X), xs[i]? = some x → (∀ j, j < q → W.cell? ⟨b, i * (q + 1) + j, none⟩ = some (.int .i64 ((k0 + off i + j : Nat) : Int))) ∧ W.cell? ⟨b, i * (q + 1) + q, none⟩ = some (vl x))
  its : ∀ (i : Nat) (x : X), xs[i]? = some x → mk (k0 + off i + q) W x
theorem MkR.below {v : Value} (h : MkR mk vl q off k0 W v xs) (hmk : ∀ (k : Nat) (W W' : World) (x : X), mk k W x → Below W.heap.size W W' → mk k W' x) (hb : Below W.heap.size W W') : MkR mk vl q off k0 W' v xs := by
  obtain ⟨A, C, hv, hA⟩ := h.at_
  refine ⟨⟨A, C, hv, fun h0 => ?_⟩, fun i x hx => hmk _ _ _ _ (h.its i x hx) hb⟩
  obtain ⟨b, e, hc⟩ := hA h0
  exact ⟨b, e, fun i x hx => ⟨fun j hj => (hb.cell (p := ⟨b, i * (q + 1) + j, none⟩) (cell_lt ((hc i x hx).1 j hj))).trans ((hc i x hx).1 j hj), (hb.cell (p := ⟨b, i * (q + 1) + q, none⟩) (cell_lt (hc i x hx).2)).trans (hc i x hx).2⟩⟩
theorem MkR.same {v : Value} (h : MkR mk vl q off k0 W v xs) (hmk : ∀ (k : Nat) (W W' : World) (x : X), mk k W x → (∀ g, bl x g → W'.heap[g]? = W.heap[g]?) → mk k W' x) (hs : ∀ g, (v.ownBlock = some g ∨ ∃ x ∈ xs, bl x g) → W'.heap[g]? = W.heap[g]?) : MkR mk vl q off k0 W' v xs := by
  obtain ⟨A, C, hv, hA⟩ := h.at_
  refine ⟨⟨A, C, hv, fun h0 => ?_⟩, fun i x hx => hmk _ _ _ _ (h.its i x hx) fun g hg => hs g (.inr ⟨x, List.mem_of_getElem? hx, hg⟩)⟩
  obtain ⟨b, e, hc⟩ := hA h0
  have hB : W'.heap[b]? = W.heap[b]? := hs b (.inl (by rw [hv, e]; rfl))
  exact ⟨b, e, fun i x hx => ⟨fun j hj => (World.cell?_of_block (w := W) hB).trans ((hc i x hx).1 j hj), (World.cell?_of_block (w := W) hB).trans (hc i x hx).2⟩⟩
end
end Go.Proofs.YtkaolpnbddjdpaaGreatDoor
namespace Go.Proofs.YtkaolpnbddjdpaaGreatDoor
open Go.ChangeShapes Go.WideShapes Go.ChangeAt Go.RowKit
theorem OwnL.sameG {N : Nat} {W W' : World} {v : Value} {ps : List (Value × List Value)} {gs : List Seg} (h : OwnL N W v ps gs) (hs : ∀ g, blkG v ps g → W'.heap[g]? = W.heap[g]?) : OwnL N W' v ps gs :=
  ⟨h.len, row_same h.row fun g hg => hs g (.inl hg), fun i p g hp hg => by
    have hO := h.segs i p g hp hg
    have hm := List.mem_of_getElem? hp
    exact ⟨hO.len, row_same hO.row fun k hk => hs k (.inr ⟨p, hm, p.1, by simp, hk⟩), fun j u e hu he => ⟨row_same (hO.parts j u e hu he).1 fun k hk => hs k (.inr ⟨p, hm, u, List.mem_cons_of_mem _ (List.mem_of_getElem? hu), hk⟩), (hO.parts j u e hu he).2⟩, hO.apart⟩, h.sep⟩
theorem MkL.sameG {k : Nat} {W W' : World} {v : Value} {ps : List (Value × List Value)} {gs : List Seg} (h : MkL k W v ps gs) (hs : ∀ g, blkG v ps g → W'.heap[g]? = W.heap[g]?) : MkL k W' v ps gs := by
  obtain ⟨A, C, hv, hA⟩ := h.at_
  refine ⟨h.len, ⟨A, C, hv, fun h0 => ?_⟩, fun i p g hp hg => (h.segs i p g hp hg).same fun x hx g' hg' => hs g' (.inr ⟨p, List.mem_of_getElem? hp, x, hx, hg'⟩)⟩
  obtain ⟨b, hb1, hb2⟩ := hA h0
  have hB : W'.heap[b]? = W.heap[b]? := hs b (.inl (by rw [hv, hb1]; rfl))
  exact ⟨b, hb1, fun i p hp => ⟨(World.cell?_of_block (w := W) hB).trans (hb2 i p hp).1, (World.cell?_of_block (w := W) hB).trans (hb2 i p hp).2⟩⟩
/-- How many marks a message takes. -/
def cM (x : MsgV) : Nat := 1 + offL x.1.body x.1.body.length
def ownM (N : Nat) (W : World) (x : MsgV) : Prop := OwnL N W x.2.1 x.2.2 x.1.body
def mkM (k : Nat) (W : World) (x : MsgV) : Prop := MkL k W x.2.1 x.2.2 x.1.body
def vlM (x : MsgV) : Value := x.2.1
/-- The messages hold the marks from k0 on. -/
abbrev MkMs (k0 : Nat) (W : World) (v : Value) (ms : List MsgV) : Prop := MkR mkM vlM 1 (offR cM ms) k0 W v ms
abbrev MJm (N k0 b m : Nat) (w W : World) (ms : List MsgV) : Prop := MJ blM (ownM N) mkM vlM 1 (offR cM ms) N k0 b m w W ms
/-- Bounds of a message's body. -/
def BdyM (x : MsgV) : Prop := BdLg x.1.body ∧ x.1.body.length ≤ 40
theorem cM_le {x : MsgV} (h : BdyM x) : cM x ≤ 1641 := by
  have := offL_le h.1 x.1.body.length (Nat.le_refl _)
  have := h.2
  unfold cM
  omega
theorem clM_get : ∀ (l : List MsgV) (i : Nat) (x : MsgV), l[i]? = some x → (l.flatMap clMv)[i * 2]? = some (.int .i64 x.1.num) ∧ (l.flatMap clMv)[i * 2 + 1]? = some x.2.1 := by
  intro l
  induction l with
  | nil => intro i x h; simp at h
  | cons a r ih =>
    intro i x h
    cases i with
    | zero => simp at h; subst h; simp [clMv]
    | succ j =>
      have := ih j x (by simpa using h)
      simp only [List.flatMap_cons, clMv] at this ⊢
      have e1 : (j + 1) * 2 = (j * 2) + 1 + 1 := by omega
      rw [e1]
      simpa using this
theorem OwnM.notRow {N b : Nat} {W : World} {v : Value} {ms : List MsgV} (h : OwnM N W v ms) {t : Nat} (ht : 90 ≠ t ∧ 141 ≠ t ∧ 9 ≠ t) (hb : ∃ c, W.heap[b]? = some (.cells c t (0, 0))) : ∀ x ∈ ms, ¬ blM x b := fun x hx hg => by
  obtain ⟨_, _, c, t', h3, h4⟩ := (h.body x hx).blk hg
  obtain ⟨c', hb⟩ := hb
  rw [hb] at h3
  simp only [Option.some.injEq, Obj.cells.injEq] at h3
  rcases h4 with rfl | rfl | rfl
  · exact ht.1 h3.2.1.symm
  · exact ht.2.1 h3.2.1.symm
  · exact ht.2.2 h3.2.1.symm
set_option maxRecDepth 20000 in
set_option maxHeartbeats 4000000 in
theorem markMs_any (v : Value) (ms : List MsgV) (N k0 : Nat) (w : World) (h : OwnM N w v ms) (hsep : SepM ms) (hX : ∀ x ∈ ms, BdyM x) (hk0 : 0 < k0) (hk1 : k0 + 1641 * ms.length ≤ 99900) :
    Calls Tryz.prog 91 #[v, .int .i64 k0] w fun e w' => e = .returned (.int .i64 ((k0 + offR cM ms ms.length : Nat) : Int)) ∧ MkMs k0 w' v ms ∧ Below N w w' ∧ ∀ k, k < w.heap.size → v.ownBlock ≠ some k → (∀ x ∈ ms, ¬ blM x k) → w'.heap[k]? = w.heap[k]? := by
  have HX : Hid (∀ x ∈ ms, BdyM x) := hX
  obtain ⟨A, C, rfl⟩ : ∃ A C, v = .slice A ms.length C := by
    rcases h.row.2 with ⟨rfl, h0⟩ | ⟨g, cap, cur, rfl, _⟩
    · exact ⟨none, 0, by rw [h0]⟩
    · exact ⟨_, _, rfl⟩
  obtain ⟨b, hA, hbn, hbt, hbv⟩ : ∃ b, (0 < ms.length → A = some ⟨b, 0, none⟩) ∧ (0 < ms.length → N ≤ b ∧ b < w.heap.size) ∧ (0 < ms.length → ∃ c, w.heap[b]? = some (.cells c 98 (0, 0))) ∧ ∀ k, k < w.heap.size → (Value.slice A ms.length C).ownBlock ≠ some k → k ≠ b := by
    rcases h.row.2 with ⟨_, h0⟩ | ⟨g, cap, cur, e, hb, hgb, _⟩
    · exact ⟨w.heap.size, fun h => by omega, fun h => by omega, fun h => by omega, fun k hk _ => by omega⟩
    · simp at e
      exact ⟨g, fun _ => e.1, fun _ => ⟨hb, (Array.getElem?_eq_some_iff.1 hgb).1⟩, fun _ => ⟨_, hgb⟩, fun k _ hv e2 => hv (by rw [e2, e.1]; rfl)⟩
  have hnb : ∀ x ∈ ms, ¬ blM x b := fun x hx => h.notRow (by decide) (hbt (List.length_pos_of_mem hx)) x hx
  have hin : ∀ x ∈ ms, ∀ g, blM x g → g < w.heap.size := fun x hx g hg => ((h.body x hx).blk hg).2.1
  have hI0 : MJm N k0 b 0 w w ms := by
    refine ⟨fun i x hx => ?_, fun h0 o => ?_, fun i x _ hi => by omega, fun i x hx _ => h.body x (List.mem_of_getElem? hx), Below.refl _ _, fun _ _ _ _ => rfl⟩
    · have hi : i < ms.length := (List.getElem?_eq_some_iff.1 hx).1
      obtain ⟨k1, k2⟩ := clM_get ms i x hx
      have e := hA (by omega)
      subst e
      have a1 := h.row.cells (g := b) rfl (i * 2) _ k1
      have a2 := h.row.cells (g := b) rfl (i * 2 + 1) _ k2
      rw [addr0] at a1 a2
      refine ⟨fun j hj => ?_, a2⟩
      obtain rfl : j = 0 := by omega
      exact ⟨_, a1⟩
    · obtain ⟨c, hc⟩ := hbt h0
      simp [World.frozen?, hc]
  have HI0 : Hid (MJm N k0 b 0 w w ms) := hI0
  have HB : Hid ((0 < ms.length → A = some ⟨b, 0, none⟩) ∧ (0 < ms.length → N ≤ b ∧ b < w.heap.size) ∧ (∀ k, k < w.heap.size → (Value.slice A ms.length C).ownBlock ≠ some k → k ≠ b) ∧ (∀ x ∈ ms, ¬ blM x b) ∧ (∀ x ∈ ms, ∀ g, blM x g → g < w.heap.size) ∧ SepM ms) := ⟨hA, hbn, hbv, hnb, hin, hsep⟩
  have hoff : ∀ i, i ≤ ms.length → offR cM ms i ≤ 1641 * i := offR_le fun x hx => cM_le (hX x hx)
  clear h hX hI0 hA hbn hbt hbv hnb hin hsep
  go_enter Tryz.func91, Tryz.ntmps91
  go_wp2
  go_loopw [1, 5] (fun kv i wr => ∃ m : Nat, m ≤ ms.length ∧ i = .int .i64 m ∧ kv = .int .i64 ((k0 + offR cM ms m : Nat) : Int) ∧ MJm N k0 b m w wr ms) (fun _ i _ => ms.length - (intOf i).toNat)
  case atStart => exact ⟨0, Nat.zero_le _, rfl, by simp [offR_zero], HI0.out⟩
  case round =>
    obtain ⟨m, hm, rfl, rfl, hI⟩ := hrel
    have hof := hoff m hm
    have HOF : Hid (∀ i, i ≤ ms.length → offR cM ms i ≤ 1641 * i) := hoff
    clear HI0 hoff
    by_cases hlt : m < ms.length
    · have hlt' : (m : Int) < (ms.length : Int) := by omega
      obtain ⟨x, hx⟩ : ∃ x, ms[m]? = some x := ⟨_, List.getElem?_eq_getElem hlt⟩
      have hxX := HX.out x (List.mem_of_getElem? hx)
      have hA := HB.out.1 (by omega)
      subst hA
      obtain ⟨hbn, hbw⟩ := HB.out.2.1 (by omega)
      have hwr := hI.bel.size
      obtain ⟨y, hy⟩ : ∃ y, y = k0 + offR cM ms m := ⟨_, rfl⟩
      have HY : Hid (y = k0 + offR cM ms m) := hy
      rw [← hy]
      obtain ⟨z0, ct⟩ : ∃ z, wr.cell? ⟨b, m * 2, none⟩ = some (.int .i64 z) := (hI.nums m x hx).1 0 (by omega)
      have zt := hI.fz (by omega)
      have hown : ∀ (W W' : World) (x : MsgV), ownM N W x → (∀ g, blM x g → W'.heap[g]? = W.heap[g]?) → ownM N W' x := fun W W' x h hs => OwnL.sameG h hs
      have hmk : ∀ (k : Nat) (W W' : World) (x : MsgV), mkM k W x → (∀ g, blM x g → W'.heap[g]? = W.heap[g]?) → mkM k W' x := fun k W W' x h hs => MkL.sameG h hs
      obtain ⟨hI3, ct3⟩ : MJm N k0 b m w (wr.setCell ⟨b, m * 2, none⟩ (.int .i64 (y : Int))) ms ∧ (wr.setCell ⟨b, m * 2, none⟩ (.int .i64 (y : Int))).cell? ⟨b, m * 2, none⟩ = some (.int .i64 (y : Int)) := hI.num hbn HB.out.2.2.2.1 hown hmk hx (show 0 < 1 by omega) _
      have hyb : y ≤ 99900 := by omega
      have cu3 : (wr.setCell ⟨b, m * 2, none⟩ (.int .i64 (y : Int))).cell? ⟨b, m * 2 + 1, none⟩ = some x.2.1 := (hI3.nums m x hx).2
      have hOv : OwnL N (wr.setCell ⟨b, m * 2, none⟩ (.int .i64 (y : Int))) x.2.1 x.2.2 x.1.body := hI3.todo m x hx (Nat.le_refl _)
      obtain ⟨Av, Cv, hv⟩ := hOv.slice
      have HI3 : Hid (MJm N k0 b m w (wr.setCell ⟨b, m * 2, none⟩ (.int .i64 (y : Int))) ms ∧ (wr.setCell ⟨b, m * 2, none⟩ (.int .i64 (y : Int))).cell? ⟨b, m * 2, none⟩ = some (.int .i64 (y : Int)) ∧ OwnL N (wr.setCell ⟨b, m * 2, none⟩ (.int .i64 (y : Int))) x.2.1 x.2.2 x.1.body ∧ ms[m]? = some x ∧ BdyM x) := ⟨hI3, ct3, hOv, hx, hxX⟩
      have HM : Hid ((∀ (W W' : World) (x : MsgV), ownM N W x → (∀ g, blM x g → W'.heap[g]? = W.heap[g]?) → ownM N W' x) ∧ ∀ (k : Nat) (W W' : World) (x : MsgV), mkM k W x → (∀ g, blM x g → W'.heap[g]? = W.heap[g]?) → mkM k W' x) := ⟨hown, hmk⟩
      rw [hv] at cu3
      have HV : Hid (x.2.1 = .slice Av x.1.body.length Cv) := hv
      clear hy hI hI3 ct3 hOv hv hx hxX hown hmk
      go_wp2_with fail
      rw [← HV.out]
      refine (markZ_any x.2.1 x.2.2 x.1.body N (y + 1) _ HI3.out.2.2.1 HI3.out.2.2.2.2.1 (by have := HI3.out.2.2.2.2.2; omega) (by simp; omega) (by omega) (by have := HI3.out.2.2.2.2.2; have := HY.out; omega)).mono ?_
      rintro e w4 ⟨rfl, hm4, hb4, hk4⟩
      have HN : Hid (MJm N k0 b (m + 1) w w4 ms ∧ offR cM ms (m + 1) = offR cM ms m + (1 + offL x.1.body x.1.body.length)) := ⟨HI3.out.1.next (by simp; omega) HB.out.2.2.2.1 HM.out.1 HM.out.2 HB.out.2.2.2.2.1 HB.out.2.2.2.2.2 HI3.out.2.2.2.1 (fun j hj => by
        obtain rfl : j = 0 := by omega
        rw [← HY.out]
        exact HI3.out.2.1) (by rw [← HY.out]; exact hm4) hb4 (fun k hk hg => hk4 k hk (fun e => hg (.inl e)) fun p hp y hy e => hg (.inr ⟨p, hp, y, hy, e⟩)), offR_succ HI3.out.2.2.2.1⟩
      have hoff := HOF.out
      have hY := HY.out
      have hbb := offL_le HI3.out.2.2.2.2.1 x.1.body.length (Nat.le_refl _)
      have hb40 := HI3.out.2.2.2.2.2
      clear hm4 hb4 hk4 HI3
      go_wp2
      go_roundw
      case rel => exact ⟨m + 1, by omega, by go_num, by rw [HN.out.2]; congr 1; omega, HN.out.1⟩
      case measure => simp [intOf]; omega
    · have hge : (ms.length : Int) ≤ (m : Int) := by omega
      obtain rfl : m = ms.length := by omega
      have HI : Hid (MJm N k0 b ms.length w wr ms) := hI
      clear hI
      go_wp2
      go_ret
      refine ⟨rfl, ⟨⟨A, C, rfl, fun h0 => ⟨b, HB.out.1 h0, fun i x hx => ⟨(HI.out.done i x hx (List.getElem?_eq_some_iff.1 hx).1).1, (HI.out.nums i x hx).2⟩⟩⟩, fun i x hx => (HI.out.done i x hx (List.getElem?_eq_some_iff.1 hx).1).2⟩, HI.out.bel, fun k hk h1 h2 => HI.out.keep k hk (HB.out.2.2.1 k hk h1) h2⟩
set_option maxRecDepth 20000 in
set_option maxHeartbeats 4000000 in
theorem heldMs_any (v : Value) (ms : List MsgV) (k0 : Nat) (w : World) (h : MkMs k0 w v ms) (hX : ∀ x ∈ ms, BdyM x) (hk0 : 0 < k0) (hk1 : k0 + 1641 * ms.length ≤ 99900) :
    Calls Tryz.prog 92 #[v, .int .i64 k0] w fun e w' => e = .returned (.int .i64 ((k0 + offR cM ms ms.length : Nat) : Int)) ∧ Below w.heap.size w w' := by
  have HO : Hid (MkMs k0 w v ms ∧ ∀ x ∈ ms, BdyM x) := ⟨h, hX⟩
  have hoff : ∀ i, i ≤ ms.length → offR cM ms i ≤ 1641 * i := offR_le fun x hx => cM_le (hX x hx)
  obtain ⟨A, C, rfl, _⟩ := h.at_
  clear h hX
  go_enter Tryz.func92, Tryz.ntmps92
  go_wp2
  go_loopw [1, 5] (fun kv i wr => ∃ m : Nat, m ≤ ms.length ∧ i = .int .i64 m ∧ kv = .int .i64 ((k0 + offR cM ms m : Nat) : Int) ∧ Below w.heap.size w wr) (fun _ i _ => ms.length - (intOf i).toNat)
  case atStart => exact ⟨0, Nat.zero_le _, rfl, by simp [offR_zero], Below.refl _ _⟩
  case round =>
    obtain ⟨m, hm, rfl, rfl, hb⟩ := hrel
    have hof := hoff m hm
    have HOF : Hid (∀ i, i ≤ ms.length → offR cM ms i ≤ 1641 * i) := hoff
    clear hoff
    by_cases hlt : m < ms.length
    · have hlt' : (m : Int) < (ms.length : Int) := by omega
      have hK := HO.out.1.below (fun k W W' x h hb => MkL.below h hb) hb
      obtain ⟨x, hx⟩ : ∃ x, ms[m]? = some x := ⟨_, List.getElem?_eq_getElem hlt⟩
      have hxX := HO.out.2 x (List.mem_of_getElem? hx)
      obtain ⟨A', C', hv, hA⟩ := hK.at_
      obtain ⟨b, hA', hc'⟩ := hA (by omega)
      simp at hv
      obtain ⟨rfl, rfl⟩ := hv
      subst hA'
      have ct : wr.cell? ⟨b, m * 2, none⟩ = some (.int .i64 ((k0 + offR cM ms m : Nat) : Int)) := (hc' m x hx).1 0 (by omega)
      have cu : wr.cell? ⟨b, m * 2 + 1, none⟩ = some x.2.1 := (hc' m x hx).2
      have hmk : MkL (k0 + offR cM ms m + 1) wr x.2.1 x.2.2 x.1.body := hK.its m x hx
      obtain ⟨Av, Cv, hv, _⟩ := hmk.at_
      rw [hv] at cu
      have HS : Hid (MkL (k0 + offR cM ms m + 1) wr x.2.1 x.2.2 x.1.body ∧ Below w.heap.size w wr ∧ offR cM ms (m + 1) = offR cM ms m + (1 + offL x.1.body x.1.body.length) ∧ x.2.1 = .slice Av x.1.body.length Cv ∧ BdyM x) := ⟨hmk, hb, offR_succ hx, hv, hxX⟩
      clear hK hmk hb hx hA hc' hv hxX
      go_wp2_with fail
      rw [← HS.out.2.2.2.1]
      refine (heldZ_any x.2.1 x.2.2 x.1.body (k0 + offR cM ms m + 1) _ HS.out.1 HS.out.2.2.2.2.1 (by have := HS.out.2.2.2.2.2; omega) (by omega) (by have := HS.out.2.2.2.2.2; omega)).mono ?_
      rintro e1 w4 ⟨rfl, hb4⟩
      have HN : Hid (Below w.heap.size w w4 ∧ offR cM ms (m + 1) = offR cM ms m + (1 + offL x.1.body x.1.body.length)) := ⟨HS.out.2.1.trans (hb4.mono HS.out.2.1.size), HS.out.2.2.1⟩
      have hoff := HOF.out
      have hbb := offL_le HS.out.2.2.2.2.1 x.1.body.length (Nat.le_refl _)
      have hb40 := HS.out.2.2.2.2.2
      clear HS hb4
      go_wp2
      go_roundw
      case rel => exact ⟨m + 1, by omega, by go_num, by rw [HN.out.2]; congr 1; omega, HN.out.1⟩
      case measure => simp [intOf]; omega
    · have hge : (ms.length : Int) ≤ (m : Int) := by omega
      obtain rfl : m = ms.length := by omega
      have HB : Hid (Below w.heap.size w wr) := hb
      clear hb
      go_wp2
      go_ret
      exact ⟨rfl, HB.out⟩
end Go.Proofs.YtkaolpnbddjdpaaGreatDoor
namespace Go.Proofs.YtkaolpnbddjdpaaGreatDoor
open Go.ChangeShapes Go.WideShapes Go.ChangeAt Go.RowKit
/-- The blocks of a bundle's messages. -/
def blB (x : BunV) (g : Nat) : Prop := x.2.1.ownBlock = some g ∨ ∃ y ∈ x.2.2, blM y g
/-- How many marks a bundle takes. -/
def cBn (x : BunV) : Nat := 2 + offR cM x.2.2 x.2.2.length
def ownB (N : Nat) (W : World) (x : BunV) : Prop := OwnM N W x.2.1 x.2.2
def mkB (k : Nat) (W : World) (x : BunV) : Prop := MkMs k W x.2.1 x.2.2
def vlB (x : BunV) : Value := x.2.1
/-- The bundles hold the marks from k0 on. -/
abbrev MkBs (k0 : Nat) (W : World) (v : Value) (bs : List BunV) : Prop := MkR mkB vlB 2 (offR cBn bs) k0 W v bs
abbrev MJb (N k0 b m : Nat) (w W : World) (bs : List BunV) : Prop := MJ blB (ownB N) mkB vlB 2 (offR cBn bs) N k0 b m w W bs
/-- Bounds of a bundle. -/
def BdyB (x : BunV) : Prop := x.2.2.length ≤ 10 ∧ ∀ y ∈ x.2.2, BdyM y
theorem cBn_le {x : BunV} (h : BdyB x) : cBn x ≤ 16412 := by
  have := offR_le (c := cM) (fun y hy => cM_le (h.2 y hy)) x.2.2.length (Nat.le_refl _)
  have := h.1
  unfold cBn
  omega
theorem clB_get : ∀ (l : List BunV) (i : Nat) (x : BunV), l[i]? = some x → (l.flatMap clBv)[i * 3]? = some (.int .i64 x.1.kind) ∧ (l.flatMap clBv)[i * 3 + 1]? = some (.int .i64 x.1.num) ∧ (l.flatMap clBv)[i * 3 + 2]? = some x.2.1 := by
  intro l
  induction l with
  | nil => intro i x h; simp at h
  | cons a r ih =>
    intro i x h
    cases i with
    | zero => simp at h; subst h; simp [clBv]
    | succ j =>
      have := ih j x (by simpa using h)
      simp only [List.flatMap_cons, clBv] at this ⊢
      have e1 : (j + 1) * 3 = (j * 3) + 1 + 1 + 1 := by omega
      rw [e1]
      simpa using this
theorem OwnM.sameB {N : Nat} {W W' : World} {v : Value} {ms : List MsgV} (h : OwnM N W v ms) (hs : ∀ g, (v.ownBlock = some g ∨ ∃ y ∈ ms, blM y g) → W'.heap[g]? = W.heap[g]?) : OwnM N W' v ms :=
  ⟨row_same h.row fun g hg => hs g (.inl hg), fun x hx => (h.body x hx).sameG fun g hg => hs g (.inr ⟨x, hx, hg⟩)⟩
theorem MkMs.sameB {k : Nat} {W W' : World} {v : Value} {ms : List MsgV} (h : MkMs k W v ms) (hs : ∀ g, (v.ownBlock = some g ∨ ∃ y ∈ ms, blM y g) → W'.heap[g]? = W.heap[g]?) : MkMs k W' v ms :=
  MkR.same (bl := blM) h (fun _ _ _ _ h hs => MkL.sameG h hs) hs
theorem MkMs.belowB {k : Nat} {W W' : World} {v : Value} {ms : List MsgV} (h : MkMs k W v ms) (hb : Below W.heap.size W W') : MkMs k W' v ms :=
  MkR.below h (fun _ _ _ _ h hb => MkL.below h hb) hb
theorem OwnBs.inB {N : Nat} {W : World} {v : Value} {bs : List BunV} (h : OwnBs N W v bs) : ∀ x ∈ bs, ∀ g, blB x g → g < W.heap.size := fun x hx g hg => by
  rcases hg with hg | ⟨y, hy, hg⟩
  · exact (row_at (h.msgs x hx).1.row hg).2.1
  · exact (((h.msgs x hx).1.body y hy).blk hg).2.1
theorem OwnBs.notRow {N b : Nat} {W : World} {v : Value} {bs : List BunV} (h : OwnBs N W v bs) (hb : ∃ c, W.heap[b]? = some (.cells c 95 (0, 0))) : ∀ x ∈ bs, ¬ blB x b := fun x hx hg => by
  rcases hg with hg | ⟨y, hy, hg⟩
  · obtain ⟨_, _, c, h3⟩ := row_at (h.msgs x hx).1.row hg
    obtain ⟨c', hb⟩ := hb
    rw [hb] at h3
    simp at h3
  · exact (h.msgs x hx).1.notRow (by decide) hb y hy hg
theorem OwnBs.sepB {N : Nat} {W : World} {v : Value} {bs : List BunV} (h : OwnBs N W v bs) (hs : SepBs bs) : ∀ (i j : Nat) (x y : BunV), i ≠ j → bs[i]? = some x → bs[j]? = some y → ∀ g, blB x g → ¬ blB y g := fun i j x y hij hx hy g hg hg2 => by
  have mx := List.mem_of_getElem? hx
  have my := List.mem_of_getElem? hy
  rcases hg with hg | ⟨u, hu, hg⟩
  · rcases hg2 with hg2 | ⟨u2, hu2, hg2⟩
    · rcases Nat.lt_or_gt_of_ne hij with q | q
      · exact h.sep i j x y q hx hy g hg hg2
      · exact h.sep j i y x q hy hx g hg2 hg
    · obtain ⟨_, _, c, h3⟩ := row_at (h.msgs x mx).1.row hg
      exact (h.msgs y my).1.notRow (by decide) ⟨c, h3⟩ u2 hu2 hg2
  · rcases hg2 with hg2 | ⟨u2, hu2, hg2⟩
    · obtain ⟨_, _, c, h3⟩ := row_at (h.msgs y my).1.row hg2
      exact (h.msgs x mx).1.notRow (by decide) ⟨c, h3⟩ u hu hg
    · exact hs.2 i j x y hij hx hy u hu u2 hu2 g hg hg2
set_option maxRecDepth 20000 in
set_option maxHeartbeats 4000000 in
theorem markBs_any (v : Value) (bs : List BunV) (N k0 : Nat) (w : World) (h : OwnBs N w v bs) (hsep : SepBs bs) (hX : ∀ x ∈ bs, BdyB x) (hk0 : 0 < k0) (hk1 : k0 + 16412 * bs.length ≤ 99900) :
    Calls Tryz.prog 50 #[v, .int .i64 k0] w fun e w' => e = .returned (.int .i64 ((k0 + offR cBn bs bs.length : Nat) : Int)) ∧ MkBs k0 w' v bs ∧ Below N w w' ∧ ∀ k, k < w.heap.size → v.ownBlock ≠ some k → (∀ x ∈ bs, ¬ blB x k) → w'.heap[k]? = w.heap[k]? := by
  have HX : Hid (∀ x ∈ bs, BdyB x) := hX
  obtain ⟨A, C, rfl⟩ : ∃ A C, v = .slice A bs.length C := by
    rcases h.row.2 with ⟨rfl, h0⟩ | ⟨g, cap, cur, rfl, _⟩
    · exact ⟨none, 0, by rw [h0]⟩
    · exact ⟨_, _, rfl⟩
  obtain ⟨b, hA, hbn, hbt, hbv⟩ : ∃ b, (0 < bs.length → A = some ⟨b, 0, none⟩) ∧ (0 < bs.length → N ≤ b ∧ b < w.heap.size) ∧ (0 < bs.length → ∃ c, w.heap[b]? = some (.cells c 95 (0, 0))) ∧ ∀ k, k < w.heap.size → (Value.slice A bs.length C).ownBlock ≠ some k → k ≠ b := by
    rcases h.row.2 with ⟨_, h0⟩ | ⟨g, cap, cur, e, hb, hgb, _⟩
    · exact ⟨w.heap.size, fun h => by omega, fun h => by omega, fun h => by omega, fun k hk _ => by omega⟩
    · simp at e
      exact ⟨g, fun _ => e.1, fun _ => ⟨hb, (Array.getElem?_eq_some_iff.1 hgb).1⟩, fun _ => ⟨_, hgb⟩, fun k _ hv e2 => hv (by rw [e2, e.1]; rfl)⟩
  have hnb : ∀ x ∈ bs, ¬ blB x b := fun x hx => h.notRow (hbt (List.length_pos_of_mem hx)) x hx
  have hin : ∀ x ∈ bs, ∀ g, blB x g → g < w.heap.size := h.inB
  have hI0 : MJb N k0 b 0 w w bs := by
    refine ⟨fun i x hx => ?_, fun h0 o => ?_, fun i x _ hi => by omega, fun i x hx _ => (h.msgs x (List.mem_of_getElem? hx)).1, Below.refl _ _, fun _ _ _ _ => rfl⟩
    · have hi : i < bs.length := (List.getElem?_eq_some_iff.1 hx).1
      obtain ⟨k1, k2, k3⟩ := clB_get bs i x hx
      have e := hA (by omega)
      subst e
      have a1 := h.row.cells (g := b) rfl (i * 3) _ k1
      have a2 := h.row.cells (g := b) rfl (i * 3 + 1) _ k2
      have a3 := h.row.cells (g := b) rfl (i * 3 + 2) _ k3
      rw [addr0] at a1 a2 a3
      refine ⟨fun j hj => ?_, a3⟩
      obtain rfl | rfl : j = 0 ∨ j = 1 := by omega
      · exact ⟨_, a1⟩
      · exact ⟨_, a2⟩
    · obtain ⟨c, hc⟩ := hbt h0
      simp [World.frozen?, hc]
  have HI0 : Hid (MJb N k0 b 0 w w bs) := hI0
  have HB : Hid ((0 < bs.length → A = some ⟨b, 0, none⟩) ∧ (0 < bs.length → N ≤ b ∧ b < w.heap.size) ∧ (∀ k, k < w.heap.size → (Value.slice A bs.length C).ownBlock ≠ some k → k ≠ b) ∧ (∀ x ∈ bs, ¬ blB x b) ∧ (∀ x ∈ bs, ∀ g, blB x g → g < w.heap.size) ∧ (∀ (i j : Nat) (x y : BunV), i ≠ j → bs[i]? = some x → bs[j]? = some y → ∀ g, blB x g → ¬ blB y g) ∧ SepBs bs) := ⟨hA, hbn, hbv, hnb, hin, h.sepB hsep, hsep⟩
  have hoff : ∀ i, i ≤ bs.length → offR cBn bs i ≤ 16412 * i := offR_le fun x hx => cBn_le (hX x hx)
  clear h hX hI0 hA hbn hbt hbv hnb hin hsep
  go_enter Tryz.func50, Tryz.ntmps50
  go_wp2
  go_loopw [1, 5] (fun kv i wr => ∃ m : Nat, m ≤ bs.length ∧ i = .int .i64 m ∧ kv = .int .i64 ((k0 + offR cBn bs m : Nat) : Int) ∧ MJb N k0 b m w wr bs) (fun _ i _ => bs.length - (intOf i).toNat)
  case atStart => exact ⟨0, Nat.zero_le _, rfl, by simp [offR_zero], HI0.out⟩
  case round =>
    obtain ⟨m, hm, rfl, rfl, hI⟩ := hrel
    have hof := hoff m hm
    have HOF : Hid (∀ i, i ≤ bs.length → offR cBn bs i ≤ 16412 * i) := hoff
    clear HI0 hoff
    by_cases hlt : m < bs.length
    · have hlt' : (m : Int) < (bs.length : Int) := by omega
      obtain ⟨x, hx⟩ : ∃ x, bs[m]? = some x := ⟨_, List.getElem?_eq_getElem hlt⟩
      have hxX := HX.out x (List.mem_of_getElem? hx)
      have hA := HB.out.1 (by omega)
      subst hA
      obtain ⟨hbn, hbw⟩ := HB.out.2.1 (by omega)
      have hwr := hI.bel.size
      obtain ⟨y, hy⟩ : ∃ y, y = k0 + offR cBn bs m := ⟨_, rfl⟩
      have HY : Hid (y = k0 + offR cBn bs m) := hy
      rw [← hy]
      obtain ⟨z0, ct⟩ : ∃ z, wr.cell? ⟨b, m * 3, none⟩ = some (.int .i64 z) := (hI.nums m x hx).1 0 (by omega)
      have zt := hI.fz (by omega)
      have hown : ∀ (W W' : World) (x : BunV), ownB N W x → (∀ g, blB x g → W'.heap[g]? = W.heap[g]?) → ownB N W' x := fun W W' x h hs => OwnM.sameB h hs
      have hmk : ∀ (k : Nat) (W W' : World) (x : BunV), mkB k W x → (∀ g, blB x g → W'.heap[g]? = W.heap[g]?) → mkB k W' x := fun k W W' x h hs => MkMs.sameB h hs
      obtain ⟨hI3, ct3⟩ : MJb N k0 b m w (wr.setCell ⟨b, m * 3, none⟩ (.int .i64 (y : Int))) bs ∧ (wr.setCell ⟨b, m * 3, none⟩ (.int .i64 (y : Int))).cell? ⟨b, m * 3, none⟩ = some (.int .i64 (y : Int)) := hI.num hbn HB.out.2.2.2.1 hown hmk hx (show 0 < 2 by omega) _
      obtain ⟨z1, c13⟩ : ∃ z, (wr.setCell ⟨b, m * 3, none⟩ (.int .i64 (y : Int))).cell? ⟨b, m * 3 + 1, none⟩ = some (.int .i64 z) := (hI3.nums m x hx).1 1 (by omega)
      obtain ⟨hI4, ct4⟩ : MJb N k0 b m w ((wr.setCell ⟨b, m * 3, none⟩ (.int .i64 (y : Int))).setCell ⟨b, m * 3 + 1, none⟩ (.int .i64 ((y : Int) + 1))) bs ∧ ((wr.setCell ⟨b, m * 3, none⟩ (.int .i64 (y : Int))).setCell ⟨b, m * 3 + 1, none⟩ (.int .i64 ((y : Int) + 1))).cell? ⟨b, m * 3 + 1, none⟩ = some (.int .i64 ((y : Int) + 1)) := hI3.num hbn HB.out.2.2.2.1 hown hmk hx (show 1 < 2 by omega) _
      have ct5 : ((wr.setCell ⟨b, m * 3, none⟩ (.int .i64 (y : Int))).setCell ⟨b, m * 3 + 1, none⟩ (.int .i64 ((y : Int) + 1))).cell? ⟨b, m * 3, none⟩ = some (.int .i64 (y : Int)) := (World.cell?_setCell_other _ _ _ _ (fun e => by simp at e)).trans ct3
      have hyb : y + 16412 ≤ 99900 := by omega
      have cu3 : ((wr.setCell ⟨b, m * 3, none⟩ (.int .i64 (y : Int))).setCell ⟨b, m * 3 + 1, none⟩ (.int .i64 ((y : Int) + 1))).cell? ⟨b, m * 3 + 2, none⟩ = some x.2.1 := (hI4.nums m x hx).2
      have hOv : OwnM N ((wr.setCell ⟨b, m * 3, none⟩ (.int .i64 (y : Int))).setCell ⟨b, m * 3 + 1, none⟩ (.int .i64 ((y : Int) + 1))) x.2.1 x.2.2 := hI4.todo m x hx (Nat.le_refl _)
      obtain ⟨Av, Cv, hv⟩ : ∃ Av Cv, x.2.1 = .slice Av x.2.2.length Cv := by
        rcases hOv.row.2 with ⟨e, h0⟩ | ⟨g, cap, cur, e, _⟩
        · exact ⟨none, 0, by rw [e, h0]⟩
        · exact ⟨_, _, e⟩
      have HI3 : Hid (MJb N k0 b m w ((wr.setCell ⟨b, m * 3, none⟩ (.int .i64 (y : Int))).setCell ⟨b, m * 3 + 1, none⟩ (.int .i64 ((y : Int) + 1))) bs ∧ (((wr.setCell ⟨b, m * 3, none⟩ (.int .i64 (y : Int))).setCell ⟨b, m * 3 + 1, none⟩ (.int .i64 ((y : Int) + 1))).cell? ⟨b, m * 3, none⟩ = some (.int .i64 (y : Int)) ∧ ((wr.setCell ⟨b, m * 3, none⟩ (.int .i64 (y : Int))).setCell ⟨b, m * 3 + 1, none⟩ (.int .i64 ((y : Int) + 1))).cell? ⟨b, m * 3 + 1, none⟩ = some (.int .i64 ((y : Int) + 1))) ∧ OwnM N ((wr.setCell ⟨b, m * 3, none⟩ (.int .i64 (y : Int))).setCell ⟨b, m * 3 + 1, none⟩ (.int .i64 ((y : Int) + 1))) x.2.1 x.2.2 ∧ bs[m]? = some x ∧ BdyB x) := ⟨hI4, ⟨ct5, ct4⟩, hOv, hx, hxX⟩
      have HM : Hid ((∀ (W W' : World) (x : BunV), ownB N W x → (∀ g, blB x g → W'.heap[g]? = W.heap[g]?) → ownB N W' x) ∧ ∀ (k : Nat) (W W' : World) (x : BunV), mkB k W x → (∀ g, blB x g → W'.heap[g]? = W.heap[g]?) → mkB k W' x) := ⟨hown, hmk⟩
      rw [hv] at cu3
      have HV : Hid (x.2.1 = .slice Av x.2.2.length Cv) := hv
      have hmx := List.mem_of_getElem? hx
      clear hy hI hI3 hI4 ct4 ct5 hOv hv hx hxX hown hmk
      go_wp2_with fail
      rw [← HV.out]
      refine (markMs_any x.2.1 x.2.2 N (y + 2) _ HI3.out.2.2.1 (HB.out.2.2.2.2.2.2.1 x hmx) HI3.out.2.2.2.2.2 (by omega) (by have := HI3.out.2.2.2.2.1; omega)).mono ?_
      rintro e w4 ⟨rfl, hm4, hb4, hk4⟩
      have HN : Hid (MJb N k0 b (m + 1) w w4 bs ∧ offR cBn bs (m + 1) = offR cBn bs m + (2 + offR cM x.2.2 x.2.2.length)) := ⟨HI3.out.1.next (by simp; omega) HB.out.2.2.2.1 HM.out.1 HM.out.2 HB.out.2.2.2.2.1 HB.out.2.2.2.2.2.1 HI3.out.2.2.2.1 (fun j hj => by
        rw [← HY.out]
        obtain rfl | rfl : j = 0 ∨ j = 1 := by omega
        · exact HI3.out.2.1.1
        · exact HI3.out.2.1.2) (by rw [← HY.out]; exact hm4) hb4 (fun k hk hg => hk4 k hk (fun e => hg (.inl e)) fun p hp hg2 => hg (.inr ⟨p, hp, hg2⟩)), offR_succ HI3.out.2.2.2.1⟩
      have hoff := HOF.out
      have hY := HY.out
      have hbb := offR_le (c := cM) (fun y hy => cM_le (HI3.out.2.2.2.2.2 y hy)) x.2.2.length (Nat.le_refl _)
      have hb40 := HI3.out.2.2.2.2.1
      clear hm4 hb4 hk4 HI3
      go_wp2
      go_roundw
      case rel => exact ⟨m + 1, by omega, by go_num, by rw [HN.out.2]; congr 1; omega, HN.out.1⟩
      case measure => simp [intOf]; omega
    · have hge : (bs.length : Int) ≤ (m : Int) := by omega
      obtain rfl : m = bs.length := by omega
      have HI : Hid (MJb N k0 b bs.length w wr bs) := hI
      clear hI
      go_wp2
      go_ret
      refine ⟨rfl, ⟨⟨A, C, rfl, fun h0 => ⟨b, HB.out.1 h0, fun i x hx => ⟨(HI.out.done i x hx (List.getElem?_eq_some_iff.1 hx).1).1, (HI.out.nums i x hx).2⟩⟩⟩, fun i x hx => (HI.out.done i x hx (List.getElem?_eq_some_iff.1 hx).1).2⟩, HI.out.bel, fun k hk h1 h2 => HI.out.keep k hk (HB.out.2.2.1 k hk h1) h2⟩
set_option maxRecDepth 20000 in
set_option maxHeartbeats 4000000 in
theorem heldBs_any (v : Value) (bs : List BunV) (k0 : Nat) (w : World) (h : MkBs k0 w v bs) (hX : ∀ x ∈ bs, BdyB x) (hk0 : 0 < k0) (hk1 : k0 + 16412 * bs.length ≤ 99900) :
    Calls Tryz.prog 51 #[v, .int .i64 k0] w fun e w' => e = .returned (.int .i64 ((k0 + offR cBn bs bs.length : Nat) : Int)) ∧ Below w.heap.size w w' := by
  have HO : Hid (MkBs k0 w v bs ∧ ∀ x ∈ bs, BdyB x) := ⟨h, hX⟩
  have hoff : ∀ i, i ≤ bs.length → offR cBn bs i ≤ 16412 * i := offR_le fun x hx => cBn_le (hX x hx)
  obtain ⟨A, C, rfl, _⟩ := h.at_
  clear h hX
  go_enter Tryz.func51, Tryz.ntmps51
  go_wp2
  go_loopw [1, 5] (fun kv i wr => ∃ m : Nat, m ≤ bs.length ∧ i = .int .i64 m ∧ kv = .int .i64 ((k0 + offR cBn bs m : Nat) : Int) ∧ Below w.heap.size w wr) (fun _ i _ => bs.length - (intOf i).toNat)
  case atStart => exact ⟨0, Nat.zero_le _, rfl, by simp [offR_zero], Below.refl _ _⟩
  case round =>
    obtain ⟨m, hm, rfl, rfl, hb⟩ := hrel
    have hof := hoff m hm
    have HOF : Hid (∀ i, i ≤ bs.length → offR cBn bs i ≤ 16412 * i) := hoff
    clear hoff
    by_cases hlt : m < bs.length
    · have hlt' : (m : Int) < (bs.length : Int) := by omega
      have hK := HO.out.1.below (fun k W W' x h hb => MkMs.belowB h hb) hb
      obtain ⟨x, hx⟩ : ∃ x, bs[m]? = some x := ⟨_, List.getElem?_eq_getElem hlt⟩
      have hxX := HO.out.2 x (List.mem_of_getElem? hx)
      obtain ⟨A', C', hv, hA⟩ := hK.at_
      obtain ⟨b, hA', hc'⟩ := hA (by omega)
      simp at hv
      obtain ⟨rfl, rfl⟩ := hv
      subst hA'
      have ct : wr.cell? ⟨b, m * 3, none⟩ = some (.int .i64 ((k0 + offR cBn bs m : Nat) : Int)) := (hc' m x hx).1 0 (by omega)
      have ct1 : wr.cell? ⟨b, m * 3 + 1, none⟩ = some (.int .i64 ((k0 + offR cBn bs m + 1 : Nat) : Int)) := (hc' m x hx).1 1 (by omega)
      have cu : wr.cell? ⟨b, m * 3 + 2, none⟩ = some x.2.1 := (hc' m x hx).2
      have hmk : MkMs (k0 + offR cBn bs m + 2) wr x.2.1 x.2.2 := hK.its m x hx
      obtain ⟨Av, Cv, hv, _⟩ := hmk.at_
      rw [hv] at cu
      have HS : Hid (MkMs (k0 + offR cBn bs m + 2) wr x.2.1 x.2.2 ∧ Below w.heap.size w wr ∧ offR cBn bs (m + 1) = offR cBn bs m + (2 + offR cM x.2.2 x.2.2.length) ∧ x.2.1 = .slice Av x.2.2.length Cv ∧ BdyB x) := ⟨hmk, hb, offR_succ hx, hv, hxX⟩
      clear hK hmk hb hx hA hc' hv hxX
      go_wp2_with fail
      rw [← HS.out.2.2.2.1]
      refine (heldMs_any x.2.1 x.2.2 (k0 + offR cBn bs m + 2) _ HS.out.1 HS.out.2.2.2.2.2 (by omega) (by have := HS.out.2.2.2.2.1; omega)).mono ?_
      rintro e1 w4 ⟨rfl, hb4⟩
      have HN : Hid (Below w.heap.size w w4 ∧ offR cBn bs (m + 1) = offR cBn bs m + (2 + offR cM x.2.2 x.2.2.length)) := ⟨HS.out.2.1.trans (hb4.mono HS.out.2.1.size), HS.out.2.2.1⟩
      have hoff := HOF.out
      have hbb := offR_le (c := cM) (fun y hy => cM_le (HS.out.2.2.2.2.2 y hy)) x.2.2.length (Nat.le_refl _)
      have hb40 := HS.out.2.2.2.2.1
      clear HS hb4
      go_wp2
      go_roundw
      case rel => exact ⟨m + 1, by omega, by go_num, by rw [HN.out.2]; congr 1; omega, HN.out.1⟩
      case measure => simp [intOf]; omega
    · have hge : (bs.length : Int) ≤ (m : Int) := by omega
      obtain rfl : m = bs.length := by omega
      have HB : Hid (Below w.heap.size w wr) := hb
      clear hb
      go_wp2
      go_ret
      exact ⟨rfl, HB.out⟩
set_option maxHeartbeats 2000000 in
theorem markI_own (f t : ByteArray) (num : Int) (v : Value) (bs : List BunV) (N k0 : Nat) (w : World) (h : OwnBs N w v bs) (hsep : SepBs bs) (hX : ∀ x ∈ bs, BdyB x) (hN : N ≤ w.heap.size) (hk0 : 0 < k0) (hk1 : k0 + 16412 * bs.length ≤ 99900) :
    Calls Tryz.prog 22 #[.agg #[.string f, .string t, .int .i64 num, v], .int .i64 k0] w fun e w' => e = .returned (.int .i64 ((k0 + offR cBn bs bs.length : Nat) : Int)) ∧ MkBs k0 w' v bs ∧ Below N w w' ∧ ∀ (k : Nat) (c : Array Value), w.heap[k]? = some (Obj.cells c 44 (0, 0)) → w'.heap[k]? = w.heap[k]? := by
  have HR : Hid (∀ (k : Nat) (c : Array Value), w.heap[k]? = some (Obj.cells c 44 (0, 0)) → v.ownBlock ≠ some k ∧ ∀ x ∈ bs, ¬ blB x k) := fun k c hk => by
    refine ⟨fun e => ?_, fun x hx hg => ?_⟩
    · obtain ⟨_, _, c2, h2⟩ := row_at h.row e
      rw [hk] at h2
      simp at h2
    · rcases hg with hg | ⟨y, hy, hg⟩
      · obtain ⟨_, _, c2, h2⟩ := row_at (h.msgs x hx).1.row hg
        rw [hk] at h2
        simp at h2
      · exact (h.msgs x hx).1.notRow (by decide) ⟨c, hk⟩ y hy hg
  obtain ⟨A, C, rfl⟩ : ∃ A C, v = .slice A bs.length C := by
    rcases h.row.2 with ⟨rfl, h0⟩ | ⟨g, cap, cur, rfl, _⟩
    · exact ⟨none, 0, by rw [h0]⟩
    · exact ⟨_, _, rfl⟩
  have HO : Hid (OwnBs N (w.alloc (.cells #[.string f, .string t, .int .i64 num, .slice A bs.length C] 44)) (.slice A bs.length C) bs ∧ SepBs bs ∧ ∀ x ∈ bs, BdyB x) := ⟨h.below ((Below.refl _ _).alloc (Nat.le_refl _) _), hsep, hX⟩
  clear h hsep hX
  go_enter Tryz.func22, Tryz.ntmps22
  go_wp2_with fail
  refine (markBs_any _ bs N k0 _ HO.out.1 HO.out.2.1 HO.out.2.2 hk0 hk1).mono ?_
  rintro e w1 ⟨rfl, h1, h2, h3⟩
  have H1 : Hid (MkBs k0 w1 (.slice A bs.length C) bs ∧ Below N w w1 ∧ ∀ (k : Nat) (c : Array Value), w.heap[k]? = some (Obj.cells c 44 (0, 0)) → w1.heap[k]? = w.heap[k]?) := ⟨h1, ((Below.refl _ _).alloc hN _).trans h2, fun k c hk => by
    have hl := (Array.getElem?_eq_some_iff.1 hk).1
    have ha := (Below.alloc (Below.refl w.heap.size w) (Nat.le_refl _) (Obj.cells #[.string f, .string t, .int .i64 num, .slice A bs.length C] 44)).block k hl
    exact (h3 k (by simp; omega) (HR.out k c hk).1 (HR.out k c hk).2).trans ha⟩
  clear h1 h2 h3
  go_wp2
  go_ret
  exact ⟨rfl, H1.out⟩
set_option maxHeartbeats 2000000 in
theorem heldI_own (f t : ByteArray) (num : Int) (v : Value) (bs : List BunV) (k0 : Nat) (w : World) (h : MkBs k0 w v bs) (hX : ∀ x ∈ bs, BdyB x) (hk0 : 0 < k0) (hk1 : k0 + 16412 * bs.length ≤ 99900) :
    Calls Tryz.prog 23 #[.agg #[.string f, .string t, .int .i64 num, v], .int .i64 k0] w fun e w' => e = .returned (.int .i64 ((k0 + offR cBn bs bs.length : Nat) : Int)) ∧ Below w.heap.size w w' := by
  obtain ⟨A, C, rfl, _⟩ := h.at_
  have HO : Hid (MkBs k0 (w.alloc (.cells #[.string f, .string t, .int .i64 num, .slice A bs.length C] 44)) (.slice A bs.length C) bs ∧ ∀ x ∈ bs, BdyB x) := ⟨MkR.below h (fun _ _ _ _ h hb => MkMs.belowB h hb) ((Below.refl _ _).alloc (Nat.le_refl _) _), hX⟩
  clear h hX
  go_enter Tryz.func23, Tryz.ntmps23
  go_wp2_with fail
  refine (heldBs_any _ bs k0 _ HO.out.1 HO.out.2 hk0 hk1).mono ?_
  rintro e w1 ⟨rfl, h2⟩
  have H1 : Hid (Below w.heap.size w w1) := ((Below.refl _ _).alloc (Nat.le_refl _) _).trans (h2.mono (by simp))
  have hz : ¬ (((k0 + offR cBn bs bs.length : Nat) : Int) < 0) := by omega
  clear h2
  go_wp2
  go_ret
  exact ⟨rfl, H1.out⟩
end Go.Proofs.YtkaolpnbddjdpaaGreatDoor
namespace Go.Proofs.YtkaolpnbddjdpaaGreatDoor
open Go.ChangeShapes Go.WideShapes Go.ChangeAt Go.RowKit
theorem msg_bdy {x : MsgV} (h : msgB x.1 = true) : BdyM x := by
  unfold msgB ctlB at h
  simp only [Bool.and_eq_true, decide_eq_true_eq, List.all_eq_true] at h
  refine ⟨fun g hg => ?_, h.2.1⟩
  have hb := h.2.2 g hg
  unfold bodyB at hb
  simp only [Bool.and_eq_true] at hb
  obtain ⟨f1, f2, f3⟩ := right_boundsP hb.2
  exact ⟨fun e he => ⟨(f3 e he).2.1, (f3 e he).2.2⟩, f2, f1⟩
theorem bun_bdy {x : BunV} (hm : x.2.2.map (·.1) = x.1.msgs) (h : bunB x.1 = true) : BdyB x := by
  unfold bunB ctlB at h
  simp only [Bool.and_eq_true, decide_eq_true_eq, List.all_eq_true] at h
  have hl : x.2.2.length = x.1.msgs.length := by rw [← hm]; simp
  refine ⟨by rw [hl]; exact h.2.2.2.2.1, fun y hy => msg_bdy (h.2.2.2.2.2 y.1 ?_)⟩
  rw [← hm]
  exact List.mem_map_of_mem hy
theorem OwnBs.bdy {N : Nat} {W : World} {v : Value} {bs : List BunV} {p : Pcl} (h : OwnBs N W v bs) (hb : bs.map (·.1) = (ixT p).buns) : (∀ x ∈ bs, BdyB x) ∧ bs.length ≤ 5 := by
  unfold ixT at hb
  cases g : pclB p
  · rw [g] at hb
    have hn : bs = [] := by simpa using hb
    subst hn
    exact ⟨fun x hx => (by cases hx), by simp⟩
  · rw [g] at hb
    have hi : ixB (ixP p) = true := by
      unfold pclB at g
      rw [Bool.and_eq_true] at g
      exact g.2
    unfold ixB ctlB at hi
    simp only [Bool.and_eq_true, decide_eq_true_eq, List.all_eq_true] at hi
    have hb' : bs.map (·.1) = (ixP p).buns := hb
    refine ⟨fun x hx => bun_bdy (h.msgs x hx).2 (hi.2.2.2.2.2 x.1 ?_), ?_⟩
    · rw [← hb']
      exact List.mem_map_of_mem hx
    · have := hi.2.2.2.2.1
      rw [← hb', List.length_map] at this
      exact this
theorem OwnBs.keepB {N : Nat} {W W' : World} {v : Value} {bs : List BunV} (h : OwnBs N W v bs) (hs : ∀ g, N ≤ g → g < W.heap.size → W'.heap[g]? = W.heap[g]?) : OwnBs N W' v bs :=
  ⟨row_same h.row fun g hg => hs g (row_at h.row hg).1 (row_at h.row hg).2.1, fun x hx => ⟨(h.msgs x hx).1.sameB fun g hg => by
    rcases hg with hg | ⟨y, hy, hg⟩
    · exact hs g (row_at (h.msgs x hx).1.row hg).1 (row_at (h.msgs x hx).1.row hg).2.1
    · exact hs g (((h.msgs x hx).1.body y hy).blk hg).1 (((h.msgs x hx).1.body y hy).blk hg).2.1, (h.msgs x hx).2⟩, h.sep⟩
end Go.Proofs.YtkaolpnbddjdpaaGreatDoor
