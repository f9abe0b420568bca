/- ParcelIx answers at every parcel as the model does, writes into no argument, keeps nothing of one, and its answer owns its memory, behind another call too. Conditions: none but what the card ties. -/
import Derived.WalkKit
import Derived.Below
import Derived.WalkSmall
import Derived.RangeFuncRecord
import Derived.ProofKit
import Derived.OpenShut
import Derived.ShutString
import Derived.ChangeOld
import Derived.WalkLawsBesides
import Derived.WalkSpells
import Derived.Deep.Light
import Derived.Handy
import Derived.Deep.QuietTactic
import Derived.BigQuiet
import Derived.BigRegion
import Derived.Deep.OwnRows
import Derived.Laws.OwnMore
import Derived.Lib.ParseIntB
import Derived.Lib.ItoaNum
import Derived.Lib.Strings
import Derived.Shelf.LaysM
import Derived.Shelf.Strconv.ParseIntPublic10
import Derived.Shelf.Strings.Prefix
import Derived.Lib.AtoiErrMem
import Derived.Laws.BytesArg
import Derived.Lib.Bytealg
import Derived.Lib.SlTrimSet
import Derived.Stop.Joined
import Derived.MakeChecks
import Derived.LaidLaws
import Derived.Lib.SmallJoins
import Derived.Shelf.Slices.Clone
import Derived.Lib.AppendIntMem
import Derived.Deep.RegionHeld3
import Derived.Deep.RegionLaw
import Derived.Deep.AppendLies
import Derived.RangeFuncBox
import Derived.Shelf.Strconv.Clone
import Derived.Shelf.Strconv.Itoa4
import Derived.Lib.LaidTab
import Derived.Shelf.Strings.Count
import Derived.Deep.DeepMust
import Derived.Deep.Cut
import Derived.Deep.CutRange
import Derived.Laws.AppendOwn
import Derived.Maps.AppendAt
import Derived.Shelf.Strings.SlTrimAscii
import Derived.Shelf.Strings.Search2
import Derived.Laws.StructEq
import Derived.Deep.CutBlock
import Derived.Deep.SlicePairs
import Derived.Deep.Slices
import Derived.SliceStrings
import Derived.Stop.LaidErr
import Derived.OpenVars
import Derived.LaidMore
import Derived.SevenTiedAt
import Derived.Lay
import Derived.Test.YtkaolpnbddjdpaaGreatDoorG00
import Derived.Test.YtkaolpnbddjdpaaGreatDoorG01
import Derived.Test.YtkaolpnbddjdpaaGreatDoorG02
import Derived.Test.YtkaolpnbddjdpaaGreatDoorG03
import Derived.Test.YtkaolpnbddjdpaaGreatDoorG04
import Derived.Test.YtkaolpnbddjdpaaGreatDoorG05
import Derived.Test.YtkaolpnbddjdpaaGreatDoorG06
import Derived.Test.YtkaolpnbddjdpaaGreatDoorG07
import Derived.Test.YtkaolpnbddjdpaaGreatDoorG08
import Derived.Test.YtkaolpnbddjdpaaGreatDoorG09
import Derived.Test.YtkaolpnbddjdpaaGreatDoorG10
import Derived.Test.YtkaolpnbddjdpaaGreatDoorG11
import Derived.Test.YtkaolpnbddjdpaaGreatDoorG12
import Derived.Test.YtkaolpnbddjdpaaGreatDoorG13
import Derived.Test.YtkaolpnbddjdpaaGreatDoorG14
import Derived.Test.YtkaolpnbddjdpaaGreatDoorG15
import Derived.Test.YtkaolpnbddjdpaaGreatDoorG16
import Derived.Test.YtkaolpnbddjdpaaGreatDoorG17
import Derived.Test.YtkaolpnbddjdpaaGreatDoorG18
import Derived.Test.YtkaolpnbddjdpaaGreatDoorG19
import Derived.Test.YtkaolpnbddjdpaaGreatDoorG20
import Derived.Test.YtkaolpnbddjdpaaGreatDoorG21
import Derived.Test.YtkaolpnbddjdpaaGreatDoorG22
import Derived.Test.YtkaolpnbddjdpaaGreatDoorG23
import Derived.Test.YtkaolpnbddjdpaaGreatDoorG24
import Derived.Test.YtkaolpnbddjdpaaGreatDoorG25
import Derived.Test.YtkaolpnbddjdpaaGreatDoorG26
import Derived.Test.YtkaolpnbddjdpaaGreatDoorG27
import Derived.Test.YtkaolpnbddjdpaaGreatDoorG28
import Derived.Test.YtkaolpnbddjdpaaGreatDoorG29
import Derived.Test.YtkaolpnbddjdpaaGreatDoorG30
import Derived.Test.YtkaolpnbddjdpaaGreatDoorG31
import Derived.Test.YtkaolpnbddjdpaaGreatDoorG32
import Derived.Test.YtkaolpnbddjdpaaGreatDoorG51
import Derived.Test.YtkaolpnbddjdpaaGreatDoorG33
import Derived.Test.YtkaolpnbddjdpaaGreatDoorG34
import Derived.Test.YtkaolpnbddjdpaaGreatDoorG35
import Derived.Test.YtkaolpnbddjdpaaGreatDoorG36
import Derived.Test.YtkaolpnbddjdpaaGreatDoorG37
import Derived.Test.YtkaolpnbddjdpaaGreatDoorRows
import Derived.Test.YtkaolpnbddjdpaaGreatDoorCards
import Derived.Test.YtkaolpnbddjdpaaGreatDoorTie
import Derived.Test.YtkaolpnbddjdpaaGreatDoorG60
import Derived.Test.YtkaolpnbddjdpaaGreatDoorG61
import Derived.Test.YtkaolpnbddjdpaaGreatDoorG62
import Derived.Test.YtkaolpnbddjdpaaGreatDoorG63
import Derived.Test.YtkaolpnbddjdpaaGreatDoorG64
namespace Go.Proofs.YtkaolpnbddjdpaaGreatDoor
open Go.ChangeShapes Go.WideShapes Go.ChangeAt Go.RowKit Go.Joins
open Go.ChangeMaps (open_string shut_string)
set_option linter.unusedVariables false
namespace fnExactParcelIx
theorem tPow : (Tryz.prog.globals[1]?).map (·.type) = some 237 := by kernel_rfl
theorem vars {W : World} (hL : laidMetH Tryz.prog Rows.fnExactParcelIxRow.laid W) : VarsAt W := by
  rw [MakeChecks.laidMetH_plain _ _ _ (by kernel_rfl)] at hL
  have h2 := laidMet.tail (laidMet.tail hL)
  have h4 := laidMet.tail (laidMet.tail h2)
  exact ⟨Lib.tabIs_of_head gPow tPow Tryz.underlying237 Tryz.underlying77 (by kernel_rfl) (by kernel_rfl) h2, tab_at (laidMet.tail (laidMet.tail h4)), ⟨err_at (laidMet.tail h4) gSyn tSyn, err_at h4 gRng tRng⟩⟩
/-- Block A holds the parcel. -/
structure LP (A t : Nat) (w W : World) (p : Pcl) (v : Value) : Prop where
  bel : Below w.heap.size w W
  blk : W.heap[A]? = some (.cells #[.string p.frm, .string p.to, .int .i64 p.num, v] t)
  row : PclR W v p
  var : VarsAt W
theorem LP.below {A t : Nat} {w W W' : World} {p : Pcl} {v : Value} (h : LP A t w W p v) (hb : Below W.heap.size W W') : LP A t w W' p v :=
  ⟨h.bel.trans (hb.mono h.bel.size), (hb.block A (Array.getElem?_eq_some_iff.1 h.blk).1).trans h.blk, h.row.below hb, h.var.below hb⟩
theorem LP.cells {A t : Nat} {w W : World} {p : Pcl} {v : Value} (h : LP A t w W p v) : W.cell? ⟨A, 0, none⟩ = some (.string p.frm) ∧ W.cell? ⟨A, 1, none⟩ = some (.string p.to) ∧ W.cell? ⟨A, 2, none⟩ = some (.int .i64 p.num) ∧ W.cell? ⟨A, 3, none⟩ = some (v) := by
  have h1 := h.blk
  refine ⟨?_, ?_, ?_, ?_⟩ <;> simp [World.cell?, h1]
theorem below_of_tame {lo hi n : Nat} {W W' : World} (h : Tame lo hi W W') (hn : n ≤ lo) (hl : lo ≤ W.heap.size) : Below n W W' :=
  ⟨h.os, h.tape, h.output, h.size, fun k hk => h.block k (by omega) (.inl (by omega))⟩
set_option maxRecDepth 20000 in
set_option maxHeartbeats 16000000 in
theorem walk (p : Pcl) (u : Value) (w : World) (h : PclR w u p ∧ ∀ q ∈ p.papers, PapI q) (hL : laidMetH Tryz.prog Rows.fnExactParcelIxRow.laid w) :
    Calls Tryz.prog 5 #[.agg #[.string p.frm, .string p.to, .int .i64 p.num, u]] w fun e w' => e = .returned (.bool true) ∧ Below w.heap.size w w' := by
  obtain ⟨h, hI⟩ := h
  have HI : Hid (∀ q ∈ p.papers, PapI q) := hI
  have hV := vars hL
  clear hL hI
  obtain ⟨A0, c0, rfl⟩ := h.ps.val
  have b1 : Below w.heap.size w (w.alloc (.cells #[.string p.frm, .string p.to, .int .i64 p.num, .slice A0 p.papers.length c0] 37)) := (Below.refl _ _).alloc (Nat.le_refl _) _
  have h0 : LP w.heap.size 37 w (w.alloc (.cells #[.string p.frm, .string p.to, .int .i64 p.num, .slice A0 p.papers.length c0] 37)) p (.slice A0 p.papers.length c0) := ⟨b1, World.alloc_heap_new w _, h.below b1, hV.below b1⟩
  clear h b1 hV
  obtain ⟨y, hy⟩ : ∃ y, ixT p = y := ⟨_, rfl⟩
  have HS : Hid (∀ W v, PclR W v p → BdPc 1048576 p → Calls Tryz.prog 18 #[.agg #[.string p.frm, .string p.to, .int .i64 p.num, v]] W fun e w' => ∃ u, e = .returned (.agg #[.string y.frm, .string y.to, .int .i64 y.num, u]) ∧ RI w' u y ∧ Below W.heap.size W w') := fun W v h1 h2 => by
    refine (parcelIx_spec p v W h1 HI.out h2).mono ?_
    rintro e w' ⟨u, bs, rfl, h3, h4, h5⟩
    rw [← hy]
    exact ⟨u, rfl, (h3.riT h4 h2).1, h5⟩
  have HM : Hid (∀ W v, PclR W v p → BdPc 1048576 p → VarsAt W → Calls Tryz.prog 19 #[.agg #[.string p.frm, .string p.to, .int .i64 p.num, v]] W fun e w' => ∃ u bs, e = .returned (.agg #[.string y.frm, .string y.to, .int .i64 y.num, u]) ∧ OwnBs W.heap.size w' u bs ∧ RI w' u y ∧ SepBs bs ∧ (∀ x ∈ bs, BdyB x) ∧ bs.length ≤ 5 ∧ (∀ W2, OwnBs W.heap.size W2 u bs → RI W2 u y) ∧ Below W.heap.size W w') := fun W v h1 h2 h3 => by
    refine (parcelIx_impl p v W h1 HI.out h2 h3).mono ?_
    rintro e w' ⟨u, bs, rfl, g3, g4, g5, g6⟩
    rw [← hy]
    exact ⟨u, bs, rfl, g3, (g3.riT g4 h2).1, g6, (g3.bdy g4).1, (g3.bdy g4).2, fun W2 hO => (hO.riT g4 h2).1, g5⟩
  clear hy
  go_enter Tryz.func5, Tryz.ntmps5
  go_wp2_with fail
  refine (szPc_any p _ 1048576 _ h0.row (by omega)).mono ?_
  rintro e w1 ⟨r, rfl, hr, hb1⟩
  have H1 : Hid (LP w.heap.size 37 w w1 p (.slice A0 p.papers.length c0)) := h0.below hb1
  clear hb1 h0
  rcases hr with rfl | ⟨g0, g1, hP⟩
  · go_wp2
    go_ret
    exact ⟨rfl, H1.out.bel⟩
  · have g0' : ¬ r < 0 := by omega
    have HP : Hid (BdPc 1048576 p) := hP
    clear hP g1
    obtain ⟨x0, x1, x2, x3⟩ := H1.out.cells
    go_wp2_with fail
    refine (toPc_any p _ _ H1.out.row HP.out).mono ?_
    rintro e w2 ⟨v2, rfl, hR2, hb2⟩
    have H2 : Hid (LP w.heap.size 37 w w2 p (.slice A0 p.papers.length c0) ∧ PclR w2 v2 p) := ⟨H1.out.below hb2, hR2⟩
    clear hb2 hR2 x0 x1 x2 x3
    go_wp2_with fail
    refine (HS.out _ _ H2.out.2 HP.out).mono ?_
    rintro e w3 ⟨u3, rfl, hR3, hb3⟩
    obtain ⟨E3, F3, rfl⟩ := hR3.ls.val
    obtain ⟨W3, hW3⟩ : ∃ W3, w3.alloc (.cells #[.string y.frm, .string y.to, .int .i64 y.num, .slice E3 y.buns.length F3] 44) = W3 := ⟨_, rfl⟩
    have bW3 : Below w3.heap.size w3 W3 := by rw [← hW3]; exact (Below.refl _ _).alloc (Nat.le_refl _) _
    have nW3 : W3.heap[w3.heap.size]? = some (.cells #[.string y.frm, .string y.to, .int .i64 y.num, .slice E3 y.buns.length F3] 44) := by rw [← hW3]; exact World.alloc_heap_new _ _
    have zW3 : W3.heap.size = w3.heap.size + 1 := by rw [← hW3]; simp
    obtain ⟨M, eM⟩ : ∃ M, M = w3.heap.size := ⟨_, rfl⟩
    have HDW3 : Hid (w3.alloc (.cells #[.string y.frm, .string y.to, .int .i64 y.num, .slice E3 y.buns.length F3] 44) = W3 ∧ M = w3.heap.size) := ⟨hW3, eM⟩
    rw [← eM] at nW3
    have H3 : Hid (LP w.heap.size 37 w W3 p (.slice A0 p.papers.length c0) ∧ RI W3 (.slice E3 y.buns.length F3) y ∧ W3.heap[M]? = some (.cells #[.string y.frm, .string y.to, .int .i64 y.num, .slice E3 y.buns.length F3] 44) ∧ M < W3.heap.size) := ⟨(H2.out.1.below hb3).below bW3, hR3.below bW3, nW3, by omega⟩
    clear hb3 hR3 bW3 nW3 zW3 hW3 eM
    go_upto_region 6 with fail
    try rw [HDW3.out.1]
    try rw [← HDW3.out.2]
    clear HDW3
    obtain ⟨x0, x1, x2, x3⟩ := H3.out.1.cells
    go_wp2_with fail
    refine (toPc_own p _ _ H3.out.1.row HP.out).mono ?_
    rintro e w5 ⟨v5, rfl, hO5, hb5⟩
    have s5 := hb5.size
    obtain ⟨A5, c5, hv5⟩ := (hO5.row HP.out.2.2).val
    subst hv5
    have hr5 : PclR w5 (.slice A5 p.papers.length c5) p := ⟨hO5.row HP.out.2.2, H3.out.1.row.fz, H3.out.1.row.tz⟩
    obtain ⟨W5, hW5⟩ : ∃ W5, w5.alloc (.cells #[.string p.frm, .string p.to, .int .i64 p.num, .slice A5 p.papers.length c5] 27) = W5 := ⟨_, rfl⟩
    have bW5 : Below w5.heap.size w5 W5 := by rw [← hW5]; exact (Below.refl _ _).alloc (Nat.le_refl _) _
    have nW5 : W5.heap[w5.heap.size]? = some (.cells #[.string p.frm, .string p.to, .int .i64 p.num, .slice A5 p.papers.length c5] 27) := by rw [← hW5]; exact World.alloc_heap_new _ _
    have zW5 : W5.heap.size = w5.heap.size + 1 := by rw [← hW5]; simp
    obtain ⟨X, eX⟩ : ∃ X, X = w5.heap.size := ⟨_, rfl⟩
    have HDW5 : Hid (w5.alloc (.cells #[.string p.frm, .string p.to, .int .i64 p.num, .slice A5 p.papers.length c5] 27) = W5 ∧ X = w5.heap.size) := ⟨hW5, eX⟩
    rw [← eX] at nW5
    have S5 : Hid (ShPs W3.heap.size w5.heap.size W5 (.slice A5 p.papers.length c5) p.papers ∧ Below W3.heap.size W3 W5) := ⟨(hO5.sh (Nat.le_refl _) (Nat.le_refl _)).tame (Tame.of_below bW5), hb5.trans (bW5.mono s5)⟩
    have H5 : Hid (LP w.heap.size 37 w W5 p (.slice A0 p.papers.length c0) ∧ LP X 27 w W5 p (.slice A5 p.papers.length c5) ∧ W5.heap.size = w5.heap.size + 1 ∧ X = w5.heap.size) := ⟨(H3.out.1.below hb5).below bW5, ⟨((H3.out.1.below hb5).below bW5).bel, nW5, hr5.below bW5, ((H3.out.1.below hb5).below bW5).var⟩, zW5, eX⟩
    clear hb5 hO5 hr5 bW5 nW5 zW5 hW5 eX x0 x1 x2 x3
    go_upto_region 7 with fail
    try rw [HDW5.out.1]
    try rw [← HDW5.out.2]
    clear HDW5
    obtain ⟨x0, x1, x2, x3⟩ := H5.out.2.1.cells
    go_wp2_with fail
    refine (HM.out _ _ H5.out.2.1.row HP.out H5.out.2.1.var).mono ?_
    rintro e w9 ⟨u9, bs9, rfl, hO9, hR9, hsp, hbd, h5, hri, hb9⟩
    have HQ : Hid (SepBs bs9 ∧ (∀ x ∈ bs9, BdyB x) ∧ bs9.length ≤ 5 ∧ ∀ W2, OwnBs W5.heap.size W2 u9 bs9 → RI W2 u9 y) := ⟨hsp, hbd, h5, hri⟩
    clear hsp hbd h5 hri
    obtain ⟨E9, F9, rfl⟩ := hR9.ls.val
    have s9 := hb9.size
    obtain ⟨W9, hW9⟩ : ∃ W9, w9.alloc (.cells #[.string y.frm, .string y.to, .int .i64 y.num, .slice E9 y.buns.length F9] 44) = W9 := ⟨_, rfl⟩
    have bW9 : Below w9.heap.size w9 W9 := by rw [← hW9]; exact (Below.refl _ _).alloc (Nat.le_refl _) _
    have nW9 : W9.heap[w9.heap.size]? = some (.cells #[.string y.frm, .string y.to, .int .i64 y.num, .slice E9 y.buns.length F9] 44) := by rw [← hW9]; exact World.alloc_heap_new _ _
    have zW9 : W9.heap.size = w9.heap.size + 1 := by rw [← hW9]; simp
    obtain ⟨Gb, eGb⟩ : ∃ Gb, Gb = w9.heap.size := ⟨_, rfl⟩
    have HDW9 : Hid (w9.alloc (.cells #[.string y.frm, .string y.to, .int .i64 y.num, .slice E9 y.buns.length F9] 44) = W9 ∧ Gb = w9.heap.size) := ⟨hW9, eGb⟩
    rw [← eGb] at nW9
    have H9 : Hid (∀ W, Below W9.heap.size W9 W → LP w.heap.size 37 w W p (.slice A0 p.papers.length c0) ∧ LP X 27 w W p (.slice A5 p.papers.length c5) ∧ W.heap[M]? = some (.cells #[.string y.frm, .string y.to, .int .i64 y.num, .slice E3 y.buns.length F3] 44) ∧ RI W (.slice E3 y.buns.length F3) y ∧ W.heap[Gb]? = some (.cells #[.string y.frm, .string y.to, .int .i64 y.num, .slice E9 y.buns.length F9] 44) ∧ OwnBs W5.heap.size W (.slice E9 y.buns.length F9) bs9 ∧ ShPs W3.heap.size w5.heap.size W (.slice A5 p.papers.length c5) p.papers ∧ Below W3.heap.size W3 W) := fun W hW => by
      have k5 : Below W5.heap.size W5 W := (hb9.trans (bW9.mono s9)).trans (hW.mono (by omega))
      have k3 : Below W3.heap.size W3 W := S5.out.2.trans (k5.mono (by have := H5.out.2.2.1; omega))
      have k9 : Below w9.heap.size w9 W := bW9.trans (hW.mono (by omega))
      exact ⟨H5.out.1.below k5, H5.out.2.1.below k5, (k3.block M H3.out.2.2.2).trans H3.out.2.2.1, H3.out.2.1.below k3, (hW.block Gb (by omega)).trans nW9, hO9.below k9, S5.out.1.tame (Tame.of_below k5), k3⟩
    have HN : Hid (W5.heap.size ≤ Gb ∧ Gb < W9.heap.size ∧ W3.heap.size ≤ w5.heap.size ∧ w5.heap.size < W5.heap.size ∧ W5.heap.size ≤ W9.heap.size ∧ M < W3.heap.size) := ⟨by omega, by omega, s5, by have := H5.out.2.2.1; omega, by omega, H3.out.2.2.2⟩
    clear hb9 hO9 hR9 bW9 nW9 zW9 hW9 eGb s9 x0 x1 x2 x3 S5 H5
    go_upto_region 8 with fail
    try rw [HDW9.out.1]
    try rw [← HDW9.out.2]
    clear HDW9
    obtain ⟨i1, i2, i3, i4, i5, i6, i7⟩ := H9.out W9 (Below.refl _ _)
    obtain ⟨_, x0, x1, x2, x3⟩ := ix4 i3
    obtain ⟨_, y0, y1, y2, y3⟩ := ix4 i5
    clear i1 i2 i3 i4 i5 i6 i7
    go_wp2_with fail
    refine (eqI_any y _ _ _ (HQ.out.2.2.2 _ (H9.out W9 (Below.refl _ _)).2.2.2.2.2.1) (H9.out W9 (Below.refl _ _)).2.2.2.1).mono ?_
    rintro e w10 ⟨rfl, hb10⟩
    have H10 : Hid (∀ W, Below w10.heap.size w10 W → LP w.heap.size 37 w W p (.slice A0 p.papers.length c0) ∧ LP X 27 w W p (.slice A5 p.papers.length c5) ∧ W.heap[M]? = some (.cells #[.string y.frm, .string y.to, .int .i64 y.num, .slice E3 y.buns.length F3] 44) ∧ RI W (.slice E3 y.buns.length F3) y ∧ W.heap[Gb]? = some (.cells #[.string y.frm, .string y.to, .int .i64 y.num, .slice E9 y.buns.length F9] 44) ∧ OwnBs W5.heap.size W (.slice E9 y.buns.length F9) bs9 ∧ ShPs W3.heap.size w5.heap.size W (.slice A5 p.papers.length c5) p.papers ∧ Below W3.heap.size W3 W) := fun W hW => H9.out W (hb10.trans (hW.mono hb10.size))
    have HS10 : Hid (W9.heap.size ≤ w10.heap.size) := hb10.size
    clear hb10 x0 x1 x2 x3 y0 y1 y2 y3 H9
    obtain ⟨x0, x1, x2, x3⟩ := (H10.out w10 (Below.refl _ _)).1.cells
    obtain ⟨y0, y1, y2, y3⟩ := (H10.out w10 (Below.refl _ _)).2.1.cells
    go_upto_region 10 with fail
    go_region_held3 (fun W => (W.cell? ⟨w.heap.size, 0, none⟩ = some (.string p.frm) ∧ W.cell? ⟨w.heap.size, 1, none⟩ = some (.string p.to) ∧ W.cell? ⟨w.heap.size, 2, none⟩ = some (.int .i64 p.num) ∧ W.cell? ⟨w.heap.size, 3, none⟩ = some (.slice A0 p.papers.length c0)) ∧ W.cell? ⟨X, 0, none⟩ = some (.string p.frm) ∧ W.cell? ⟨X, 1, none⟩ = some (.string p.to) ∧ W.cell? ⟨X, 2, none⟩ = some (.int .i64 p.num) ∧ W.cell? ⟨X, 3, none⟩ = some (.slice A5 p.papers.length c5)) (go_keep) (first | (go_at_call 15; refine (toPc_any p _ _ (by first | exact (H10.out _ (Below.refl _ _)).1.row | exact (H10.out _ (Below.refl _ _).drew).1.row) HP.out).mono ?_; rintro e wa ⟨va, rfl, hRa, hba⟩; have ba : Below w10.heap.size w10 wa := (by first | exact hba | exact undrewP hba); obtain ⟨a0, a1, a2, a3⟩ := (H10.out wa ba).1.cells; obtain ⟨b0, b1, b2, b3⟩ := (H10.out wa ba).2.1.cells; clear hba; try dsimp only) | (go_at_call 17; refine (eqPc_any p _ _ _ (by first | exact (H10.out _ ba).2.1.row | exact (H10.out _ ba.drew).2.1.row) (by first | exact hRa | exact hRa.below (Below.refl _ _).drew)).mono ?_; rintro e wb ⟨rfl, hbb⟩; have bb : Below w10.heap.size w10 wb := ba.trans ((by first | exact hbb | exact undrewP hbb : Below wa.heap.size wa wb).mono ba.size); obtain ⟨f0, f1, f2, f3⟩ := (H10.out wb bb).1.cells; obtain ⟨g0, g1, g2, g3⟩ := (H10.out wb bb).2.1.cells; clear hbb; try dsimp only) | fail)
    rename_i hHeld
    clear hHeld
    obtain ⟨j1, j2, j3, j4, j5, j6, j7, j8⟩ := H10.out wb bb
    have HB : Hid (LP w.heap.size 37 w wb p (.slice A0 p.papers.length c0) ∧ LP X 27 w wb p (.slice A5 p.papers.length c5) ∧ wb.heap[M]? = some (.cells #[.string y.frm, .string y.to, .int .i64 y.num, .slice E3 y.buns.length F3] 44) ∧ RI wb (.slice E3 y.buns.length F3) y ∧ wb.heap[Gb]? = some (.cells #[.string y.frm, .string y.to, .int .i64 y.num, .slice E9 y.buns.length F9] 44) ∧ OwnBs W5.heap.size wb (.slice E9 y.buns.length F9) bs9 ∧ ShPs W3.heap.size w5.heap.size wb (.slice A5 p.papers.length c5) p.papers ∧ Below W3.heap.size W3 wb) := ⟨j1, j2, j3, j4, j5, j6, j7, j8⟩
    have HSb : Hid (W9.heap.size ≤ wb.heap.size) := Nat.le_trans HS10.out bb.size
    clear j1 j2 j3 j4 j5 j6 j7 j8 x0 x1 x2 x3 y0 y1 y2 y3 a0 a1 a2 a3 b0 b1 b2 b3 f0 f1 f2 f3 g0 g1 g2 g3 ba bb hRa H10
    obtain ⟨x0, x1, x2, x3⟩ := HB.out.2.1.cells
    have hpb : ∀ q ∈ p.papers, q.notes.length ≤ 1048576 ∧ q.lines.length ≤ 1048576 := fun q hq => by
      obtain ⟨i, hi⟩ := List.getElem?_of_mem hq
      have := HP.out.2.2.2 i q hi
      exact ⟨this.2.2.1.1, this.2.2.2.1⟩
    have hpl := HP.out.2.2.1
    have hcp : offR cPp p.papers p.papers.length ≤ 6291460 * p.papers.length := offR_le (fun q hq => by have := hpb q hq; unfold cPp; omega) _ (Nat.le_refl _)
    have hkz : ¬ ((1 + offR cPp p.papers p.papers.length : Nat) : Int) < 0 := by omega
    have HPB : Hid ((∀ q ∈ p.papers, q.notes.length ≤ 1048576 ∧ q.lines.length ≤ 1048576)) := hpb
    have hcb : 1 + offR cPp p.papers p.papers.length < 1125899906842624 := by omega
    clear hpb hcp
    go_wp2_with fail
    refine (markPc_w p.frm p.to p.num _ p.papers W3.heap.size w5.heap.size 1 _ HB.out.2.2.2.2.2.2.1 hpl HPB.out (by omega) hcb).mono ?_
    rintro e w11 ⟨rfl, hT⟩
    have k3 : Below W3.heap.size wb w11 := below_of_tame hT (Nat.le_refl _) (Nat.le_trans (by have := HN.out; omega) HSb.out)
    have hT2 : ∀ g, W5.heap.size ≤ g → g < wb.heap.size → w11.heap[g]? = wb.heap[g]? := fun g g1 g2 => hT.block g g2 (.inr (by have := HN.out; omega))
    have C3 : Hid (∀ W, Below W3.heap.size W3 W → LP w.heap.size 37 w W p (.slice A0 p.papers.length c0) ∧ W.heap[M]? = some (.cells #[.string y.frm, .string y.to, .int .i64 y.num, .slice E3 y.buns.length F3] 44) ∧ RI W (.slice E3 y.buns.length F3) y) := fun W q3 => ⟨H3.out.1.below q3, (q3.block M H3.out.2.2.2).trans H3.out.2.2.1, H3.out.2.1.below q3⟩
    have H11 : Hid (∀ W, Below w11.heap.size w11 W → Below W3.heap.size W3 W ∧ W.heap[Gb]? = some (.cells #[.string y.frm, .string y.to, .int .i64 y.num, .slice E9 y.buns.length F9] 44) ∧ OwnBs W5.heap.size W (.slice E9 y.buns.length F9) bs9) := fun W hW => by
      have q3 : Below W3.heap.size W3 W := (HB.out.2.2.2.2.2.2.2.trans k3).trans (hW.mono (Nat.le_trans (Nat.le_trans (by have := HN.out; omega) HSb.out) hT.size))
      have hgl : Gb < wb.heap.size := by have := HN.out; have := HSb.out; omega
      exact ⟨q3, (hW.block Gb (Nat.lt_of_lt_of_le hgl hT.size)).trans ((hT2 Gb HN.out.1 hgl).trans HB.out.2.2.2.2.1), (HB.out.2.2.2.2.2.1.keepB hT2).below hW⟩
    have HS11 : Hid (W9.heap.size ≤ w11.heap.size) := Nat.le_trans HSb.out hT.size
    clear hT k3 hT2 x0 x1 x2 x3 HB hcb
    obtain ⟨i1, i2, i3⟩ := H11.out w11 (Below.refl _ _)
    obtain ⟨_, x0, x1, x2, x3⟩ := ix4 (C3.out w11 i1).2.1
    obtain ⟨_, y0, y1, y2, y3⟩ := ix4 i2
    clear i1 i2 i3
    go_wp2_with fail
    refine (eqI_any y _ _ _ (HQ.out.2.2.2 _ (H11.out w11 (Below.refl _ _)).2.2) (C3.out w11 (H11.out w11 (Below.refl _ _)).1).2.2).mono ?_
    rintro e w12 ⟨rfl, hb12⟩
    have H12 : Hid (∀ W, Below w12.heap.size w12 W → Below W3.heap.size W3 W ∧ W.heap[Gb]? = some (.cells #[.string y.frm, .string y.to, .int .i64 y.num, .slice E9 y.buns.length F9] 44) ∧ OwnBs W5.heap.size W (.slice E9 y.buns.length F9) bs9) := fun W hW => H11.out W (hb12.trans (hW.mono hb12.size))
    have HS12 : Hid (W9.heap.size ≤ w12.heap.size) := Nat.le_trans HS11.out hb12.size
    clear hb12 x0 x1 x2 x3 y0 y1 y2 y3 H11 hkz
    obtain ⟨_, y0, y1, y2, y3⟩ := ix4 (H12.out w12 (Below.refl _ _)).2.1
    have hk5 : 1 + 16412 * bs9.length ≤ 99900 := by have := HQ.out.2.2.1; omega
    go_wp2_with fail
    refine (markI_own y.frm y.to y.num _ bs9 W5.heap.size 1 _ (H12.out w12 (Below.refl _ _)).2.2 HQ.out.1 HQ.out.2.1 (by have := HN.out; have := HS12.out; omega) (by omega) hk5).mono ?_
    rintro e w13 ⟨rfl, hM, hbM, hkM⟩
    have H13 : Hid (∀ W, Below w13.heap.size w13 W → Below W3.heap.size W3 W ∧ W.heap[Gb]? = some (.cells #[.string y.frm, .string y.to, .int .i64 y.num, .slice E9 y.buns.length F9] 44) ∧ MkBs 1 W (.slice E9 y.buns.length F9) bs9) := fun W hW => by
      obtain ⟨i1, i2, i3⟩ := H12.out w12 (Below.refl _ _)
      have hs : w12.heap.size ≤ w13.heap.size := hbM.size
      exact ⟨i1.trans ((hbM.mono (by have := HN.out; omega)).trans (hW.mono (by have := HN.out; have := HS12.out; omega))), (hW.block Gb (by have := HN.out; have := HS12.out; omega)).trans ((hkM Gb _ i2).trans i2), MkR.below hM (fun _ _ _ _ h hb => MkMs.belowB h hb) hW⟩
    have HS13 : Hid (W9.heap.size ≤ w13.heap.size) := Nat.le_trans HS12.out hbM.size
    clear hM hbM hkM y0 y1 y2 y3 H12
    obtain ⟨_, y0, y1, y2, y3⟩ := ix4 (H13.out w13 (Below.refl _ _)).2.1
    go_wp2_with fail
    refine (heldI_own y.frm y.to y.num _ bs9 1 _ (H13.out w13 (Below.refl _ _)).2.2 HQ.out.2.1 (by omega) hk5).mono ?_
    rintro e w14 ⟨rfl, hb14⟩
    have H14 : Hid (∀ W, Below w14.heap.size w14 W → Below W3.heap.size W3 W ∧ W.heap[Gb]? = some (.cells #[.string y.frm, .string y.to, .int .i64 y.num, .slice E9 y.buns.length F9] 44) ∧ MkBs 1 W (.slice E9 y.buns.length F9) bs9) := fun W hW => H13.out W (hb14.trans (hW.mono hb14.size))
    have HS14 : Hid (W9.heap.size ≤ w14.heap.size) := Nat.le_trans HS13.out hb14.size
    have hkz2 : ¬ ((1 + offR cBn bs9 bs9.length : Nat) : Int) < 0 := by omega
    clear hb14 y0 y1 y2 y3 H13
    obtain ⟨x0, x1, x2, x3⟩ := (C3.out w14 (H14.out w14 (Below.refl _ _)).1).1.cells
    go_wp2_with fail
    refine (toPc_any p _ _ (C3.out w14 (H14.out w14 (Below.refl _ _)).1).1.row HP.out).mono ?_
    rintro e w15 ⟨v15, rfl, hR15, hb15⟩
    have H15 : Hid (PclR w15 v15 p ∧ VarsAt w15 ∧ Below w14.heap.size w14 w15) := ⟨hR15, (C3.out w15 (H14.out w15 hb15).1).1.var, hb15⟩
    clear hR15 hb15 x0 x1 x2 x3
    go_wp2_with fail
    refine (HM.out _ _ H15.out.1 HP.out H15.out.2.1).mono ?_
    rintro e w16 ⟨u16, bs16, rfl, _, hR16, _, _, _, _, hb16⟩
    obtain ⟨E6, F6, rfl⟩ := hR16.ls.val
    have s16 := hb16.size
    have s15 := H15.out.2.2.size
    obtain ⟨W16, hW16⟩ : ∃ W16, w16.alloc (.cells #[.string y.frm, .string y.to, .int .i64 y.num, .slice E6 y.buns.length F6] 44) = W16 := ⟨_, rfl⟩
    have bW16 : Below w16.heap.size w16 W16 := by rw [← hW16]; exact (Below.refl _ _).alloc (Nat.le_refl _) _
    have nW16 : W16.heap[w16.heap.size]? = some (.cells #[.string y.frm, .string y.to, .int .i64 y.num, .slice E6 y.buns.length F6] 44) := by rw [← hW16]; exact World.alloc_heap_new _ _
    have zW16 : W16.heap.size = w16.heap.size + 1 := by rw [← hW16]; simp
    obtain ⟨Hh, eHh⟩ : ∃ Hh, Hh = w16.heap.size := ⟨_, rfl⟩
    have HDW16 : Hid (w16.alloc (.cells #[.string y.frm, .string y.to, .int .i64 y.num, .slice E6 y.buns.length F6] 44) = W16 ∧ Hh = w16.heap.size) := ⟨hW16, eHh⟩
    rw [← eHh] at nW16
    have H16 : Hid (∀ W, Below W16.heap.size W16 W → Below W3.heap.size W3 W ∧ W.heap[Gb]? = some (.cells #[.string y.frm, .string y.to, .int .i64 y.num, .slice E9 y.buns.length F9] 44) ∧ MkBs 1 W (.slice E9 y.buns.length F9) bs9 ∧ W.heap[Hh]? = some (.cells #[.string y.frm, .string y.to, .int .i64 y.num, .slice E6 y.buns.length F6] 44) ∧ RI W (.slice E6 y.buns.length F6) y) := fun W hW => by
      have q16 : Below w16.heap.size w16 W := bW16.trans (hW.mono (by omega))
      have q14 : Below w14.heap.size w14 W := (H15.out.2.2.trans (hb16.mono s15)).trans (q16.mono (by omega))
      obtain ⟨i1, i2, i3⟩ := H14.out W q14
      exact ⟨i1, i2, i3, (hW.block Hh (by omega)).trans nW16, hR16.below q16⟩
    clear hb16 hR16 bW16 nW16 zW16 hW16 eHh s16 s15 H15 H14
    go_upto_region 25 with fail
    try rw [HDW16.out.1]
    try rw [← HDW16.out.2]
    clear HDW16
    obtain ⟨_, x0, x1, x2, x3⟩ := ix4 (C3.out W16 (H16.out W16 (Below.refl _ _)).1).2.1
    obtain ⟨_, y0, y1, y2, y3⟩ := ix4 (H16.out W16 (Below.refl _ _)).2.2.2.1
    go_wp2_with fail
    refine (eqI_any y _ _ _ (H16.out W16 (Below.refl _ _)).2.2.2.2 (C3.out W16 (H16.out W16 (Below.refl _ _)).1).2.2).mono ?_
    rintro e w17 ⟨rfl, hb17⟩
    have H17 : Hid (∀ W, Below w17.heap.size w17 W → Below W3.heap.size W3 W ∧ W.heap[Gb]? = some (.cells #[.string y.frm, .string y.to, .int .i64 y.num, .slice E9 y.buns.length F9] 44) ∧ MkBs 1 W (.slice E9 y.buns.length F9) bs9) := fun W hW => by
      obtain ⟨i1, i2, i3, _⟩ := H16.out W (hb17.trans (hW.mono hb17.size))
      exact ⟨i1, i2, i3⟩
    clear hb17 x0 x1 x2 x3 y0 y1 y2 y3 H16
    obtain ⟨_, y0, y1, y2, y3⟩ := ix4 (H17.out w17 (Below.refl _ _)).2.1
    go_wp2_with fail
    refine (heldI_own y.frm y.to y.num _ bs9 1 _ (H17.out w17 (Below.refl _ _)).2.2 HQ.out.2.1 (by omega) hk5).mono ?_
    rintro e w18 ⟨rfl, hb18⟩
    have H18 : Hid (Below w.heap.size w w18) := (C3.out w18 (H17.out w18 hb18).1).1.bel
    clear hb18 y0 y1 y2 y3 H17
    go_wp2
    go_ret
    exact ⟨rfl, H18.out⟩
theorem own : ownKnob Tryz.prog.godebug = none := by kernel_rfl
theorem laidOut : laidOutB Tryz.prog = true := by kernel_rfl
set_option maxRecDepth 100000 in
theorem lifted (os : Os) (started : os.Started) (H : Type) (enc : TypeId × Value → H) :
    ReturnsInHanded {} Tryz.checked os 5 .any (fun w args => (Rows.fnExactParcelIxSpec.pre enc Tryz.prog Tryz.f5 [] false w args ∧ laidMetH Tryz.prog Rows.fnExactParcelIxRow.laid w) ∧ sizedMet enc Tryz.prog Tryz.f5 (OpenSpec.ofChange Rows.fnExactParcelIxSpec) false w args)
      (Rows.fnExactParcelIxSpec.post enc Tryz.prog Tryz.f5 false true false false) := by
  refine returnsInHanded_of_change_and (C := Tryz.checked) (X := fun w _ => laidMetH Tryz.prog Rows.fnExactParcelIxRow.laid w) (fun _ _ _ hh h => h.of_heap hh) own started (by kernel_rfl) Tryz.func5
    (ChangeSpec.witness_shaped (enc := enc) (C := Tryz.checked) (os := os) (X := fun w _ => laidMetH Tryz.prog Rows.fnExactParcelIxRow.laid w) false (World.laidAll Tryz.prog os Rows.fnExactParcelIxRow.laid) #[.agg #[.string ⟨#[]⟩, .string ⟨#[]⟩, .int .i64 0, .slice none 0 0]] 8 (World.laidAll_os _ _ _) (World.shaped_of_ZipB (by kernel_rfl) (by kernel_rfl)) (by kernel_rfl) (by kernel_rfl) (by kernel_rfl) (by rw [MakeChecks.laidMetH_plain _ _ _ (by kernel_rfl)]; exact laidMet_laidAll _ (by kernel_rfl) (by kernel_rfl))) ?_
  intro W base args ds gs before hval0 hW hcnd _ hL _
  have hval : ∀ (j : Nat) t v, Tryz.f5.params[j]? = some t → args[j]? = some v → Value.okWide Tryz.prog W .any base t v := hval0
  have hW' := hW
  obtain ⟨p, q, hA0, hV, rfl, hfz, hnd⟩ := hW
  have hA : DataW.TrodAll enc Tryz.prog W 0 (fun _ => true) true Tryz.f5.params.toList args.toList ds p := hA0
  rw [Tryz.params5] at hA hval
  obtain ⟨v0, vs0, d0, ds0, p0, q0, hargs, rfl, rfl, h0, r0⟩ := trodAll_cons hA
  obtain ⟨rfl, rfl, rfl⟩ := trodAll_nil r0
  obtain rfl : args = #[v0] := by cases args; simp_all
  obtain ⟨_, _, _, _, gd, _, rfl, _⟩ := trodVars_one hV
  have k0 := h0
  have lt0 : ∀ x ∈ p0, x.block < W.heap.size := by obtain ⟨m, hm⟩ := k0; exact DataW.trod_lt m _ _ _ hm
  obtain ⟨q0, up0, rfl, hr0⟩ := openPc (hval 0 37 v0 rfl rfl) h0
  clear hA0 hval0
  refine (walk q0 up0 W hr0 hL).mono fun e W' ⟨he, bel⟩ => ?_
  subst he
  exact ⟨_, rfl, _, _, _, [], _, _, hW', trodAll_mk1 (shut_bool Tryz.underlying4 _), (trodAll_cons_mk (Below.trod laidOut (by kernel_rfl) (of_decide_eq_true (by kernel_rfl)) k0 bel lt0) trodAll_mk0), Below.trodVars laidOut bel (by kernel_rfl) hV, bel.frame _, fun h => by cases h⟩
theorem over : Rows.fnExactParcelIxRow.holds Tryz.pinned (OpenSpec.ofChange Rows.fnExactParcelIxSpec) :=
  OpenClaim.holds_of_wide 5 Tryz.f5 rfl rfl rfl rfl rfl rfl rfl ⟨rfl, rfl, rfl, rfl, rfl⟩ rfl rfl rfl rfl rfl (by kernel_rfl) Tryz.func5 (by kernel_rfl)
    (of_decide_eq_true (by kernel_rfl)) (by unfold Func.isWrapper; first | (rw [if_pos (by decide +kernel)]; kernel_rfl) | (rw [if_neg (by decide +kernel)]; exact ⟨rfl, rfl⟩))
    (fun os started H enc _ => lifted os started H enc)
theorem card : Rows.FnExactParcelIxCardSaid :=
  Claim7.holds_tied_plain_at .later [] [.data, .data, .data, .data, .sentinel, .sentinel, .widerDeep, .pinned] true (true, "75a818dcedb87f3b567250b7e6a3939ca15e222a5953dcefa2fa328d87bbd818") true
    over (fun _ h => by cases h) (by kernel_rfl) (fun _ h => by cases h) fnExactParcelIx_row_tie rfl ⟨rfl, rfl⟩ (by kernel_rfl) rfl
    (fun f fn hf hfn => by
      obtain rfl : f = 5 := Option.some.inj ((show Tryz.prog.funcNamed "loop.example/g00096/laws.FnExactParcelIx" = some 5 by kernel_rfl).symm.trans hf) |>.symm
      obtain rfl : fn = Tryz.f5 := (Option.some.inj (Tryz.func5.symm.trans hfn)).symm
      exact ⟨by kernel_rfl, fun j t ht => by
        rw [Tryz.params5] at ht
        have hj : Tryz.prog.wantsStandIn t = false := by
          rcases j with _ | j
          · have e : t = 37 := by simpa using ht.symm
            subst e
            exact (show Tryz.prog.wantsStandIn 37 = false by kernel_rfl)
          simp at ht
        exact hj⟩)
    (by kernel_rfl)
end fnExactParcelIx
theorem fnExactParcelIx_holds : Rows.FnExactParcelIxCardSaid := fnExactParcelIx.card
#print axioms fnExactParcelIx_holds
end Go.Proofs.YtkaolpnbddjdpaaGreatDoor
