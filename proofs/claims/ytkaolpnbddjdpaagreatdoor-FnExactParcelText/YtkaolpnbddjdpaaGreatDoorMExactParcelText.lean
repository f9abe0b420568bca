/- ParcelText answers at every four release numbers and every parcel as the model does, and writes into no argument. Conditions: none but what the card ties. -/
import Derived.Test.YtkaolpnbddjdpaaGreatDoorG50
import Derived.Test.YtkaolpnbddjdpaaGreatDoorG35
import Derived.Test.YtkaolpnbddjdpaaGreatDoorG36
import Derived.Test.YtkaolpnbddjdpaaGreatDoorG37
import Derived.LaidLaws
import Derived.Stop.LaidErr
import Derived.Deep.RegionHeld3
import Derived.Test.YtkaolpnbddjdpaaGreatDoorCards
import Derived.Test.YtkaolpnbddjdpaaGreatDoorTie
import Derived.Lib.SmallJoins
import Derived.OpenVars
import Derived.Stop.Joined
import Derived.LaidMore
import Derived.SevenTiedAt
import Derived.Lay
import Derived.MakeChecks
namespace Go.Proofs.YtkaolpnbddjdpaaGreatDoor
open Go.ChangeShapes Go.WideShapes Go.ChangeAt Go.RowKit Go.Joins
open Go.ChangeMaps (open_string shut_string)
set_option linter.unusedVariables false
namespace fnExactParcelText
theorem tPow : (Tryz.prog.globals[1]?).map (·.type) = some 237 := by kernel_rfl
theorem vars {W : World} (hL : laidMetH Tryz.prog Rows.fnExactParcelTextRow.laid W) : VarsAt W := by
  rw [MakeChecks.laidMetH_plain _ _ _ (by kernel_rfl)] at hL
  have h2 := laidMet.tail (laidMet.tail hL)
  have h4 := laidMet.tail (laidMet.tail h2)
  exact ⟨Lib.tabIs_of_head gPow tPow Tryz.underlying237 Tryz.underlying77 (by kernel_rfl) (by kernel_rfl) h2, tab_at (laidMet.tail (laidMet.tail h4)), ⟨err_at (laidMet.tail h4) gSyn tSyn, err_at h4 gRng tRng⟩⟩
/-- Block A holds the parcel. -/
structure LP (A t : Nat) (w W : World) (p : Pcl) (v : Value) : Prop where
  bel : Below w.heap.size w W
  blk : W.heap[A]? = some (.cells #[.string p.frm, .string p.to, .int .i64 p.num, v] t)
  row : PclR W v p
  var : VarsAt W
theorem LP.below {A t : Nat} {w W W' : World} {p : Pcl} {v : Value} (h : LP A t w W p v) (hb : Below W.heap.size W W') : LP A t w W' p v :=
  ⟨h.bel.trans (hb.mono h.bel.size), (hb.block A (Array.getElem?_eq_some_iff.1 h.blk).1).trans h.blk, h.row.below hb, h.var.below hb⟩
theorem LP.cells {A t : Nat} {w W : World} {p : Pcl} {v : Value} (h : LP A t w W p v) : W.cell? ⟨A, 0, none⟩ = some (.string p.frm) ∧ W.cell? ⟨A, 1, none⟩ = some (.string p.to) ∧ W.cell? ⟨A, 2, none⟩ = some (.int .i64 p.num) ∧ W.cell? ⟨A, 3, none⟩ = some (v) := by
  have h1 := h.blk
  refine ⟨?_, ?_, ?_, ?_⟩ <;> simp [World.cell?, h1]
set_option maxRecDepth 20000 in
set_option maxHeartbeats 16000000 in
theorem walk (a b c d : Int) (p : Pcl) (u : Value) (w : World) (h : PclR w u p ∧ ∀ q ∈ p.papers, PapI q) (hL : laidMetH Tryz.prog Rows.fnExactParcelTextRow.laid w) :
    Calls Tryz.prog 6 #[.agg #[.int .i64 a, .int .i64 b, .int .i64 c, .int .i64 d], .agg #[.string p.frm, .string p.to, .int .i64 p.num, u]] w fun e w' => e = .returned (.bool true) ∧ Below w.heap.size w w' := by
  obtain ⟨h, hI⟩ := h
  have HI : Hid (∀ q ∈ p.papers, PapI q) := hI
  have hV := vars hL
  clear hL hI
  obtain ⟨A0, c0, rfl⟩ := h.ps.val
  obtain ⟨W0, hW0⟩ : ∃ W0, (w.alloc (.cells #[.int .i64 a, .int .i64 b, .int .i64 c, .int .i64 d] 49)).alloc (.cells #[.string p.frm, .string p.to, .int .i64 p.num, .slice A0 p.papers.length c0] 37) = W0 := ⟨_, rfl⟩
  have b1 : Below w.heap.size w W0 := by rw [← hW0]; exact ((Below.refl _ _).alloc (Nat.le_refl _) _).alloc (by simp) _
  have hx0 : W0.heap[w.heap.size]? = some (.cells #[.int .i64 a, .int .i64 b, .int .i64 c, .int .i64 d] 49) := by
    rw [← hW0, (Below.alloc (Below.refl (w.alloc (.cells #[.int .i64 a, .int .i64 b, .int .i64 c, .int .i64 d] 49)).heap.size (w.alloc (.cells #[.int .i64 a, .int .i64 b, .int .i64 c, .int .i64 d] 49))) (Nat.le_refl _) (.cells #[.string p.frm, .string p.to, .int .i64 p.num, .slice A0 p.papers.length c0] 37)).block w.heap.size (by simp)]
    exact World.alloc_heap_new w _
  have hy0 : W0.heap[w.heap.size + 1]? = some (.cells #[.string p.frm, .string p.to, .int .i64 p.num, .slice A0 p.papers.length c0] 37) := by
    rw [← hW0]
    have := World.alloc_heap_new (w.alloc (.cells #[.int .i64 a, .int .i64 b, .int .i64 c, .int .i64 d] 49)) (.cells #[.string p.frm, .string p.to, .int .i64 p.num, .slice A0 p.papers.length c0] 37)
    simpa using this
  have h0 : LP (w.heap.size + 1) 37 w W0 p (.slice A0 p.papers.length c0) := ⟨b1, hy0, h.below b1, hV.below b1⟩
  have K0 : Hid (∀ W, Below W0.heap.size W0 W → (LP (w.heap.size + 1) 37 w W p (.slice A0 p.papers.length c0)) ∧ W.heap[w.heap.size]? = some (.cells #[.int .i64 a, .int .i64 b, .int .i64 c, .int .i64 d] 49)) := fun W hW => ⟨h0.below hW, (hW.block _ (Array.getElem?_eq_some_iff.1 hx0).1).trans hx0⟩
  have HW0 : Hid ((w.alloc (.cells #[.int .i64 a, .int .i64 b, .int .i64 c, .int .i64 d] 49)).alloc (.cells #[.string p.frm, .string p.to, .int .i64 p.num, .slice A0 p.papers.length c0] 37) = W0) := hW0
  clear h b1 hV hx0 hy0 h0 hW0
  go_enter Tryz.func6, Tryz.ntmps6
  obtain ⟨x0, x1, x2, x3⟩ := (K0.out W0 (Below.refl _ _)).1.cells; obtain ⟨_, xs0, xs1, xs2, xs3⟩ := ix4 (K0.out W0 (Below.refl _ _)).2
  go_upto_region 2 with fail
  try rw [HW0.out]
  go_wp2_with fail
  refine (szPc_any p _ 1048576 _ (K0.out W0 (Below.refl _ _)).1.row (by omega)).mono ?_
  rintro e w1 ⟨r, rfl, hr, hb1⟩
  have K1 : Hid (∀ W, Below w1.heap.size w1 W → (LP (w.heap.size + 1) 37 w W p (.slice A0 p.papers.length c0)) ∧ W.heap[w.heap.size]? = some (.cells #[.int .i64 a, .int .i64 b, .int .i64 c, .int .i64 d] 49)) := fun W hW => K0.out W (hb1.trans (hW.mono hb1.size))
  clear hb1 x0 x1 x2 x3 xs0 xs1 xs2 xs3
  rcases hr with rfl | ⟨g0, g1, hP⟩
  · go_wp2
    go_ret
    exact ⟨rfl, (K1.out w1 (Below.refl _ _)).1.bel⟩
  have g0' : ¬ r < 0 := by omega
  have HP : Hid (BdPc 1048576 p) := hP
  clear hP
  obtain ⟨x0, x1, x2, x3⟩ := (K1.out w1 (Below.refl _ _)).1.cells; obtain ⟨_, xs0, xs1, xs2, xs3⟩ := ix4 (K1.out w1 (Below.refl _ _)).2
  go_upto_region 5 with fail
  have bq : Below w1.heap.size w1 w1 := Below.refl _ _
  go_region_held3 (fun W => (W.cell? ⟨w.heap.size, 0, none⟩ = some (.int .i64 a) ∧ W.cell? ⟨w.heap.size, 1, none⟩ = some (.int .i64 b) ∧ W.cell? ⟨w.heap.size, 2, none⟩ = some (.int .i64 c) ∧ W.cell? ⟨w.heap.size, 3, none⟩ = some (.int .i64 d)) ∧ W.cell? ⟨(w.heap.size + 1), 0, none⟩ = some (.string p.frm) ∧ W.cell? ⟨(w.heap.size + 1), 1, none⟩ = some (.string p.to) ∧ W.cell? ⟨(w.heap.size + 1), 2, none⟩ = some (.int .i64 p.num) ∧ W.cell? ⟨(w.heap.size + 1), 3, none⟩ = some (.slice A0 p.papers.length c0)) (go_keep) (first | (go_at_call 24; refine (toSyntax_any a b c d _).mono ?_; rintro e wa ⟨rfl, hb⟩; have bp := bp.trans (Below.mono (by first | exact hb | exact undrewP hb) bp.size); have bq := bq.trans (Below.mono (by first | exact hb | exact undrewP hb) bq.size); obtain ⟨j0, j1, j2, j3⟩ := (K1.out wa bq).1.cells; obtain ⟨_, js0, js1, js2, js3⟩ := ix4 (K1.out wa bq).2; clear hb; try dsimp only) | (go_at_call 24; refine (toSyntax_any a b c d _).mono ?_; rintro e wa ⟨rfl, hb⟩; have bq := bq.trans (Below.mono (by first | exact hb | exact undrewP hb) bq.size); obtain ⟨k0, k1, k2, k3⟩ := (K1.out wa bq).1.cells; obtain ⟨_, ks0, ks1, ks2, ks3⟩ := ix4 (K1.out wa bq).2; clear hb; try dsimp only) | (go_at_call 15; refine (toPc_any p _ _ (by first | exact (K1.out _ bq).1.row | exact (K1.out _ bq.drew).1.row) HP.out).mono ?_; rintro e wb ⟨va, rfl, hRa, hb⟩; have bq := bq.trans (Below.mono (by first | exact hb | exact undrewP hb) bq.size); have bp : Below wb.heap.size wb wb := Below.refl _ _; obtain ⟨l0, l1, l2, l3⟩ := (K1.out wb bq).1.cells; obtain ⟨_, ls0, ls1, ls2, ls3⟩ := ix4 (K1.out wb bq).2; clear hb; try dsimp only) | (go_at_call 9; refine (parcelText_spec a b c d p _ _ (by first | exact hRa.below bp | exact hRa.below bp.drew) HI.out HP.out).mono ?_; rintro e we ⟨rfl, hb⟩; have bq := bq.trans (Below.mono (by first | exact hb | exact undrewP hb) bq.size); obtain ⟨m0, m1, m2, m3⟩ := (K1.out we bq).1.cells; obtain ⟨_, ms0, ms1, ms2, ms3⟩ := ix4 (K1.out we bq).2; clear hb; try dsimp only) | fail)
  all_goals
    rename_i hHeld
    clear hHeld
    have K2 : Hid (∀ W, Below we.heap.size we W → (LP (w.heap.size + 1) 37 w W p (.slice A0 p.papers.length c0)) ∧ W.heap[w.heap.size]? = some (.cells #[.int .i64 a, .int .i64 b, .int .i64 c, .int .i64 d] 49)) := fun W hW => K1.out W (bq.trans (hW.mono bq.size))
    obtain ⟨tx, htx⟩ : ∃ tx, ptxT a b c d p = tx := ⟨_, rfl⟩
    have HX : Hid (ptxT a b c d p = tx) := htx
    rw [htx]
    clear bq bp hRa htx x0 x1 x2 x3 xs0 xs1 xs2 xs3 l0 l1 l2 l3 ls0 ls1 ls2 ls3 m0 m1 m2 m3 ms0 ms1 ms2 ms3
    obtain ⟨x0, x1, x2, x3⟩ := (K2.out we (Below.refl _ _)).1.cells; obtain ⟨_, xs0, xs1, xs2, xs3⟩ := ix4 (K2.out we (Below.refl _ _)).2
    go_wp2_with fail
    refine (toPc_any p _ _ (K2.out we (Below.refl _ _)).1.row HP.out).mono ?_
    rintro e w4 ⟨v4, rfl, hR4, hb4⟩
    obtain ⟨A4, c4, hv4⟩ := hR4.ps.val
    subst hv4
    obtain ⟨W5, hW5⟩ : ∃ W5, w4.alloc (.cells #[.string p.frm, .string p.to, .int .i64 p.num, .slice A4 p.papers.length c4] 27) = W5 := ⟨_, rfl⟩
    have b5 : Below w4.heap.size w4 W5 := by rw [← hW5]; exact (Below.refl _ _).alloc (Nat.le_refl _) _
    have y5 : W5.heap[w4.heap.size]? = some (.cells #[.string p.frm, .string p.to, .int .i64 p.num, .slice A4 p.papers.length c4] 27) := by rw [← hW5]; exact World.alloc_heap_new _ _
    have hk5 := K2.out W5 (hb4.trans (b5.mono hb4.size))
    obtain ⟨X, hX⟩ : ∃ X, X = w4.heap.size := ⟨_, rfl⟩
    rw [← hX] at y5
    have K5 : Hid (∀ W, Below W5.heap.size W5 W → LP (w.heap.size + 1) 37 w W p (.slice A0 p.papers.length c0) ∧ LP X 27 w W p (.slice A4 p.papers.length c4) ∧ W.heap[w.heap.size]? = some (.cells #[.int .i64 a, .int .i64 b, .int .i64 c, .int .i64 d] 49)) := fun W hW => ⟨hk5.1.below hW, (⟨hk5.1.bel, y5, hR4.below b5, hk5.1.var⟩ : LP X 27 w W5 p (.slice A4 p.papers.length c4)).below hW, (hW.block _ (Array.getElem?_eq_some_iff.1 hk5.2).1).trans hk5.2⟩
    have HD5 : Hid (w4.alloc (.cells #[.string p.frm, .string p.to, .int .i64 p.num, .slice A4 p.papers.length c4] 27) = W5 ∧ X = w4.heap.size) := ⟨hW5, hX⟩
    clear hW5 hX y5 b5 hb4 hR4 hk5 x0 x1 x2 x3 xs0 xs1 xs2 xs3
    go_upto_region 7 with fail
    try rw [HD5.out.1]
    try rw [← HD5.out.2]
    clear HD5
    obtain ⟨x0, x1, x2, x3⟩ := (K5.out W5 (Below.refl _ _)).2.1.cells
    obtain ⟨_, xs0, xs1, xs2, xs3⟩ := ix4 (K5.out W5 (Below.refl _ _)).2.2
    have bq : Below W5.heap.size W5 W5 := Below.refl _ _
    go_region_held3 (fun W => (W.cell? ⟨w.heap.size, 0, none⟩ = some (.int .i64 a) ∧ W.cell? ⟨w.heap.size, 1, none⟩ = some (.int .i64 b) ∧ W.cell? ⟨w.heap.size, 2, none⟩ = some (.int .i64 c) ∧ W.cell? ⟨w.heap.size, 3, none⟩ = some (.int .i64 d)) ∧ W.cell? ⟨X, 0, none⟩ = some (.string p.frm) ∧ W.cell? ⟨X, 1, none⟩ = some (.string p.to) ∧ W.cell? ⟨X, 2, none⟩ = some (.int .i64 p.num) ∧ W.cell? ⟨X, 3, none⟩ = some (.slice A4 p.papers.length c4)) (go_keep) (first | (go_at_call 24; refine (toSyntax_any a b c d _).mono ?_; rintro e wa ⟨rfl, hb⟩; have bq := bq.trans (Below.mono (by first | exact hb | exact undrewP hb) bq.size); obtain ⟨j0, j1, j2, j3⟩ := (K5.out wa bq).2.1.cells; obtain ⟨_, js0, js1, js2, js3⟩ := ix4 (K5.out wa bq).2.2; clear hb; try dsimp only) | (go_at_call 10; refine (parcelText_impl a b c d p _ _ (by first | exact (K5.out _ bq).2.1.row | exact (K5.out _ bq.drew).2.1.row) HI.out HP.out (by first | exact (K5.out _ bq).2.1.var | exact (K5.out _ bq.drew).2.1.var)).mono ?_; rintro e we ⟨rfl, hb⟩; have bq := bq.trans (Below.mono (by first | exact hb | exact undrewP hb) bq.size); obtain ⟨k0, k1, k2, k3⟩ := (K5.out we bq).2.1.cells; obtain ⟨_, ks0, ks1, ks2, ks3⟩ := ix4 (K5.out we bq).2.2; clear hb; try dsimp only) | fail)
    rename_i hHeld
    clear hHeld
    rw [HX.out]
    have K7 : Hid (∀ W, Below we.heap.size we W → LP (w.heap.size + 1) 37 w W p (.slice A0 p.papers.length c0) ∧ LP X 27 w W p (.slice A4 p.papers.length c4) ∧ W.heap[w.heap.size]? = some (.cells #[.int .i64 a, .int .i64 b, .int .i64 c, .int .i64 d] 49)) := fun W hW => K5.out W (bq.trans (hW.mono bq.size))
    clear bq x0 x1 x2 x3 xs0 xs1 xs2 xs3 k0 k1 k2 k3 ks0 ks1 ks2 ks3
    obtain ⟨x0, x1, x2, x3⟩ := (K7.out we (Below.refl _ _)).1.cells
    obtain ⟨y0, y1, y2, y3⟩ := (K7.out we (Below.refl _ _)).2.1.cells
    go_upto_region 10 with fail
    have bq : Below we.heap.size we we := Below.refl _ _
    go_region_held3 (fun W => (W.cell? ⟨(w.heap.size + 1), 0, none⟩ = some (.string p.frm) ∧ W.cell? ⟨(w.heap.size + 1), 1, none⟩ = some (.string p.to) ∧ W.cell? ⟨(w.heap.size + 1), 2, none⟩ = some (.int .i64 p.num) ∧ W.cell? ⟨(w.heap.size + 1), 3, none⟩ = some (.slice A0 p.papers.length c0)) ∧ W.cell? ⟨X, 0, none⟩ = some (.string p.frm) ∧ W.cell? ⟨X, 1, none⟩ = some (.string p.to) ∧ W.cell? ⟨X, 2, none⟩ = some (.int .i64 p.num) ∧ W.cell? ⟨X, 3, none⟩ = some (.slice A4 p.papers.length c4)) (go_keep) (first | (go_at_call 15; refine (toPc_any p _ _ (by first | exact (K7.out _ bq).1.row | exact (K7.out _ bq.drew).1.row) HP.out).mono ?_; rintro e wa ⟨va, rfl, hRa, hb⟩; have bq := bq.trans (Below.mono (by first | exact hb | exact undrewP hb) bq.size); obtain ⟨j0, j1, j2, j3⟩ := (K7.out wa bq).1.cells; obtain ⟨js0, js1, js2, js3⟩ := (K7.out wa bq).2.1.cells; clear hb; try dsimp only) | (go_at_call 17; refine (eqPc_any p _ _ _ (by first | exact (K7.out _ bq).2.1.row | exact (K7.out _ bq.drew).2.1.row) (by first | exact hRa | exact hRa.below (Below.refl _ _).drew)).mono ?_; rintro e we ⟨rfl, hb⟩; have bq := bq.trans (Below.mono (by first | exact hb | exact undrewP hb) bq.size); obtain ⟨k0, k1, k2, k3⟩ := (K7.out we bq).1.cells; obtain ⟨ks0, ks1, ks2, ks3⟩ := (K7.out we bq).2.1.cells; clear hb; try dsimp only) | fail)
    rename_i hHeld
    clear hHeld
    have HE := (K7.out we bq).1.bel
    go_wp2
    go_ret
    exact ⟨rfl, HE⟩
theorem own : ownKnob Tryz.prog.godebug = none := by kernel_rfl
theorem laidOut : laidOutB Tryz.prog = true := by kernel_rfl
theorem cellsSyn : Tryz.prog.cellsOf 49 = 4 := by kernel_rfl
set_option maxRecDepth 100000 in
theorem lifted (os : Os) (started : os.Started) (H : Type) (enc : TypeId × Value → H) :
    ReturnsInHanded {} Tryz.checked os 6 .any (fun w args => (Rows.fnExactParcelTextSpec.pre enc Tryz.prog Tryz.f6 [] false w args ∧ laidMetH Tryz.prog Rows.fnExactParcelTextRow.laid w) ∧ sizedMet enc Tryz.prog Tryz.f6 (OpenSpec.ofChange Rows.fnExactParcelTextSpec) false w args)
      (Rows.fnExactParcelTextSpec.post enc Tryz.prog Tryz.f6 false true false false) := by
  refine returnsInHanded_of_change_and (C := Tryz.checked) (X := fun w _ => laidMetH Tryz.prog Rows.fnExactParcelTextRow.laid w) (fun _ _ _ hh h => h.of_heap hh) own started (by kernel_rfl) Tryz.func6
    (ChangeSpec.witness_shaped (enc := enc) (C := Tryz.checked) (os := os) (X := fun w _ => laidMetH Tryz.prog Rows.fnExactParcelTextRow.laid w) false (World.laidAll Tryz.prog os Rows.fnExactParcelTextRow.laid) #[.agg #[.int .i64 0, .int .i64 0, .int .i64 0, .int .i64 0], .agg #[.string ⟨#[]⟩, .string ⟨#[]⟩, .int .i64 0, .slice none 0 0]] 8 (World.laidAll_os _ _ _) (World.shaped_of_ZipB (by kernel_rfl) (by kernel_rfl)) (by kernel_rfl) (by kernel_rfl) (by kernel_rfl) (by rw [MakeChecks.laidMetH_plain _ _ _ (by kernel_rfl)]; exact laidMet_laidAll _ (by kernel_rfl) (by kernel_rfl))) ?_
  intro W base args ds gs before hval0 hW hcnd _ hL _
  have hval : ∀ (j : Nat) t v, Tryz.f6.params[j]? = some t → args[j]? = some v → Value.okWide Tryz.prog W .any base t v := hval0
  have hW' := hW
  obtain ⟨p, q, hA0, hV, rfl, hfz, hnd⟩ := hW
  have hA : DataW.TrodAll enc Tryz.prog W 0 (fun _ => true) true Tryz.f6.params.toList args.toList ds p := hA0
  rw [Tryz.params6] at hA hval
  obtain ⟨v0, vs0, d0, ds0, p0, q0, hargs, rfl, rfl, h0, r0⟩ := trodAll_cons hA
  obtain ⟨v1, vs1, d1, ds1, p1, q1, rfl, rfl, rfl, h1, r1⟩ := trodAll_cons r0
  obtain ⟨rfl, rfl, rfl⟩ := trodAll_nil r1
  obtain rfl : args = #[v0, v1] := by cases args; simp_all
  obtain ⟨_, _, _, _, gd, _, rfl, _⟩ := trodVars_one hV
  have k0 := h0
  have lt0 : ∀ x ∈ p0, x.block < W.heap.size := by obtain ⟨m, hm⟩ := k0; exact DataW.trod_lt m _ _ _ hm
  obtain ⟨a0, b0, c0, e0, rfl⟩ : ∃ a b c d : Int, v0 = .agg #[.int .i64 a, .int .i64 b, .int .i64 c, .int .i64 d] := by
    obtain ⟨c0, c1, c2, c3, y0, y1, y2, y3, m, rfl, _, _, hy0, hy1, hy2, hy3⟩ := open_agg4 Tryz.underlying49 (by kernel_rfl) cellsSyn (hval 0 49 v0 rfl rfl) h0
    obtain ⟨a, e0, _, _⟩ := DataW.trod_int Tryz.underlying2 hy0
    obtain ⟨b, e1, _, _⟩ := DataW.trod_int Tryz.underlying2 hy1
    obtain ⟨c, e2, _, _⟩ := DataW.trod_int Tryz.underlying2 hy2
    obtain ⟨d, e3, _, _⟩ := DataW.trod_int Tryz.underlying2 hy3
    simp at e0 e1 e2 e3
    subst e0 e1 e2 e3
    exact ⟨a, b, c, d, rfl⟩
  have k1 := h1
  have lt1 : ∀ x ∈ p1, x.block < W.heap.size := by obtain ⟨m, hm⟩ := k1; exact DataW.trod_lt m _ _ _ hm
  obtain ⟨q1, up1, rfl, hr1⟩ := openPc (hval 1 37 v1 rfl rfl) h1
  clear hA0 hval0
  refine (walk a0 b0 c0 e0 q1 up1 W hr1 hL).mono fun e W' ⟨he, bel⟩ => ?_
  subst he
  exact ⟨_, rfl, _, _, _, [], _, _, hW', trodAll_mk1 (shut_bool Tryz.underlying4 _), (trodAll_cons_mk (Below.trod laidOut (by kernel_rfl) (of_decide_eq_true (by kernel_rfl)) k0 bel lt0) (trodAll_cons_mk (Below.trod laidOut (by kernel_rfl) (of_decide_eq_true (by kernel_rfl)) k1 bel lt1) trodAll_mk0)), Below.trodVars laidOut bel (by kernel_rfl) hV, bel.frame _, fun h => by cases h⟩
theorem over : Rows.fnExactParcelTextRow.holds Tryz.pinned (OpenSpec.ofChange Rows.fnExactParcelTextSpec) :=
  OpenClaim.holds_of_wide 6 Tryz.f6 rfl rfl rfl rfl rfl rfl rfl ⟨rfl, rfl, rfl, rfl, rfl⟩ rfl rfl rfl rfl rfl (by kernel_rfl) Tryz.func6 (by kernel_rfl)
    (of_decide_eq_true (by kernel_rfl)) (by unfold Func.isWrapper; first | (rw [if_pos (by decide +kernel)]; kernel_rfl) | (rw [if_neg (by decide +kernel)]; exact ⟨rfl, rfl⟩))
    (fun os started H enc _ => lifted os started H enc)
theorem card : Rows.FnExactParcelTextCardSaid :=
  Claim7.holds_tied_plain_at .later [] [.data, .data, .data, .data, .sentinel, .sentinel, .widerDeep, .pinned] true (true, "75a818dcedb87f3b567250b7e6a3939ca15e222a5953dcefa2fa328d87bbd818") true
    over (fun _ h => by cases h) (by kernel_rfl) (fun _ h => by cases h) fnExactParcelText_row_tie rfl ⟨rfl, rfl⟩ (by kernel_rfl) rfl
    (fun f fn hf hfn => by
      obtain rfl : f = 6 := Option.some.inj ((show Tryz.prog.funcNamed "loop.example/g00096/laws.FnExactParcelText" = some 6 by kernel_rfl).symm.trans hf) |>.symm
      obtain rfl : fn = Tryz.f6 := (Option.some.inj (Tryz.func6.symm.trans hfn)).symm
      exact ⟨by kernel_rfl, fun j t ht => by
        rw [Tryz.params6] at ht
        have hj : Tryz.prog.wantsStandIn t = false := by
          rcases j with _ | j
          · have e : t = 49 := by simpa using ht.symm
            subst e
            exact (show Tryz.prog.wantsStandIn 49 = false by kernel_rfl)
          rcases j with _ | j
          · have e : t = 37 := by simpa using ht.symm
            subst e
            exact (show Tryz.prog.wantsStandIn 37 = false by kernel_rfl)
          simp at ht
        exact hj⟩)
    (by kernel_rfl)
end fnExactParcelText
theorem fnExactParcelText_holds : Rows.FnExactParcelTextCardSaid := fnExactParcelText.card
#print axioms fnExactParcelText_holds
end Go.Proofs.YtkaolpnbddjdpaaGreatDoor
