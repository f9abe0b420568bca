/- ParcelRight answers at every parcel as the model does, and writes into no argument. Conditions: none but what the card ties. -/
import Derived.Test.YtkaolpnbddjdpaaGreatDoorG34
import Derived.Test.YtkaolpnbddjdpaaGreatDoorG35
import Derived.Test.YtkaolpnbddjdpaaGreatDoorG36
import Derived.Test.YtkaolpnbddjdpaaGreatDoorG37
import Derived.LaidLaws
import Derived.Stop.LaidErr
import Derived.Deep.RegionHeld3
import Derived.Test.YtkaolpnbddjdpaaGreatDoorCards
import Derived.Test.YtkaolpnbddjdpaaGreatDoorTie
import Derived.Lib.SmallJoins
import Derived.OpenVars
import Derived.Stop.Joined
import Derived.LaidMore
import Derived.SevenTiedAt
import Derived.Lay
import Derived.MakeChecks
namespace Go.Proofs.YtkaolpnbddjdpaaGreatDoor
open Go.ChangeShapes Go.WideShapes Go.ChangeAt Go.RowKit Go.Joins
open Go.ChangeMaps (open_string shut_string)
set_option linter.unusedVariables false
namespace fnExactParcelRight
theorem tPow : (Tryz.prog.globals[1]?).map (·.type) = some 237 := by kernel_rfl
theorem vars {W : World} (hL : laidMetH Tryz.prog Rows.fnExactParcelRightRow.laid W) : VarsAt W := by
  rw [MakeChecks.laidMetH_plain _ _ _ (by kernel_rfl)] at hL
  have h2 := laidMet.tail (laidMet.tail hL)
  have h4 := laidMet.tail (laidMet.tail h2)
  exact ⟨Lib.tabIs_of_head gPow tPow Tryz.underlying237 Tryz.underlying77 (by kernel_rfl) (by kernel_rfl) h2, tab_at (laidMet.tail (laidMet.tail h4)), ⟨err_at (laidMet.tail h4) gSyn tSyn, err_at h4 gRng tRng⟩⟩
/-- Block A holds the parcel. -/
structure LP (A t : Nat) (w W : World) (p : Pcl) (v : Value) : Prop where
  bel : Below w.heap.size w W
  blk : W.heap[A]? = some (.cells #[.string p.frm, .string p.to, .int .i64 p.num, v] t)
  row : PclR W v p
  var : VarsAt W
theorem LP.below {A t : Nat} {w W W' : World} {p : Pcl} {v : Value} (h : LP A t w W p v) (hb : Below W.heap.size W W') : LP A t w W' p v :=
  ⟨h.bel.trans (hb.mono h.bel.size), (hb.block A (Array.getElem?_eq_some_iff.1 h.blk).1).trans h.blk, h.row.below hb, h.var.below hb⟩
theorem LP.cells {A t : Nat} {w W : World} {p : Pcl} {v : Value} (h : LP A t w W p v) : W.cell? ⟨A, 0, none⟩ = some (.string p.frm) ∧ W.cell? ⟨A, 1, none⟩ = some (.string p.to) ∧ W.cell? ⟨A, 2, none⟩ = some (.int .i64 p.num) ∧ W.cell? ⟨A, 3, none⟩ = some (v) := by
  have h1 := h.blk
  refine ⟨?_, ?_, ?_, ?_⟩ <;> simp [World.cell?, h1]
set_option maxRecDepth 20000 in
set_option maxHeartbeats 8000000 in
theorem walk (p : Pcl) (u : Value) (w : World) (h : PclR w u p ∧ ∀ q ∈ p.papers, PapI q) (hL : laidMetH Tryz.prog Rows.fnExactParcelRightRow.laid w) :
    Calls Tryz.prog 4 #[.agg #[.string p.frm, .string p.to, .int .i64 p.num, u]] w fun e w' => e = .returned (.bool true) ∧ Below w.heap.size w w' := by
  obtain ⟨h, hI⟩ := h
  have HI : Hid (∀ q ∈ p.papers, PapI q) := hI
  have hV := vars hL
  clear hL hI
  obtain ⟨A0, c0, rfl⟩ := h.ps.val
  have b1 : Below w.heap.size w (w.alloc (.cells #[.string p.frm, .string p.to, .int .i64 p.num, .slice A0 p.papers.length c0] 37)) := (Below.refl _ _).alloc (Nat.le_refl _) _
  have h0 : LP w.heap.size 37 w (w.alloc (.cells #[.string p.frm, .string p.to, .int .i64 p.num, .slice A0 p.papers.length c0] 37)) p (.slice A0 p.papers.length c0) := ⟨b1, World.alloc_heap_new w _, h.below b1, hV.below b1⟩
  clear h b1 hV
  go_enter Tryz.func4, Tryz.ntmps4
  go_wp2_with fail
  refine (szPc_any p _ 1048576 _ h0.row (by omega)).mono ?_
  rintro e w1 ⟨r, rfl, hr, hb1⟩
  have H1 : Hid (LP w.heap.size 37 w w1 p (.slice A0 p.papers.length c0)) := h0.below hb1
  clear hb1 h0
  rcases hr with rfl | ⟨g0, g1, hP⟩
  · go_wp2
    go_ret
    exact ⟨rfl, H1.out.bel⟩
  · have g0' : ¬ r < 0 := by omega
    have HP : Hid (BdPc 1048576 p) := hP
    clear hP
    obtain ⟨x0, x1, x2, x3⟩ := H1.out.cells
    go_wp2_with fail
    refine (toPc_any p _ _ H1.out.row HP.out).mono ?_
    rintro e w2 ⟨v2, rfl, hR2, hb2⟩
    have H2 : Hid (LP w.heap.size 37 w w2 p (.slice A0 p.papers.length c0) ∧ PclR w2 v2 p) := ⟨H1.out.below hb2, hR2⟩
    clear hb2 hR2 x0 x1 x2 x3
    go_wp2_with fail
    refine (parcelRight_spec p _ _ H2.out.2 HI.out HP.out).mono ?_
    rintro e w3 ⟨rfl, hb3⟩
    have H3 : Hid (LP w.heap.size 37 w w3 p (.slice A0 p.papers.length c0)) := H2.out.1.below hb3
    obtain ⟨pb, hpb⟩ : ∃ pb, pb = pclB p := ⟨_, rfl⟩
    have HPB : Hid (pb = pclB p) := hpb
    rw [← hpb]
    clear hb3 hpb
    obtain ⟨x0, x1, x2, x3⟩ := H3.out.cells
    go_wp2_with fail
    refine (toPc_any p _ _ H3.out.row HP.out).mono ?_
    rintro e w4 ⟨v4, rfl, hR4, hb4⟩
    obtain ⟨A4, c4, hv4⟩ := hR4.ps.val
    subst hv4
    obtain ⟨W5, hW5⟩ : ∃ W5, w4.alloc (.cells #[.string p.frm, .string p.to, .int .i64 p.num, .slice A4 p.papers.length c4] 27) = W5 := ⟨_, rfl⟩
    have b5 : Below w4.heap.size w4 W5 := by rw [← hW5]; exact (Below.refl _ _).alloc (Nat.le_refl _) _
    have y5 : W5.heap[w4.heap.size]? = some (.cells #[.string p.frm, .string p.to, .int .i64 p.num, .slice A4 p.papers.length c4] 27) := by rw [← hW5]; exact World.alloc_heap_new _ _
    have hl5 := (H3.out.below hb4).below b5
    obtain ⟨X, hX⟩ : ∃ X, X = w4.heap.size := ⟨_, rfl⟩
    rw [← hX] at y5
    have H5 : Hid (LP w.heap.size 37 w W5 p (.slice A0 p.papers.length c0) ∧ LP X 27 w W5 p (.slice A4 p.papers.length c4)) := ⟨hl5, hl5.bel, y5, hR4.below b5, hl5.var⟩
    have HD5 : Hid (w4.alloc (.cells #[.string p.frm, .string p.to, .int .i64 p.num, .slice A4 p.papers.length c4] 27) = W5 ∧ X = w4.heap.size) := ⟨hW5, hX⟩
    clear hW5 hX y5 b5 hb4 hR4 hl5 x0 x1 x2 x3
    go_upto_region 7 with fail
    try rw [HD5.out.1]
    try rw [← HD5.out.2]
    clear HD5
    obtain ⟨x0, x1, x2, x3⟩ := H5.out.2.cells
    go_wp2_with fail
    refine (parcelRight_impl p _ _ H5.out.2.row HI.out HP.out H5.out.2.var).mono ?_
    rintro e w6 ⟨rfl, hb6⟩
    rw [← HPB.out]
    have H6 : Hid (∀ W, Below w6.heap.size w6 W → LP w.heap.size 37 w W p (.slice A0 p.papers.length c0) ∧ LP X 27 w W p (.slice A4 p.papers.length c4)) := fun W hW => ⟨(H5.out.1.below hb6).below hW, (H5.out.2.below hb6).below hW⟩
    clear hb6 x0 x1 x2 x3
    obtain ⟨x0, x1, x2, x3⟩ := (H6.out w6 (Below.refl _ _)).1.cells
    obtain ⟨y0, y1, y2, y3⟩ := (H6.out w6 (Below.refl _ _)).2.cells
    have hne : (pb != pb) = false := by simp
    go_upto_region 10 with fail
    go_region_held3 (fun W => (W.cell? ⟨w.heap.size, 0, none⟩ = some (.string p.frm) ∧ W.cell? ⟨w.heap.size, 1, none⟩ = some (.string p.to) ∧ W.cell? ⟨w.heap.size, 2, none⟩ = some (.int .i64 p.num) ∧ W.cell? ⟨w.heap.size, 3, none⟩ = some (.slice A0 p.papers.length c0)) ∧ W.cell? ⟨X, 0, none⟩ = some (.string p.frm) ∧ W.cell? ⟨X, 1, none⟩ = some (.string p.to) ∧ W.cell? ⟨X, 2, none⟩ = some (.int .i64 p.num) ∧ W.cell? ⟨X, 3, none⟩ = some (.slice A4 p.papers.length c4)) (go_keep) (first | (go_at_call 15; refine (toPc_any p _ _ (by first | exact (H6.out _ (Below.refl _ _)).1.row | exact (H6.out _ (Below.refl _ _).drew).1.row) HP.out).mono ?_; rintro e wa ⟨va, rfl, hRa, hba⟩; have ba : Below w6.heap.size w6 wa := (by first | exact hba | exact undrewP hba); obtain ⟨a0, a1, a2, a3⟩ := (H6.out wa ba).1.cells; obtain ⟨b0, b1, b2, b3⟩ := (H6.out wa ba).2.cells; clear hba; try dsimp only) | (go_at_call 17; refine (eqPc_any p _ _ _ (by first | exact (H6.out _ ba).2.row | exact (H6.out _ ba.drew).2.row) (by first | exact hRa | exact hRa.below (Below.refl _ _).drew)).mono ?_; rintro e wb ⟨rfl, hbb⟩; have bb : Below w6.heap.size w6 wb := ba.trans ((by first | exact hbb | exact undrewP hbb : Below wa.heap.size wa wb).mono ba.size); obtain ⟨f0, f1, f2, f3⟩ := (H6.out wb bb).1.cells; obtain ⟨g0, g1, g2, g3⟩ := (H6.out wb bb).2.cells; clear hbb; try dsimp only) | fail)
    all_goals
      rename_i hHeld
      clear hHeld
      go_wp2
      go_ret
      exact ⟨rfl, (H6.out wb bb).1.bel⟩
theorem own : ownKnob Tryz.prog.godebug = none := by kernel_rfl
theorem laidOut : laidOutB Tryz.prog = true := by kernel_rfl
set_option maxRecDepth 100000 in
theorem lifted (os : Os) (started : os.Started) (H : Type) (enc : TypeId × Value → H) :
    ReturnsInHanded {} Tryz.checked os 4 .any (fun w args => (Rows.fnExactParcelRightSpec.pre enc Tryz.prog Tryz.f4 [] false w args ∧ laidMetH Tryz.prog Rows.fnExactParcelRightRow.laid w) ∧ sizedMet enc Tryz.prog Tryz.f4 (OpenSpec.ofChange Rows.fnExactParcelRightSpec) false w args)
      (Rows.fnExactParcelRightSpec.post enc Tryz.prog Tryz.f4 false true false false) := by
  refine returnsInHanded_of_change_and (C := Tryz.checked) (X := fun w _ => laidMetH Tryz.prog Rows.fnExactParcelRightRow.laid w) (fun _ _ _ hh h => h.of_heap hh) own started (by kernel_rfl) Tryz.func4
    (ChangeSpec.witness_shaped (enc := enc) (C := Tryz.checked) (os := os) (X := fun w _ => laidMetH Tryz.prog Rows.fnExactParcelRightRow.laid w) false (World.laidAll Tryz.prog os Rows.fnExactParcelRightRow.laid) #[.agg #[.string ⟨#[]⟩, .string ⟨#[]⟩, .int .i64 0, .slice none 0 0]] 8 (World.laidAll_os _ _ _) (World.shaped_of_ZipB (by kernel_rfl) (by kernel_rfl)) (by kernel_rfl) (by kernel_rfl) (by kernel_rfl) (by rw [MakeChecks.laidMetH_plain _ _ _ (by kernel_rfl)]; exact laidMet_laidAll _ (by kernel_rfl) (by kernel_rfl))) ?_
  intro W base args ds gs before hval0 hW hcnd _ hL _
  have hval : ∀ (j : Nat) t v, Tryz.f4.params[j]? = some t → args[j]? = some v → Value.okWide Tryz.prog W .any base t v := hval0
  have hW' := hW
  obtain ⟨p, q, hA0, hV, rfl, hfz, hnd⟩ := hW
  have hA : DataW.TrodAll enc Tryz.prog W 0 (fun _ => true) true Tryz.f4.params.toList args.toList ds p := hA0
  rw [Tryz.params4] at hA hval
  obtain ⟨v0, vs0, d0, ds0, p0, q0, hargs, rfl, rfl, h0, r0⟩ := trodAll_cons hA
  obtain ⟨rfl, rfl, rfl⟩ := trodAll_nil r0
  obtain rfl : args = #[v0] := by cases args; simp_all
  obtain ⟨_, _, _, _, gd, _, rfl, _⟩ := trodVars_one hV
  have k0 := h0
  have lt0 : ∀ x ∈ p0, x.block < W.heap.size := by obtain ⟨m, hm⟩ := k0; exact DataW.trod_lt m _ _ _ hm
  obtain ⟨q0, up0, rfl, hr0⟩ := openPc (hval 0 37 v0 rfl rfl) h0
  clear hA0 hval0
  refine (walk q0 up0 W hr0 hL).mono fun e W' ⟨he, bel⟩ => ?_
  subst he
  exact ⟨_, rfl, _, _, _, [], _, _, hW', trodAll_mk1 (shut_bool Tryz.underlying4 _), (trodAll_cons_mk (Below.trod laidOut (by kernel_rfl) (of_decide_eq_true (by kernel_rfl)) k0 bel lt0) trodAll_mk0), Below.trodVars laidOut bel (by kernel_rfl) hV, bel.frame _, fun h => by cases h⟩
theorem over : Rows.fnExactParcelRightRow.holds Tryz.pinned (OpenSpec.ofChange Rows.fnExactParcelRightSpec) :=
  OpenClaim.holds_of_wide 4 Tryz.f4 rfl rfl rfl rfl rfl rfl rfl ⟨rfl, rfl, rfl, rfl, rfl⟩ rfl rfl rfl rfl rfl (by kernel_rfl) Tryz.func4 (by kernel_rfl)
    (of_decide_eq_true (by kernel_rfl)) (by unfold Func.isWrapper; first | (rw [if_pos (by decide +kernel)]; kernel_rfl) | (rw [if_neg (by decide +kernel)]; exact ⟨rfl, rfl⟩))
    (fun os started H enc _ => lifted os started H enc)
theorem card : Rows.FnExactParcelRightCardSaid :=
  Claim7.holds_tied_plain_at .later [] [.data, .data, .data, .data, .sentinel, .sentinel, .widerDeep, .pinned] true (true, "75a818dcedb87f3b567250b7e6a3939ca15e222a5953dcefa2fa328d87bbd818") true
    over (fun _ h => by cases h) (by kernel_rfl) (fun _ h => by cases h) fnExactParcelRight_row_tie rfl ⟨rfl, rfl⟩ (by kernel_rfl) rfl
    (fun f fn hf hfn => by
      obtain rfl : f = 4 := Option.some.inj ((show Tryz.prog.funcNamed "loop.example/g00096/laws.FnExactParcelRight" = some 4 by kernel_rfl).symm.trans hf) |>.symm
      obtain rfl : fn = Tryz.f4 := (Option.some.inj (Tryz.func4.symm.trans hfn)).symm
      exact ⟨by kernel_rfl, fun j t ht => by
        rw [Tryz.params4] at ht
        have hj : Tryz.prog.wantsStandIn t = false := by
          rcases j with _ | j
          · have e : t = 37 := by simpa using ht.symm
            subst e
            exact (show Tryz.prog.wantsStandIn 37 = false by kernel_rfl)
          simp at ht
        exact hj⟩)
    (by kernel_rfl)
end fnExactParcelRight
theorem fnExactParcelRight_holds : Rows.FnExactParcelRightCardSaid := fnExactParcelRight.card
#print axioms fnExactParcelRight_holds
end Go.Proofs.YtkaolpnbddjdpaaGreatDoor
