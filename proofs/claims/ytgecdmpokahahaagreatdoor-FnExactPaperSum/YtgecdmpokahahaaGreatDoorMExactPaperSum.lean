/- PaperSum answers at every paper as the model does, and writes into no argument. Conditions: none but what the card ties. -/
import Derived.Test.YtgecdmpokahahaaGreatDoorG50
import Derived.Test.YtgecdmpokahahaaGreatDoorG45
import Derived.Test.YtgecdmpokahahaaGreatDoorG46
import Derived.Test.YtgecdmpokahahaaGreatDoorG47
import Derived.Test.YtgecdmpokahahaaGreatDoorG48
import Derived.Test.YtgecdmpokahahaaGreatDoorG49
import Derived.LaidLaws
import Derived.Stop.LaidErr
import Derived.Deep.RegionHeld3
import Derived.Test.YtgecdmpokahahaaGreatDoorCards
import Derived.Test.YtgecdmpokahahaaGreatDoorTie
import Derived.Lib.SmallJoins
import Derived.OpenVars
import Derived.Stop.Joined
import Derived.LaidMore
import Derived.SevenTiedAt
import Derived.Lay
import Derived.MakeChecks
namespace Go.Proofs.YtgecdmpokahahaaGreatDoor
open Go.ChangeShapes Go.WideShapes Go.ChangeAt Go.RowKit Go.Joins
open Go.ChangeMaps (open_string shut_string)
set_option linter.unusedVariables false
namespace fnExactPaperSum
theorem tPow : (Tryz.prog.globals[2]?).map (·.type) = some 161 := by kernel_rfl
theorem vars {W : World} (hL : laidMetH Tryz.prog Rows.fnExactPaperSumRow.laid W) : VarsAt W := by
  rw [MakeChecks.laidMetH_plain _ _ _ (by kernel_rfl)] at hL
  have h2 := laidMet.tail (laidMet.tail hL)
  have h4 := laidMet.tail (laidMet.tail h2)
  exact ⟨Lib.tabIs_of_head gPow tPow Tryz.underlying161 Tryz.underlying139 (by kernel_rfl) (by kernel_rfl) h2, tab_at (laidMet.tail (laidMet.tail h4)), ⟨err_at (laidMet.tail h4) gSyn tSyn, err_at h4 gRng tRng⟩⟩
/-- Block A holds the paper. -/
structure LP (A t : Nat) (w W : World) (p : Pap) (vn vl : Value) : Prop where
  bel : Below w.heap.size w W
  blk : W.heap[A]? = some (.cells #[.int .i64 p.kind, .string p.ref, .string p.other, .int .i64 p.day, vn, vl] t)
  row : PapR W vn vl p
  var : VarsAt W
theorem LP.below {A t : Nat} {w W W' : World} {p : Pap} {vn vl : Value} (h : LP A t w W p vn vl) (hb : Below W.heap.size W W') : LP A t w W' p vn vl :=
  ⟨h.bel.trans (hb.mono h.bel.size), (hb.block A (Array.getElem?_eq_some_iff.1 h.blk).1).trans h.blk, h.row.below hb, h.var.below hb⟩
set_option maxRecDepth 20000 in
set_option maxHeartbeats 8000000 in
theorem walk (p : Pap) (un ul : Value) (w : World) (h : PapR w un ul p ∧ PapI p) (hL : laidMetH Tryz.prog Rows.fnExactPaperSumRow.laid w) :
    Calls Tryz.prog 5 #[.agg #[.int .i64 p.kind, .string p.ref, .string p.other, .int .i64 p.day, un, ul]] w fun e w' => e = .returned (.bool true) ∧ Below w.heap.size w w' := by
  obtain ⟨h, hI⟩ := h
  have HI : Hid (PapI p) := hI
  have hV := vars hL
  clear hL hI
  obtain ⟨A0, c0, rfl⟩ := h.ns.val
  obtain ⟨A1, c1, rfl⟩ := h.ls.val
  have b1 : Below w.heap.size w (w.alloc (.cells #[.int .i64 p.kind, .string p.ref, .string p.other, .int .i64 p.day, .slice A0 p.notes.length c0, .slice A1 p.lines.length c1] 25)) := (Below.refl _ _).alloc (Nat.le_refl _) _
  have h0 : LP w.heap.size 25 w (w.alloc (.cells #[.int .i64 p.kind, .string p.ref, .string p.other, .int .i64 p.day, .slice A0 p.notes.length c0, .slice A1 p.lines.length c1] 25)) p (.slice A0 p.notes.length c0) (.slice A1 p.lines.length c1) := ⟨b1, World.alloc_heap_new w _, h.below b1, hV.below b1⟩
  clear h b1 hV
  go_enter Tryz.func5, Tryz.ntmps5
  go_wp2_with fail
  refine (szP_any p _ _ 1048576 _ h0.row (by omega)).mono ?_
  rintro e w1 ⟨r, rfl, hr, hb1⟩
  have H1 : Hid (LP w.heap.size 25 w w1 p (.slice A0 p.notes.length c0) (.slice A1 p.lines.length c1)) := h0.below hb1
  clear hb1 h0
  rcases hr with rfl | ⟨g0, g1, hP⟩
  · go_wp2
    go_ret
    exact ⟨rfl, H1.out.bel⟩
  · have g0' : ¬ r < 0 := by omega
    have HP : Hid (BdP 1048576 p) := hP
    clear hP
    obtain ⟨x0, x1, x2, x3, x4, x5⟩ := pbox H1.out.blk
    go_wp2_with fail
    refine (toP_any p _ _ _ H1.out.row HP.out).mono ?_
    rintro e w2 ⟨vn2, vl2, rfl, hR2, hb2⟩
    have H2 : Hid (LP w.heap.size 25 w w2 p (.slice A0 p.notes.length c0) (.slice A1 p.lines.length c1) ∧ PapR w2 vn2 vl2 p) := ⟨H1.out.below hb2, hR2⟩
    clear hb2 hR2 x0 x1 x2 x3 x4 x5
    go_wp2_with fail
    refine (paperSum_spec p _ _ _ HI.out H2.out.2 HP.out).mono ?_
    rintro e w3 ⟨rfl, hb3⟩
    have H3 : Hid (LP w.heap.size 25 w w3 p (.slice A0 p.notes.length c0) (.slice A1 p.lines.length c1)) := H2.out.1.below hb3
    obtain ⟨pb, hpb⟩ : ∃ pb, pb = sumP p := ⟨_, rfl⟩
    have HPB : Hid (pb = sumP p) := hpb
    rw [← hpb]
    clear hb3 hpb
    obtain ⟨x0, x1, x2, x3, x4, x5⟩ := pbox H3.out.blk
    go_wp2_with fail
    refine (toP_any p _ _ _ H3.out.row HP.out).mono ?_
    rintro e w4 ⟨vn4, vl4, rfl, hR4, hb4⟩
    obtain ⟨A4, c4, hv4⟩ := hR4.ns.val
    obtain ⟨A5, c5, hv5⟩ := hR4.ls.val
    subst hv4 hv5
    obtain ⟨W5, hW5⟩ : ∃ W5, w4.alloc (.cells #[.int .i64 p.kind, .string p.ref, .string p.other, .int .i64 p.day, .slice A4 p.notes.length c4, .slice A5 p.lines.length c5] 30) = W5 := ⟨_, rfl⟩
    have b5 : Below w4.heap.size w4 W5 := by rw [← hW5]; exact (Below.refl _ _).alloc (Nat.le_refl _) _
    have y5 : W5.heap[w4.heap.size]? = some (.cells #[.int .i64 p.kind, .string p.ref, .string p.other, .int .i64 p.day, .slice A4 p.notes.length c4, .slice A5 p.lines.length c5] 30) := by rw [← hW5]; exact World.alloc_heap_new _ _
    have hl5 := (H3.out.below hb4).below b5
    obtain ⟨X, hX⟩ : ∃ X, X = w4.heap.size := ⟨_, rfl⟩
    rw [← hX] at y5
    have H5 : Hid (LP w.heap.size 25 w W5 p (.slice A0 p.notes.length c0) (.slice A1 p.lines.length c1) ∧ LP X 30 w W5 p (.slice A4 p.notes.length c4) (.slice A5 p.lines.length c5)) := ⟨hl5, hl5.bel, y5, hR4.below b5, hl5.var⟩
    have HD5 : Hid (w4.alloc (.cells #[.int .i64 p.kind, .string p.ref, .string p.other, .int .i64 p.day, .slice A4 p.notes.length c4, .slice A5 p.lines.length c5] 30) = W5 ∧ X = w4.heap.size) := ⟨hW5, hX⟩
    clear hW5 hX y5 b5 hb4 hR4 hl5 x0 x1 x2 x3 x4 x5
    go_upto_region 7 with fail
    try rw [HD5.out.1]
    try rw [← HD5.out.2]
    clear HD5
    obtain ⟨x0, x1, x2, x3, x4, x5⟩ := pbox H5.out.2.blk
    go_wp2_with fail
    refine (paperSum_impl p _ _ _ HI.out H5.out.2.row HP.out H5.out.2.var).mono ?_
    rintro e w6 ⟨rfl, hb6⟩
    rw [← HPB.out]
    have H6 : Hid (∀ W, Below w6.heap.size w6 W → LP w.heap.size 25 w W p (.slice A0 p.notes.length c0) (.slice A1 p.lines.length c1) ∧ LP X 30 w W p (.slice A4 p.notes.length c4) (.slice A5 p.lines.length c5)) := fun W hW => ⟨(H5.out.1.below hb6).below hW, (H5.out.2.below hb6).below hW⟩
    clear hb6 x0 x1 x2 x3 x4 x5
    obtain ⟨x0, x1, x2, x3, x4, x5⟩ := pbox (H6.out w6 (Below.refl _ _)).1.blk
    obtain ⟨y0, y1, y2, y3, y4, y5⟩ := pbox (H6.out w6 (Below.refl _ _)).2.blk
    have hne : (pb != pb) = false := by simp
    go_upto_region 10 with fail
    go_region_held3 (fun W => (W.cell? ⟨w.heap.size, 0, none⟩ = some (.int .i64 p.kind) ∧ W.cell? ⟨w.heap.size, 1, none⟩ = some (.string p.ref) ∧ W.cell? ⟨w.heap.size, 2, none⟩ = some (.string p.other) ∧ W.cell? ⟨w.heap.size, 3, none⟩ = some (.int .i64 p.day) ∧ W.cell? ⟨w.heap.size, 4, none⟩ = some (.slice A0 p.notes.length c0) ∧ W.cell? ⟨w.heap.size, 5, none⟩ = some (.slice A1 p.lines.length c1)) ∧ W.cell? ⟨X, 0, none⟩ = some (.int .i64 p.kind) ∧ W.cell? ⟨X, 1, none⟩ = some (.string p.ref) ∧ W.cell? ⟨X, 2, none⟩ = some (.string p.other) ∧ W.cell? ⟨X, 3, none⟩ = some (.int .i64 p.day) ∧ W.cell? ⟨X, 4, none⟩ = some (.slice A4 p.notes.length c4) ∧ W.cell? ⟨X, 5, none⟩ = some (.slice A5 p.lines.length c5)) (go_keep) (first | (go_at_call 8; refine (toP_any p _ _ _ (by first | exact (H6.out _ (Below.refl _ _)).1.row | exact (H6.out _ (Below.refl _ _).drew).1.row) HP.out).mono ?_; rintro e wa ⟨vna, vla, rfl, hRa, hba⟩; have ba : Below w6.heap.size w6 wa := (by first | exact hba | exact undrewP hba); obtain ⟨a0, a1, a2, a3, a4, a5⟩ := pbox (H6.out wa ba).1.blk; obtain ⟨b0, b1, b2, b3, b4, b5⟩ := pbox (H6.out wa ba).2.blk; clear hba; try dsimp only) | (go_at_call 10; refine (eqP_any p _ _ _ _ _ (by first | exact (H6.out _ ba).2.row | exact (H6.out _ ba.drew).2.row) (by first | exact hRa | exact hRa.below (Below.refl _ _).drew)).mono ?_; rintro e wb ⟨rfl, hbb⟩; have bb : Below w6.heap.size w6 wb := ba.trans ((by first | exact hbb | exact undrewP hbb : Below wa.heap.size wa wb).mono ba.size); obtain ⟨f0, f1, f2, f3, f4, f5⟩ := pbox (H6.out wb bb).1.blk; obtain ⟨g0, g1, g2, g3, g4, g5⟩ := pbox (H6.out wb bb).2.blk; clear hbb; try dsimp only) | fail)
    all_goals
      rename_i hHeld
      clear hHeld
      go_wp2
      go_ret
      exact ⟨rfl, (H6.out wb bb).1.bel⟩
theorem own : ownKnob Tryz.prog.godebug = none := by kernel_rfl
theorem laidOut : laidOutB Tryz.prog = true := by kernel_rfl
set_option maxRecDepth 100000 in
theorem lifted (os : Os) (started : os.Started) (H : Type) (enc : TypeId × Value → H) :
    ReturnsInHanded {} Tryz.checked os 5 .any (fun w args => (Rows.fnExactPaperSumSpec.pre enc Tryz.prog Tryz.f5 [] false w args ∧ laidMetH Tryz.prog Rows.fnExactPaperSumRow.laid w) ∧ sizedMet enc Tryz.prog Tryz.f5 (OpenSpec.ofChange Rows.fnExactPaperSumSpec) false w args)
      (Rows.fnExactPaperSumSpec.post enc Tryz.prog Tryz.f5 false true false false) := by
  refine returnsInHanded_of_change_and (C := Tryz.checked) (X := fun w _ => laidMetH Tryz.prog Rows.fnExactPaperSumRow.laid w) (fun _ _ _ hh h => h.of_heap hh) own started (by kernel_rfl) Tryz.func5
    (ChangeSpec.witness_shaped (enc := enc) (C := Tryz.checked) (os := os) (X := fun w _ => laidMetH Tryz.prog Rows.fnExactPaperSumRow.laid w) false (World.laidAll Tryz.prog os Rows.fnExactPaperSumRow.laid) #[.agg #[.int .i64 0, .string ⟨#[]⟩, .string ⟨#[]⟩, .int .i64 0, .slice none 0 0, .slice none 0 0]] 8 (World.laidAll_os _ _ _) (World.shaped_of_ZipB (by kernel_rfl) (by kernel_rfl)) (by kernel_rfl) (by kernel_rfl) (by kernel_rfl) (by rw [MakeChecks.laidMetH_plain _ _ _ (by kernel_rfl)]; exact laidMet_laidAll _ (by kernel_rfl) (by kernel_rfl))) ?_
  intro W base args ds gs before hval0 hW hcnd _ hL _
  have hval : ∀ (j : Nat) t v, Tryz.f5.params[j]? = some t → args[j]? = some v → Value.okWide Tryz.prog W .any base t v := hval0
  have hW' := hW
  obtain ⟨p, q, hA0, hV, rfl, hfz, hnd⟩ := hW
  have hA : DataW.TrodAll enc Tryz.prog W 0 (fun _ => true) true Tryz.f5.params.toList args.toList ds p := hA0
  rw [Tryz.params5] at hA hval
  obtain ⟨v0, vs0, d0, ds0, p0, q0, hargs, rfl, rfl, h0, r0⟩ := trodAll_cons hA
  obtain ⟨rfl, rfl, rfl⟩ := trodAll_nil r0
  obtain rfl : args = #[v0] := by cases args; simp_all
  obtain ⟨_, _, _, _, gd, _, rfl, _⟩ := trodVars_one hV
  have k0 := h0
  have lt0 : ∀ x ∈ p0, x.block < W.heap.size := by obtain ⟨m, hm⟩ := k0; exact DataW.trod_lt m _ _ _ hm
  obtain ⟨q0, un0, ul0, rfl, hr0⟩ := openP (hval 0 25 v0 rfl rfl) h0
  clear hA0 hval0
  refine (walk q0 un0 ul0 W hr0 hL).mono fun e W' ⟨he, bel⟩ => ?_
  subst he
  exact ⟨_, rfl, _, _, _, [], _, _, hW', trodAll_mk1 (shut_bool Tryz.underlying4 _), (trodAll_cons_mk (Below.trod laidOut (by kernel_rfl) (of_decide_eq_true (by kernel_rfl)) k0 bel lt0) trodAll_mk0), Below.trodVars laidOut bel (by kernel_rfl) hV, bel.frame _, fun h => by cases h⟩
theorem over : Rows.fnExactPaperSumRow.holds Tryz.pinned (OpenSpec.ofChange Rows.fnExactPaperSumSpec) :=
  OpenClaim.holds_of_wide 5 Tryz.f5 rfl rfl rfl rfl rfl rfl rfl ⟨rfl, rfl, rfl, rfl, rfl⟩ rfl rfl rfl rfl rfl (by kernel_rfl) Tryz.func5 (by kernel_rfl)
    (of_decide_eq_true (by kernel_rfl)) (by unfold Func.isWrapper; first | (rw [if_pos (by decide +kernel)]; kernel_rfl) | (rw [if_neg (by decide +kernel)]; exact ⟨rfl, rfl⟩))
    (fun os started H enc _ => lifted os started H enc)
theorem card : Rows.FnExactPaperSumCardSaid :=
  Claim7.holds_tied_plain_at .later [] [.data, .data, .data, .data, .sentinel, .sentinel, .widerDeep, .pinned] true (true, "4b9264b5dbcf628870c5b4f4bc1667241c2d34f5a883521aeea4ee3af3056729") true
    over (fun _ h => by cases h) (by kernel_rfl) (fun _ h => by cases h) fnExactPaperSum_row_tie rfl ⟨rfl, rfl⟩ (by kernel_rfl) rfl
    (fun f fn hf hfn => by
      obtain rfl : f = 5 := Option.some.inj ((show Tryz.prog.funcNamed "loop.example/g00096/laws.FnExactPaperSum" = some 5 by kernel_rfl).symm.trans hf) |>.symm
      obtain rfl : fn = Tryz.f5 := (Option.some.inj (Tryz.func5.symm.trans hfn)).symm
      exact ⟨by kernel_rfl, fun j t ht => by
        rw [Tryz.params5] at ht
        have hj : Tryz.prog.wantsStandIn t = false := by
          rcases j with _ | j
          · have e : t = 25 := by simpa using ht.symm
            subst e
            exact (show Tryz.prog.wantsStandIn 25 = false by kernel_rfl)
          simp at ht
        exact hj⟩)
    (by kernel_rfl)
end fnExactPaperSum
theorem fnExactPaperSum_holds : Rows.FnExactPaperSumCardSaid := fnExactPaperSum.card
#print axioms fnExactPaperSum_holds
end Go.Proofs.YtgecdmpokahahaaGreatDoor
