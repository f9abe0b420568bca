/- PaperBody answers at every paper as the model does, writes into no argument, keeps nothing of one, and its answer owns its memory, behind another call too. Conditions: none but what the card ties. -/
import Derived.Test.YtcdebinldmblkaaGreatDoorG31
import Derived.Test.YtcdebinldmblkaaGreatDoorG46
import Derived.Test.YtcdebinldmblkaaGreatDoorG47
import Derived.Test.YtcdebinldmblkaaGreatDoorG49
import Derived.Test.YtcdebinldmblkaaGreatDoorG50
import Derived.Test.YtcdebinldmblkaaGreatDoorG51
import Derived.LaidLaws
import Derived.Stop.LaidErr
import Derived.Deep.RegionHeld3
import Derived.Test.YtcdebinldmblkaaGreatDoorCards
import Derived.Test.YtcdebinldmblkaaGreatDoorTie
import Derived.Lib.SmallJoins
import Derived.OpenVars
import Derived.Stop.Joined
import Derived.LaidMore
import Derived.SevenTiedAt
import Derived.Lay
import Derived.MakeChecks
namespace Go.Proofs.YtcdebinldmblkaaGreatDoor
open Go.ChangeShapes Go.WideShapes Go.ChangeAt Go.RowKit Go.Joins
open Go.ChangeMaps (open_string shut_string)
set_option linter.unusedVariables false
namespace fnExactPaperBody
theorem tPow : (Tryz.prog.globals[2]?).map (·.type) = some 145 := by kernel_rfl
theorem vars {W : World} (hL : laidMetH Tryz.prog Rows.fnExactPaperBodyRow.laid W) : VarsAt W := by
  rw [MakeChecks.laidMetH_plain _ _ _ (by kernel_rfl)] at hL
  have h2 := laidMet.tail (laidMet.tail hL)
  have h4 := laidMet.tail (laidMet.tail h2)
  exact ⟨Lib.tabIs_of_head gPow tPow Tryz.underlying145 Tryz.underlying133 (by kernel_rfl) (by kernel_rfl) h2, tab_at (laidMet.tail (laidMet.tail h4)), ⟨err_at (laidMet.tail h4) gSyn tSyn, err_at h4 gRng tRng⟩⟩
/-- Block A holds the paper. -/
structure LP (A t : Nat) (w W : World) (p : Pap) (vn vl : Value) : Prop where
  bel : Below w.heap.size w W
  blk : W.heap[A]? = some (.cells #[.int .i64 p.kind, .string p.ref, .string p.other, .int .i64 p.day, vn, vl] t)
  row : PapR W vn vl p
  var : VarsAt W
theorem LP.below {A t : Nat} {w W W' : World} {p : Pap} {vn vl : Value} (h : LP A t w W p vn vl) (hb : Below W.heap.size W W') : LP A t w W' p vn vl :=
  ⟨h.bel.trans (hb.mono h.bel.size), (hb.block A (Array.getElem?_eq_some_iff.1 h.blk).1).trans h.blk, h.row.below hb, h.var.below hb⟩
theorem LP.drew {A t : Nat} {w W : World} {p : Pap} {vn vl : Value} (h : LP A t w W p vn vl) : LP A t w W.drew p vn vl := h.below (Below.refl _ _).drew
/-- Of what was there in a nothing has changed. -/
structure Fr (a W : World) : Prop where
  bel : Below a.heap.size a W
theorem Fr.below {a W W' : World} (h : Fr a W) (hb : Below W.heap.size W W') : Fr a W' := ⟨h.bel.trans (hb.mono h.bel.size)⟩
theorem Fr.drew {a W : World} (h : Fr a W) : Fr a W.drew := h.below (Below.refl _ _).drew
set_option maxRecDepth 20000 in
set_option maxHeartbeats 16000000 in
theorem walk (p : Pap) (un ul : Value) (w : World) (h : PapR w un ul p ∧ PapI p) (hL : laidMetH Tryz.prog Rows.fnExactPaperBodyRow.laid w) :
    Calls Tryz.prog 3 #[.agg #[.int .i64 p.kind, .string p.ref, .string p.other, .int .i64 p.day, un, ul]] w fun e w' => e = .returned (.bool true) ∧ Below w.heap.size w w' := by
  obtain ⟨h, hI⟩ := h
  have hV := vars hL
  clear hL
  obtain ⟨hX, hl61⟩ := pbG_bd p
  have hS0 : ∀ W vn vl, PapR W vn vl p → BdP 1048576 p → Calls Tryz.prog 5 #[.agg #[.int .i64 p.kind, .string p.ref, .string p.other, .int .i64 p.day, vn, vl]] W fun e w' => ∃ u ps, e = .returned u ∧ OwnL W.heap.size w' u ps (pbG p) ∧ Below W.heap.size W w' := fun W vn vl h1 h2 => paperBody_spec p vn vl W hI h1 h2
  have hI0 : ∀ W vn vl, PapR W vn vl p → BdP 1048576 p → VarsAt W → Calls Tryz.prog 7 #[.agg #[.int .i64 p.kind, .string p.ref, .string p.other, .int .i64 p.day, vn, vl]] W fun e w' => ∃ u ps, e = .returned u ∧ OwnL W.heap.size w' u ps (pbG p) ∧ Below W.heap.size W w' := fun W vn vl h1 h2 h3 => paperBody_impl p vn vl W hI h1 h2 h3
  obtain ⟨gs, hgs⟩ : ∃ gs, pbG p = gs := ⟨_, rfl⟩
  rw [hgs] at hX hl61 hS0 hI0
  have hl : gs.length ≤ 2400 := by omega
  have HX : Hid (BdLg gs) := hX
  have HS : Hid (∀ W vn vl, PapR W vn vl p → BdP 1048576 p → Calls Tryz.prog 5 #[.agg #[.int .i64 p.kind, .string p.ref, .string p.other, .int .i64 p.day, vn, vl]] W fun e w' => ∃ u ps, e = .returned u ∧ OwnL W.heap.size w' u ps gs ∧ Below W.heap.size W w') := hS0
  have HI : Hid (∀ W vn vl, PapR W vn vl p → BdP 1048576 p → VarsAt W → Calls Tryz.prog 7 #[.agg #[.int .i64 p.kind, .string p.ref, .string p.other, .int .i64 p.day, vn, vl]] W fun e w' => ∃ u ps, e = .returned u ∧ OwnL W.heap.size w' u ps gs ∧ Below W.heap.size W w') := hI0
  clear hX hS0 hI0 hgs hI hl61
  have hof := offL_le HX.out gs.length (Nat.le_refl _)
  obtain ⟨A0, c0, rfl⟩ := h.ns.val
  obtain ⟨A1, c1, rfl⟩ := h.ls.val
  have b1 : Below w.heap.size w (w.alloc (.cells #[.int .i64 p.kind, .string p.ref, .string p.other, .int .i64 p.day, (.slice A0 p.notes.length c0), (.slice A1 p.lines.length c1)] 25)) := (Below.refl _ _).alloc (Nat.le_refl _) _
  have h0 : LP w.heap.size 25 w (w.alloc (.cells #[.int .i64 p.kind, .string p.ref, .string p.other, .int .i64 p.day, (.slice A0 p.notes.length c0), (.slice A1 p.lines.length c1)] 25)) p (.slice A0 p.notes.length c0) (.slice A1 p.lines.length c1) := ⟨b1, World.alloc_heap_new w _, h.below b1, hV.below b1⟩
  clear h b1 hV
  go_enter Tryz.func3, Tryz.ntmps3
  go_wp2_with fail
  refine (szP_any p _ _ 1048576 _ h0.row (by omega)).mono ?_
  rintro e w1 ⟨r, rfl, hr, hb1⟩
  have h1 := h0.below hb1
  clear hb1 h0
  rcases hr with rfl | ⟨g0, g1, hP⟩
  · have H1 : Hid (Below w.heap.size w w1) := h1.bel
    clear h1
    go_wp2
    go_ret
    exact ⟨rfl, H1.out⟩
  · have g0' : ¬ r < 0 := by omega
    have HP : Hid (BdP 1048576 p) := hP
    have hcn := hP.2.2.1.1
    have hcl := hP.2.2.2.1
    clear hP g1
    obtain ⟨x0, x1, x2, x3, x4, x5⟩ := pbox h1.blk
    go_wp2_with fail
    refine (toP_any p _ _ _ h1.row HP.out).mono ?_
    rintro e w2 ⟨vn2, vl2, rfl, r2, hb2⟩
    have h2 := h1.below hb2
    clear hb2 h1 x0 x1 x2 x3 x4 x5
    go_wp2_with fail
    refine (HS.out _ _ _ r2 HP.out).mono ?_
    rintro e w3 ⟨u3, ps3, rfl, hO3, hb3⟩
    have h3 := h2.below hb3
    have r3 : RowG w3 u3 gs := hO3.rowG HX.out hl
    clear hb3 h2 r2 hO3
    obtain ⟨A3, C3, rfl⟩ := r3.val
    have H3 : Hid (LP w.heap.size 25 w w3 p (.slice A0 p.notes.length c0) (.slice A1 p.lines.length c1) ∧ RowG w3 (.slice A3 gs.length C3) gs) := ⟨h3, r3⟩
    clear r3
    obtain ⟨x0, x1, x2, x3, x4, x5⟩ := pbox h3.blk
    go_wp2_with fail
    refine (toP_own p _ _ _ h3.row HP.out).mono ?_
    rintro e w5 ⟨vn5, vl5, rfl, o5, hb5⟩
    have h5 := h3.below hb5
    have r5 : PapR w5 vn5 vl5 p := o5.row HP.out
    have s35 := hb5.size
    have S5 : Hid ((ShS w3.heap.size w5.heap.size w5 vn5 p.notes.length ∧ ShL w3.heap.size w5.heap.size w5 vl5 p.lines.length) ∧ Below w3.heap.size w3 w5) := ⟨⟨o5.1.sh (Nat.le_refl _) (Nat.le_refl _), o5.2.sh (Nat.le_refl _) (Nat.le_refl _)⟩, hb5⟩
    clear hb5 h3 o5 x0 x1 x2 x3 x4 x5
    obtain ⟨E0, f0, rfl⟩ := r5.ns.val
    obtain ⟨E1, f1, rfl⟩ := r5.ls.val
    have b6 : Below w5.heap.size w5 (w5.alloc (.cells #[.int .i64 p.kind, .string p.ref, .string p.other, .int .i64 p.day, (.slice E0 p.notes.length f0), (.slice E1 p.lines.length f1)] 31)) := (Below.refl _ w5).alloc (Nat.le_refl _) _
    have m6 : LP w5.heap.size 31 w5 (w5.alloc (.cells #[.int .i64 p.kind, .string p.ref, .string p.other, .int .i64 p.day, (.slice E0 p.notes.length f0), (.slice E1 p.lines.length f1)] 31)) p (.slice E0 p.notes.length f0) (.slice E1 p.lines.length f1) := ⟨b6, World.alloc_heap_new w5 _, r5.below b6, h5.var.below b6⟩
    have h6 := h5.below b6
    have s6 : (w5.alloc (.cells #[.int .i64 p.kind, .string p.ref, .string p.other, .int .i64 p.day, (.slice E0 p.notes.length f0), (.slice E1 p.lines.length f1)] 31)).heap.size = w5.heap.size + 1 := by simp
    obtain ⟨z0, z1, z2, z3, z4, z5⟩ := pbox m6.blk
    clear h5 r5 b6
    go_wp2_with fail
    refine (HI.out _ _ _ m6.row HP.out h6.var).mono ?_
    rintro e w9 ⟨u9, ps9, rfl, hO9, hb9⟩
    rw [s6] at hO9
    have h9 := h6.below hb9
    have m9 := m6.below hb9
    have s9 := hb9.size
    rw [s6] at s9
    clear hb9 h6 m6 z0 z1 z2 z3 z4 z5 s6
    obtain ⟨A9, C9, rfl⟩ := hO9.slice
    have O9 : Hid (OwnL (w5.heap.size + 1) w9 (.slice A9 gs.length C9) ps9 gs) := hO9
    clear hO9
    go_wp2_with fail
    refine (eqGs_any _ _ gs _ (O9.out.rowG HX.out hl) (H3.out.2.below (S5.out.2.trans (m9.bel.mono s35)))).mono ?_
    rintro e w10 ⟨rfl, hb10⟩
    have h10 := h9.below hb10
    have m10 := m9.below hb10
    have s10 := hb10.size
    have O10 : Hid (OwnL (w5.heap.size + 1) w10 (.slice A9 gs.length C9) ps9 gs) := O9.out.below hb10
    clear hb10 h9 m9 O9
    have f10 : Fr w10 w10 := ⟨Below.refl _ _⟩
    obtain ⟨x0, x1, x2, x3, x4, x5⟩ := pbox h10.blk
    obtain ⟨z0, z1, z2, z3, z4, z5⟩ := pbox m10.blk
    go_wp2_with fail
    go_region_held3 (fun W => (W.cell? ⟨w.heap.size, 0, none⟩ = some (.int .i64 p.kind) ∧ W.cell? ⟨w.heap.size, 1, none⟩ = some (.string p.ref) ∧ W.cell? ⟨w.heap.size, 2, none⟩ = some (.string p.other) ∧ W.cell? ⟨w.heap.size, 3, none⟩ = some (.int .i64 p.day) ∧ W.cell? ⟨w.heap.size, 4, none⟩ = some ((.slice A0 p.notes.length c0)) ∧ W.cell? ⟨w.heap.size, 5, none⟩ = some ((.slice A1 p.lines.length c1))) ∧ W.cell? ⟨w5.heap.size, 0, none⟩ = some (.int .i64 p.kind) ∧ W.cell? ⟨w5.heap.size, 1, none⟩ = some (.string p.ref) ∧ W.cell? ⟨w5.heap.size, 2, none⟩ = some (.string p.other) ∧ W.cell? ⟨w5.heap.size, 3, none⟩ = some (.int .i64 p.day) ∧ W.cell? ⟨w5.heap.size, 4, none⟩ = some ((.slice E0 p.notes.length f0)) ∧ W.cell? ⟨w5.heap.size, 5, none⟩ = some ((.slice E1 p.lines.length f1))) (go_keep) (first | (go_at_call_of 6 (Value.agg #[.int .i64 p.kind, .string p.ref, .string p.other, .int .i64 p.day, (.slice A0 p.notes.length c0), (.slice A1 p.lines.length c1)]); refine (toP_any p _ _ _ h10.drew.row HP.out).mono ?_; rintro e wj ⟨vnj, vlj, rfl, rj, hb⟩; have hj := h10.drew.below hb; have mj := m10.drew.below hb; have fj := f10.drew.below hb; clear hb; obtain ⟨xj0, xj1, xj2, xj3, xj4, xj5⟩ := pbox hj.blk; obtain ⟨zj0, zj1, zj2, zj3, zj4, zj5⟩ := pbox mj.blk) | (go_at_call 9; refine (eqP_any p _ _ _ _ _ mj.row rj).mono ?_; rintro e wg ⟨rfl, hb⟩; have hg := hj.below hb; have mg := mj.below hb; have fg := fj.below hb; clear hb; obtain ⟨xg0, xg1, xg2, xg3, xg4, xg5⟩ := pbox hg.blk; obtain ⟨zg0, zg1, zg2, zg3, zg4, zg5⟩ := pbox mg.blk))
    rename_i hHeld
    clear hHeld
    have sg := fg.bel.size
    have SG : Hid ((ShS w3.heap.size w5.heap.size wg (.slice E0 p.notes.length f0) p.notes.length ∧ ShL w3.heap.size w5.heap.size wg (.slice E1 p.lines.length f1) p.lines.length) ∧ Below w3.heap.size w3 wg ∧ OwnL (w5.heap.size + 1) wg (.slice A9 gs.length C9) ps9 gs) := ⟨⟨S5.out.1.1.tame (Tame.of_below mg.bel), S5.out.1.2.tame (Tame.of_below mg.bel)⟩, S5.out.2.trans (mg.bel.mono s35), O10.out.below fg.bel⟩
    clear hg h10 m10 f10 hj mj fj fg O10 rj x0 x1 x2 x3 x4 x5 z0 z1 z2 z3 z4 z5
    have mgb := mg.blk
    clear mg
    obtain ⟨z0, z1, z2, z3, z4, z5⟩ := pbox mgb
    clear mgb
    go_wp2_with fail
    refine (markP_w p.kind p.day p.ref p.other _ _ p.notes.length p.lines.length w3.heap.size w5.heap.size 1 _ SG.out.1.1 SG.out.1.2 ⟨by omega, hcl⟩ (by omega)).mono ?_
    rintro e w11 ⟨rfl, hT⟩
    have hk : ¬ (((1 + p.notes.length + p.lines.length * 5 : Nat) : Int) < 0) := by omega
    have s11 := hT.size
    have H11 : Hid (Below w3.heap.size w3 w11 ∧ OwnL (w5.heap.size + 1) w11 (.slice A9 gs.length C9) ps9 gs) := ⟨SG.out.2.1.trans ⟨hT.os, hT.tape, hT.output, hT.size, fun k hk => hT.block k (by omega) (.inl hk)⟩, SG.out.2.2.keepB fun g q1 q2 => hT.block g q2 (.inr (by omega))⟩
    clear hT SG z0 z1 z2 z3 z4 z5
    go_wp2_with fail
    refine (eqGs_any _ _ gs _ (H11.out.2.rowG HX.out hl) (H3.out.2.below H11.out.1)).mono ?_
    rintro e w12 ⟨rfl, hb12⟩
    have s12 := hb12.size
    have H12 : Hid (Below w3.heap.size w3 w12 ∧ OwnL (w5.heap.size + 1) w12 (.slice A9 gs.length C9) ps9 gs) := ⟨H11.out.1.trans (hb12.mono (by omega)), H11.out.2.below hb12⟩
    clear hb12 H11
    go_wp2_with fail
    refine (markL_any _ ps9 gs (w5.heap.size + 1) 1 _ H12.out.2 HX.out hl (by omega) (by omega) (by omega)).mono ?_
    rintro e w13 ⟨rfl, hm13, hb13, _⟩
    have s13 := hb13.size
    have H13 : Hid (Below w3.heap.size w3 w13 ∧ MkL 1 w13 (.slice A9 gs.length C9) ps9 gs) := ⟨H12.out.1.trans (hb13.mono (by omega)), hm13⟩
    clear hm13 hb13 H12
    go_wp2_with fail
    refine (heldL_any _ ps9 gs 1 _ H13.out.2 HX.out hl (by omega) (by omega)).mono ?_
    rintro e w14 ⟨rfl, hb14⟩
    have s14 := hb14.size
    have H14 : Hid (Below w3.heap.size w3 w14 ∧ MkL 1 w14 (.slice A9 gs.length C9) ps9 gs) := ⟨H13.out.1.trans (hb14.mono (by omega)), H13.out.2.below hb14⟩
    clear hb14 H13
    have h14 := H3.out.1.below H14.out.1
    obtain ⟨y0, y1, y2, y3, y4, y5⟩ := pbox h14.blk
    go_wp2_with fail
    refine (toP_any p _ _ _ h14.row HP.out).mono ?_
    rintro e w15 ⟨vn15, vl15, rfl, r15, hb15⟩
    have h15 := h14.below hb15
    have s15 := hb15.size
    have H15 : Hid (Below w3.heap.size w3 w15 ∧ MkL 1 w15 (.slice A9 gs.length C9) ps9 gs) := ⟨H14.out.1.trans (hb15.mono (by omega)), H14.out.2.below hb15⟩
    clear hb15 h14 H14 y0 y1 y2 y3 y4 y5
    go_wp2_with fail
    refine (HI.out _ _ _ r15 HP.out h15.var).mono ?_
    rintro e w16 ⟨u16, ps16, rfl, hO16, hb16⟩
    have s16 := hb16.size
    obtain ⟨A6, C6, rfl⟩ := hO16.slice
    have H16 : Hid (Below w3.heap.size w3 w16 ∧ MkL 1 w16 (.slice A9 gs.length C9) ps9 gs ∧ RowG w16 (.slice A6 gs.length C6) gs) := ⟨H15.out.1.trans (hb16.mono (by omega)), H15.out.2.below hb16, hO16.rowG HX.out hl⟩
    clear hb16 h15 r15 hO16 H15
    go_wp2_with fail
    refine (eqGs_any _ _ gs _ H16.out.2.2 (H3.out.2.below H16.out.1)).mono ?_
    rintro e w17 ⟨rfl, hb17⟩
    have s17 := hb17.size
    have H17 : Hid (Below w3.heap.size w3 w17 ∧ MkL 1 w17 (.slice A9 gs.length C9) ps9 gs) := ⟨H16.out.1.trans (hb17.mono (by omega)), H16.out.2.1.below hb17⟩
    clear hb17 H16
    go_wp2_with fail
    refine (heldL_any _ ps9 gs 1 _ H17.out.2 HX.out hl (by omega) (by omega)).mono ?_
    rintro e w18 ⟨rfl, hb18⟩
    have H18 : Hid (Below w.heap.size w w18) := H3.out.1.bel.trans ((H17.out.1.trans (hb18.mono (by omega))).mono H3.out.1.bel.size)
    clear hb18 H17
    go_wp2
    go_ret
    exact ⟨rfl, H18.out⟩
theorem own : ownKnob Tryz.prog.godebug = none := by kernel_rfl
theorem laidOut : laidOutB Tryz.prog = true := by kernel_rfl
set_option maxRecDepth 100000 in
theorem lifted (os : Os) (started : os.Started) (H : Type) (enc : TypeId × Value → H) :
    ReturnsInHanded {} Tryz.checked os 3 .any (fun w args => (Rows.fnExactPaperBodySpec.pre enc Tryz.prog Tryz.f3 [] false w args ∧ laidMetH Tryz.prog Rows.fnExactPaperBodyRow.laid w) ∧ sizedMet enc Tryz.prog Tryz.f3 (OpenSpec.ofChange Rows.fnExactPaperBodySpec) false w args)
      (Rows.fnExactPaperBodySpec.post enc Tryz.prog Tryz.f3 false true false false) := by
  refine returnsInHanded_of_change_and (C := Tryz.checked) (X := fun w _ => laidMetH Tryz.prog Rows.fnExactPaperBodyRow.laid w) (fun _ _ _ hh h => h.of_heap hh) own started (by kernel_rfl) Tryz.func3
    (ChangeSpec.witness_shaped (enc := enc) (C := Tryz.checked) (os := os) (X := fun w _ => laidMetH Tryz.prog Rows.fnExactPaperBodyRow.laid w) false (World.laidAll Tryz.prog os Rows.fnExactPaperBodyRow.laid) #[.agg #[.int .i64 0, .string ⟨#[]⟩, .string ⟨#[]⟩, .int .i64 0, .slice none 0 0, .slice none 0 0]] 8 (World.laidAll_os _ _ _) (World.shaped_of_ZipB (by kernel_rfl) (by kernel_rfl)) (by kernel_rfl) (by kernel_rfl) (by kernel_rfl) (by rw [MakeChecks.laidMetH_plain _ _ _ (by kernel_rfl)]; exact laidMet_laidAll _ (by kernel_rfl) (by kernel_rfl))) ?_
  intro W base args ds gs before hval0 hW hcnd _ hL _
  have hval : ∀ (j : Nat) t v, Tryz.f3.params[j]? = some t → args[j]? = some v → Value.okWide Tryz.prog W .any base t v := hval0
  have hW' := hW
  obtain ⟨p, q, hA0, hV, rfl, hfz, hnd⟩ := hW
  have hA : DataW.TrodAll enc Tryz.prog W 0 (fun _ => true) true Tryz.f3.params.toList args.toList ds p := hA0
  rw [Tryz.params3] at hA hval
  obtain ⟨v0, vs0, d0, ds0, p0, q0, hargs, rfl, rfl, h0, r0⟩ := trodAll_cons hA
  obtain ⟨rfl, rfl, rfl⟩ := trodAll_nil r0
  obtain rfl : args = #[v0] := by cases args; simp_all
  obtain ⟨_, _, _, _, gd, _, rfl, _⟩ := trodVars_one hV
  have k0 := h0
  have lt0 : ∀ x ∈ p0, x.block < W.heap.size := by obtain ⟨m, hm⟩ := k0; exact DataW.trod_lt m _ _ _ hm
  obtain ⟨q0, un0, ul0, rfl, hr0⟩ := openP (hval 0 25 v0 rfl rfl) h0
  clear hA0 hval0
  refine (walk q0 un0 ul0 W hr0 hL).mono fun e W' ⟨he, bel⟩ => ?_
  subst he
  exact ⟨_, rfl, _, _, _, [], _, _, hW', trodAll_mk1 (shut_bool Tryz.underlying4 _), (trodAll_cons_mk (Below.trod laidOut (by kernel_rfl) (of_decide_eq_true (by kernel_rfl)) k0 bel lt0) trodAll_mk0), Below.trodVars laidOut bel (by kernel_rfl) hV, bel.frame _, fun h => by cases h⟩
theorem over : Rows.fnExactPaperBodyRow.holds Tryz.pinned (OpenSpec.ofChange Rows.fnExactPaperBodySpec) :=
  OpenClaim.holds_of_wide 3 Tryz.f3 rfl rfl rfl rfl rfl rfl rfl ⟨rfl, rfl, rfl, rfl, rfl⟩ rfl rfl rfl rfl rfl (by kernel_rfl) Tryz.func3 (by kernel_rfl)
    (of_decide_eq_true (by kernel_rfl)) (by unfold Func.isWrapper; first | (rw [if_pos (by decide +kernel)]; kernel_rfl) | (rw [if_neg (by decide +kernel)]; exact ⟨rfl, rfl⟩))
    (fun os started H enc _ => lifted os started H enc)
theorem card : Rows.FnExactPaperBodyCardSaid :=
  Claim7.holds_tied_plain_at .later [] [.data, .data, .data, .data, .sentinel, .sentinel, .widerDeep, .pinned] true (true, "8e008ebaefcdc10afa9c5f69a729ec0697857a678dcd2d95acc3df539580568a") true
    over (fun _ h => by cases h) (by kernel_rfl) (fun _ h => by cases h) fnExactPaperBody_row_tie rfl ⟨rfl, rfl⟩ (by kernel_rfl) rfl
    (fun f fn hf hfn => by
      obtain rfl : f = 3 := Option.some.inj ((show Tryz.prog.funcNamed "loop.example/g00096/laws.FnExactPaperBody" = some 3 by kernel_rfl).symm.trans hf) |>.symm
      obtain rfl : fn = Tryz.f3 := (Option.some.inj (Tryz.func3.symm.trans hfn)).symm
      exact ⟨by kernel_rfl, fun j t ht => by
        rw [Tryz.params3] at ht
        have hj : Tryz.prog.wantsStandIn t = false := by
          rcases j with _ | j
          · have e : t = 25 := by simpa using ht.symm
            subst e
            exact (show Tryz.prog.wantsStandIn 25 = false by kernel_rfl)
          simp at ht
        exact hj⟩)
    (by kernel_rfl)
end fnExactPaperBody
theorem fnExactPaperBody_holds : Rows.FnExactPaperBodyCardSaid := fnExactPaperBody.card
#print axioms fnExactPaperBody_holds
end Go.Proofs.YtcdebinldmblkaaGreatDoor
