/- SealFault answers at every list of Events and chain as the model does, and writes into no argument. Conditions: none but what the card ties (the words of events as the program lays them). -/
import Derived.Test.YtibjmokhkjklkaaDoorG48
import Derived.Test.YtibjmokhkjklkaaDoorG32
import Derived.Test.YtibjmokhkjklkaaDoorG33
import Derived.Test.YtibjmokhkjklkaaDoorG38
import Derived.Test.YtibjmokhkjklkaaDoorG40
import Derived.Test.YtibjmokhkjklkaaDoorG41
import Derived.Test.YtibjmokhkjklkaaDoorG44
import Derived.Test.YtibjmokhkjklkaaDoorG03
import Derived.Test.YtibjmokhkjklkaaDoorCards
import Derived.Test.YtibjmokhkjklkaaDoorTie
import Derived.Lib.SmallJoins
import Derived.OpenVars
import Derived.Stop.Joined
import Derived.LaidMore
import Derived.SevenTiedAt
import Derived.Lay
import Derived.MakeChecks
namespace Go.Proofs.YtibjmokhkjklkaaDoor
open Go.ChangeShapes Go.WideShapes Go.ChangeAt Go.RowKit Go.Joins
open Go.ChangeMaps (open_string shut_string)
set_option linter.unusedVariables false
namespace fnExactSealFault
set_option maxHeartbeats 8000000 in
theorem walk (u : Value) (rs : List EvR) (u1 : Value) (zs : List Int) (w : World) (h : RowEv w u rs) (h1 : RowN w u1 zs) (hL : laidMetH Tryd.prog Rows.fnExactSealFaultRow.laid w) :
    Calls Tryd.prog 4 #[u, u1] w fun e w' => e = .returned (.bool true) ∧ Below w.heap.size w w' := by
  obtain ⟨A, cap, rfl⟩ := h.val
  have hlen := h.len
  obtain ⟨A1, cap1, rfl⟩ := h1.val
  have hlen1 := h1.len
  have H0 : Hid (RowEv w (.slice A rs.length cap) rs) := h
  have H1 : Hid (RowN w (.slice A1 zs.length cap1) zs) := h1
  have T0 : Hid (WrdAt w) := wrd_laid hL
  clear h hL h1
  obtain ⟨L, hL⟩ : ∃ L, L = faultT rs zs := ⟨_, rfl⟩
  have HL : Hid (L = faultT rs zs) := hL
  have hLb : -1 ≤ L ∧ L ≤ 400 := by rw [hL]; exact faultT_bd rs zs
  clear hL
  go_enter Tryd.func4, Tryd.ntmps4
  by_cases hz1 : 1048576 < zs.length
  · have hz1' : (1048576 : Int) < (zs.length : Int) := by omega
    go_wp2
    go_ret
    exact ⟨rfl, Below.refl _ _⟩
  have hz1' : ¬ (1048576 : Int) < (zs.length : Int) := by omega
  go_wp2_with fail
  refine (szEvs_any _ rs 1048576 _ H0.out (by omega)).mono ?_
  rintro e w1 ⟨r, rfl, hr, hb⟩
  rcases hr with rfl | ⟨g0, g1, hG⟩
  · have HB : Hid (Below w.heap.size w w1) := hb
    clear hb
    go_wp2
    go_ret
    exact ⟨rfl, HB.out⟩
  have g0' : ¬ r < 0 := by omega
  have HG : Hid (BdEv 1048576 rs) := BdEv.mono hG (by omega)
  have HB : Hid (Below w.heap.size w w1) := hb
  clear hG hb
  go_wp2_with fail
  refine (toEvs_any _ rs _ (H0.out.below HB.out) HG.out).mono ?_
  rintro e wa ⟨v_wa, rfl, r_wa, hb⟩
  have HB : Hid (Below w.heap.size w wa) := HB.out.trans (hb.mono HB.out.size)
  obtain ⟨b_wa, hbb_wa, l_wa⟩ := r_wa.lst HG.out
  have hs_wa := hb.size
  have L_wa : Hid (LEv b_wa wa v_wa rs) := l_wa
  clear l_wa r_wa hb
  go_wp2_with fail
  refine (toN_any _ zs _ (H1.out.below HB.out) (by omega)).mono ?_
  rintro e wb ⟨b_wb, rfl, hbb_wb, hblt_wb, l_wb, hb⟩
  have HB : Hid (Below w.heap.size w wb) := HB.out.trans (hb.mono HB.out.size)
  have L_wa : Hid (LEv b_wa wb v_wa rs) := L_wa.out.below hb
  have L_wb : Hid (LN b_wb wb (.slice (some ⟨b_wb, 0, none⟩) zs.length zs.length) zs) := l_wb
  have hs_wb := hb.size
  clear l_wb hb
  have Q := sealFault_spec _ rs zs _ _ _ L_wa.out.row L_wb.out.row
  rw [← HL.out] at Q
  go_wp2_with fail
  refine Q.mono ?_
  rintro e w3 ⟨rfl, hb⟩
  clear Q
  have HB : Hid (Below w.heap.size w w3) := HB.out.trans (hb.mono HB.out.size)
  clear L_wa
  clear L_wb
  clear hb
  go_wp2_with fail
  refine (toEvs_any _ rs _ (H0.out.below HB.out) HG.out).mono ?_
  rintro e wd ⟨v_wd, rfl, r_wd, hb⟩
  have HB : Hid (Below w.heap.size w wd) := HB.out.trans (hb.mono HB.out.size)
  obtain ⟨b_wd, hbb_wd, l_wd⟩ := r_wd.lst HG.out
  have hs_wd := hb.size
  have L_wd : Hid (LEv b_wd wd v_wd rs) := l_wd
  clear l_wd r_wd hb
  go_wp2_with fail
  refine (toN_any _ zs _ (H1.out.below HB.out) (by omega)).mono ?_
  rintro e we ⟨b_we, rfl, hbb_we, hblt_we, l_we, hb⟩
  have HB : Hid (Below w.heap.size w we) := HB.out.trans (hb.mono HB.out.size)
  have L_wd : Hid (LEv b_wd we v_wd rs) := L_wd.out.below hb
  have L_we : Hid (LN b_we we (.slice (some ⟨b_we, 0, none⟩) zs.length zs.length) zs) := l_we
  have hs_we := hb.size
  clear l_we hb
  have Q := sealFault_impl _ rs zs _ _ _ L_wd.out.row (T0.out.below HB.out) L_we.out.row (Nat.le_refl _) (by omega)
  rw [← HL.out] at Q
  go_wp2_with fail
  refine Q.mono ?_
  rintro e w4 ⟨rfl, hb⟩
  clear Q
  have HB : Hid (Below w.heap.size w w4) := HB.out.trans (hb.mono HB.out.size)
  have L_wd : Hid (LEv b_wd w4 v_wd rs) := L_wd.out.below hb
  have L_we : Hid (LN b_we w4 (.slice (some ⟨b_we, 0, none⟩) zs.length zs.length) zs) := L_we.out.below hb
  clear hb
  go_wp2_with fail
  refine (toEvs_any _ rs _ (H0.out.below HB.out) HG.out).mono ?_
  rintro e wf ⟨v_wf, rfl, r_wf, hb⟩
  have HB : Hid (Below w.heap.size w wf) := HB.out.trans (hb.mono HB.out.size)
  have L_wd : Hid (LEv b_wd wf v_wd rs) := L_wd.out.below hb
  have L_we : Hid (LN b_we wf (.slice (some ⟨b_we, 0, none⟩) zs.length zs.length) zs) := L_we.out.below hb
  obtain ⟨b_wf, hbb_wf, l_wf⟩ := r_wf.lst HG.out
  have hs_wf := hb.size
  have L_wf : Hid (LEv b_wf wf v_wf rs) := l_wf
  clear l_wf r_wf hb
  go_wp2_with fail
  refine (eqEvs_any _ _ rs _ L_wd.out.row L_wf.out.row).mono ?_
  rintro e w5 ⟨rfl, hb⟩
  have HB : Hid (Below w.heap.size w w5) := HB.out.trans (hb.mono HB.out.size)
  clear L_wd
  have L_we : Hid (LN b_we w5 (.slice (some ⟨b_we, 0, none⟩) zs.length zs.length) zs) := L_we.out.below hb
  clear L_wf
  clear hb
  go_wp2_with fail
  refine (toN_any _ zs _ (H1.out.below HB.out) (by omega)).mono ?_
  rintro e wg ⟨b_wg, rfl, hbb_wg, hblt_wg, l_wg, hb⟩
  have HB : Hid (Below w.heap.size w wg) := HB.out.trans (hb.mono HB.out.size)
  have L_we : Hid (LN b_we wg (.slice (some ⟨b_we, 0, none⟩) zs.length zs.length) zs) := L_we.out.below hb
  have L_wg : Hid (LN b_wg wg (.slice (some ⟨b_wg, 0, none⟩) zs.length zs.length) zs) := l_wg
  have hs_wg := hb.size
  clear l_wg hb
  go_wp2_with fail
  refine (eqN_any _ _ zs _ L_we.out.row L_wg.out.row).mono ?_
  rintro e w6 ⟨rfl, hb⟩
  have HB : Hid (Below w.heap.size w w6) := HB.out.trans (hb.mono HB.out.size)
  clear L_we
  clear L_wg
  clear hb
  go_wp2
  go_ret
  exact ⟨rfl, HB.out⟩
theorem own : ownKnob Tryd.prog.godebug = none := by kernel_rfl
theorem laidOut : laidOutB Tryd.prog = true := by kernel_rfl
theorem door_met (os : Os) (args : Array Value) : laidMetH Tryd.prog Rows.fnExactSealFaultRow.laid ((World.doorLaid Tryd.prog 14 os).forCall (fun _ _ => 0) ⟨#[], args, []⟩).memory :=
  laidMetH_of_parts3 (fuel := 8) (laidMet_of_run' 8 (by kernel_rfl) (by kernel_rfl)) (by kernel_rfl) (by kernel_rfl)
set_option maxRecDepth 100000 in
theorem lifted (os : Os) (started : os.Started) (H : Type) (enc : TypeId × Value → H) :
    ReturnsInHanded {} Tryd.checked os 4 .any (fun w args => (Rows.fnExactSealFaultSpec.pre enc Tryd.prog Tryd.f4 [] false w args ∧ laidMetH Tryd.prog Rows.fnExactSealFaultRow.laid w) ∧ sizedMet enc Tryd.prog Tryd.f4 (OpenSpec.ofChange Rows.fnExactSealFaultSpec) false w args)
      (Rows.fnExactSealFaultSpec.post enc Tryd.prog Tryd.f4 false true false false) := by
  refine returnsInHanded_of_change_and (C := Tryd.checked) (X := fun w _ => laidMetH Tryd.prog Rows.fnExactSealFaultRow.laid w) (fun _ _ _ hh h => h.of_heap hh) own started (by kernel_rfl) Tryd.func4
    (ChangeSpec.witness_shaped (enc := enc) (C := Tryd.checked) (os := os) (X := fun w _ => laidMetH Tryd.prog Rows.fnExactSealFaultRow.laid w) false (World.doorLaid Tryd.prog 14 os) #[.slice none 0 0, .slice none 0 0] 8 rfl (World.shaped_of_RefB (by kernel_rfl) (by kernel_rfl)) (by kernel_rfl) (by kernel_rfl) (by kernel_rfl) (door_met os _)) ?_
  intro W base args ds gs before hval0 hW hcnd _ hL _
  have hval : ∀ (j : Nat) t v, Tryd.f4.params[j]? = some t → args[j]? = some v → Value.okWide Tryd.prog W .any base t v := hval0
  have hW' := hW
  obtain ⟨p, q, hA0, hV, rfl, hfz, hnd⟩ := hW
  have hA : DataW.TrodAll enc Tryd.prog W 0 (fun _ => true) true Tryd.f4.params.toList args.toList ds p := hA0
  rw [Tryd.params4] at hA hval
  obtain ⟨v0, vs0, d0, ds0, p0, q0, hargs, rfl, rfl, h0, r0⟩ := trodAll_cons hA
  obtain ⟨v1, vs1, d1, ds1, p1, q1, rfl, rfl, rfl, h1, r1⟩ := trodAll_cons r0
  obtain ⟨rfl, rfl, rfl⟩ := trodAll_nil r1
  obtain rfl : args = #[v0, v1] := by cases args; simp_all
  obtain ⟨_, _, _, _, gd, _, rfl, _⟩ := trodVars_one hV
  have k0 := h0
  have lt0 : ∀ x ∈ p0, x.block < W.heap.size := by obtain ⟨m, hm⟩ := k0; exact DataW.trod_lt m _ _ _ hm
  obtain ⟨rs0, hr0⟩ := openEvsa (hval 0 22 v0 rfl rfl) h0
  have k1 := h1
  have lt1 : ∀ x ∈ p1, x.block < W.heap.size := by obtain ⟨m, hm⟩ := k1; exact DataW.trod_lt m _ _ _ hm
  obtain ⟨zs1, hr1⟩ := openNs (hval 1 24 v1 rfl rfl) h1
  clear hA0 hval0
  refine (walk v0 rs0 v1 zs1 W hr0 hr1 hL).mono fun e W' ⟨he, bel⟩ => ?_
  subst he
  exact ⟨_, rfl, _, _, _, [], _, _, hW', trodAll_mk1 (shut_bool Tryd.underlying4 _), (trodAll_cons_mk (Below.trod laidOut (by kernel_rfl) (of_decide_eq_true (by kernel_rfl)) k0 bel lt0) (trodAll_cons_mk (Below.trod laidOut (by kernel_rfl) (of_decide_eq_true (by kernel_rfl)) k1 bel lt1) trodAll_mk0)), Below.trodVars laidOut bel (by kernel_rfl) hV, bel.frame _, fun h => by cases h⟩
theorem over : Rows.fnExactSealFaultRow.holds Tryd.pinned (OpenSpec.ofChange Rows.fnExactSealFaultSpec) :=
  OpenClaim.holds_of_wide 4 Tryd.f4 rfl rfl rfl rfl rfl rfl rfl ⟨rfl, rfl, rfl, rfl, rfl⟩ rfl rfl rfl rfl rfl (by kernel_rfl) Tryd.func4 (by kernel_rfl)
    (of_decide_eq_true (by kernel_rfl)) (by unfold Func.isWrapper; first | (rw [if_pos (by decide +kernel)]; kernel_rfl) | (rw [if_neg (by decide +kernel)]; exact ⟨rfl, rfl⟩))
    (fun os started H enc _ => lifted os started H enc)
theorem card : Rows.FnExactSealFaultCardSaid :=
  Claim7.holds_tied_plain_at .later [] [.data] true (true, "d6e7dc45e19172ea6cc2aa3a41c2d910d314ee5d2b6bc359248a11bc9cf2512a") false
    over (fun _ h => by cases h) (by kernel_rfl) (fun _ h => by cases h) fnExactSealFault_row_tie rfl ⟨rfl, rfl⟩ (by kernel_rfl) rfl
    (fun f fn hf hfn => by
      obtain rfl : f = 4 := Option.some.inj ((show Tryd.prog.funcNamed "loop.example/g00096/laws.FnExactSealFault" = some 4 by kernel_rfl).symm.trans hf) |>.symm
      obtain rfl : fn = Tryd.f4 := (Option.some.inj (Tryd.func4.symm.trans hfn)).symm
      exact ⟨by kernel_rfl, fun j t ht => by
        rw [Tryd.params4] at ht
        have hj : Tryd.prog.wantsStandIn t = false := by
          rcases j with _ | j
          · have e : t = 22 := by simpa using ht.symm
            subst e
            exact (show Tryd.prog.wantsStandIn 22 = false by kernel_rfl)
          rcases j with _ | j
          · have e : t = 24 := by simpa using ht.symm
            subst e
            exact (show Tryd.prog.wantsStandIn 24 = false by kernel_rfl)
          simp at ht
        exact hj⟩)
    (by kernel_rfl)
end fnExactSealFault
theorem fnExactSealFault_holds : Rows.FnExactSealFaultCardSaid := fnExactSealFault.card
#print axioms fnExactSealFault_holds
end Go.Proofs.YtibjmokhkjklkaaDoor
