/- FormRight answers at every form and every segment as the model does, and writes into no argument. Conditions: none but what the card ties. -/
import Derived.Test.YtjoacjohjhpafaaDoorSzRow
import Derived.Test.YtjoacjohjhpafaaDoorLGEq
import Derived.Test.YtjoacjohjhpafaaDoorFormI
import Derived.Test.YtjoacjohjhpafaaDoorFormS
import Derived.Test.YtjoacjohjhpafaaDoorOpenSeg
import Derived.Test.YtjoacjohjhpafaaDoorLaidErrs
import Derived.Deep.RegionHeld3
import Derived.Test.YtjoacjohjhpafaaDoorCards
import Derived.Test.YtjoacjohjhpafaaDoorTie
import Derived.Lib.SmallJoins
import Derived.OpenVars
import Derived.Stop.Joined
import Derived.LaidMore
import Derived.SevenTiedAt
import Derived.Lay
import Derived.MakeChecks
namespace Go.Proofs.YtjoacjohjhpafaaDoor
open Go.ChangeShapes Go.WideShapes Go.ChangeAt Go.RowKit Go.Joins
open Go.ChangeMaps (open_string shut_string)
set_option linter.unusedVariables false
namespace fnExactFormRight
theorem errs {W : World} (hL : laidMetH Tryd.prog Rows.fnExactFormRightRow.laid W) : ErrsAt W := by
  rw [MakeChecks.laidMetH_plain _ _ _ (by kernel_rfl)] at hL
  have h4 := laidMet.tail (laidMet.tail (laidMet.tail (laidMet.tail hL)))
  exact ⟨err_at (laidMet.tail h4) gSyn tSyn, err_at h4 gRng tRng⟩
set_option maxHeartbeats 2000000 in
theorem walk (f tag : ByteArray) (v : Value) (es : List (List ByteArray)) (w : World) (hfs : f.size ≤ maxLen) (ht : tag.size ≤ 9223372036854775807) (h : RowE w v es) (hL : laidMetH Tryd.prog Rows.fnExactFormRightRow.laid w) :
    Calls Tryd.prog 8 #[.string f, .agg #[.string tag, v]] w fun e w' => e = .returned (.bool true) ∧ Below w.heap.size w w' := by
  have hE := errs hL
  clear hL
  obtain ⟨a, cap, rfl⟩ := h.val
  have h0 := LG.begun w 73 (tag := tag) h
  have hE0 := hE.below ((Below.refl _ w).alloc (Nat.le_refl _) (.cells #[.string tag, .slice a es.length cap] 73))
  clear h hE
  have hfs' : f.size ≤ 9223372036854775807 := by unfold maxLen at hfs; omega
  clear hfs
  by_cases hf : 1048576 < f.size
  · have hf' : (1048576 : Int) < (f.size : Int) := by omega
    clear h0
    go_enter Tryd.func8, Tryd.ntmps8
    go_wp2
    go_ret
    exact ⟨rfl, (Below.refl _ _).alloc (Nat.le_refl _) _⟩
  · have hf' : (f.size : Int) ≤ 1048576 := by omega
    have hfz : f.size ≤ 1048576 := by omega
    go_enter Tryd.func8, Tryd.ntmps8
    go_wp2_with fail
    refine (szG_any tag _ es 1048576 _ ht h0.row (by omega)).mono ?_
    rintro e w1 ⟨r, rfl, hr, hb1⟩
    have h1 := h0.below hb1
    have hE1 := hE0.below hb1
    clear hb1 h0 hE0
    rcases hr with rfl | ⟨g0, g1, _, hE⟩
    · have H1 : Hid (Below w.heap.size w w1) := h1.bel
      clear h1
      go_wp2
      go_ret
      exact ⟨rfl, H1.out⟩
    · have g0' : ¬ r < 0 := by omega
      have c0 := h1.c0
      have c1 := h1.c1
      have HE : Hid (BdE 1048576 es) := hE
      clear hE
      go_wp2_with fail
      refine (toG_any tag _ es _ h1.row HE.out).mono ?_
      rintro e w2 ⟨v2, rfl, hO2, hb2⟩
      have h2 := h1.below hb2
      have hE2 := hE1.below hb2
      have h2' := hO2.row HE.out
      clear hb2 hO2 h1 c0 c1 hE1
      go_wp2_with fail
      refine (formRight_spec f tag v2 es _ hfz h2' HE.out).mono ?_
      rintro e w3 ⟨rs, rfl, hrs, hb3⟩
      have h3 := h2.below hb3
      have hE3 := hE2.below hb3
      clear hb3 h2 h2' hE2
      have c0 := h3.c0
      have c1 := h3.c1
      go_wp2_with fail
      refine (toG_any tag _ es _ h3.row HE.out).mono ?_
      rintro e w4 ⟨v4, rfl, hO4, hb4⟩
      obtain ⟨A4, C4, hv4⟩ := (hO4.row HE.out).val
      subst hv4
      have hE4 := hE3.below hb4
      obtain ⟨h4, k4, hne⟩ := (h3.below hb4).made 33 (tag' := tag) (hO4.row HE.out)
      have hE4' := hE4.below ((Below.refl _ w4).alloc (Nat.le_refl _) (.cells #[.string tag, .slice A4 es.length C4] 33))
      clear hb4 hO4 h3 c0 c1 hE3 hE4
      go_wp2_with fail
      refine (formRight_impl f tag _ es _ hfz k4.row HE.out hE4').mono ?_
      rintro e w5 ⟨ri, rfl, hri, hb5⟩
      have hrr : ri = rs := FrO.one hri hrs
      subst hrr
      have h5 := h4.below hb5
      have k5 := k4.below hb5
      clear hb5 h4 k4 hE4' hri hrs
      have c0 := h5.c0
      have c1 := h5.c1
      have d0 := k5.c0
      have d1 := k5.c1
      go_wp2_with fail
      go_region_held3 (fun W => W.cell? ⟨w.heap.size, 0, none⟩ = some (.string tag) ∧ W.cell? ⟨w.heap.size, 1, none⟩ = some (.slice a es.length cap) ∧ W.cell? ⟨w4.heap.size, 0, none⟩ = some (.string tag) ∧ W.cell? ⟨w4.heap.size, 1, none⟩ = some (.slice A4 es.length C4)) (go_keep) (first | (go_at_call 41; refine (toG_lg HE.out h5.drew k5.drew).mono ?_; rintro e w6 ⟨v6, rfl, r6, h6, k6, y0, y1, y2, y3⟩) | (go_at_call 42; refine (eqG_lg r6 h6 k6).mono ?_; rintro e w7 ⟨rfl, h7, k7, z0, z1, z2, z3⟩))
      rename_i hHeld
      clear hHeld
      have H7 : Hid (Below w.heap.size w w7) := h7.bel
      clear h7 k7 h6 k6 h5 k5
      go_wp2
      go_ret
      exact ⟨rfl, H7.out⟩
theorem own : ownKnob Tryd.prog.godebug = none := by kernel_rfl
theorem laidOut : laidOutB Tryd.prog = true := by kernel_rfl
set_option maxRecDepth 100000 in
theorem lifted (os : Os) (started : os.Started) (H : Type) (enc : TypeId × Value → H) :
    ReturnsInHanded {} Tryd.checked os 8 .any (fun w args => (Rows.fnExactFormRightSpec.pre enc Tryd.prog Tryd.f8 [] false w args ∧ laidMetH Tryd.prog Rows.fnExactFormRightRow.laid w) ∧ sizedMet enc Tryd.prog Tryd.f8 (OpenSpec.ofChange Rows.fnExactFormRightSpec) false w args)
      (Rows.fnExactFormRightSpec.post enc Tryd.prog Tryd.f8 false true false false) := by
  refine returnsInHanded_of_change_and (C := Tryd.checked) (X := fun w _ => laidMetH Tryd.prog Rows.fnExactFormRightRow.laid w) (fun _ _ _ hh h => h.of_heap hh) own started (by kernel_rfl) Tryd.func8
    (ChangeSpec.witness_shaped (enc := enc) (C := Tryd.checked) (os := os) (X := fun w _ => laidMetH Tryd.prog Rows.fnExactFormRightRow.laid w) false (World.laidAll Tryd.prog os Rows.fnExactFormRightRow.laid) #[.string ⟨#[]⟩, .agg #[.string ⟨#[]⟩, .slice none 0 0]] 8 (World.laidAll_os _ _ _) (World.shaped_of_ZipB (by kernel_rfl) (by kernel_rfl)) (by kernel_rfl) (by kernel_rfl) (by kernel_rfl) (by rw [MakeChecks.laidMetH_plain _ _ _ (by kernel_rfl)]; exact laidMet_laidAll _ (by kernel_rfl) (by kernel_rfl))) ?_
  intro W base args ds gs before hval0 hW hcnd _ hL _
  have hval : ∀ (j : Nat) t v, Tryd.f8.params[j]? = some t → args[j]? = some v → Value.okWide Tryd.prog W .any base t v := hval0
  have hW' := hW
  obtain ⟨p, q, hA0, hV, rfl, hfz, hnd⟩ := hW
  have hA : DataW.TrodAll enc Tryd.prog W 0 (fun _ => true) true Tryd.f8.params.toList args.toList ds p := hA0
  rw [Tryd.params8] at hA hval
  obtain ⟨v0, vs0, d0, ds0, p0, q0, hargs, rfl, rfl, h0, r0⟩ := trodAll_cons hA
  obtain ⟨v1, vs1, d1, ds1, p1, q1, rfl, rfl, rfl, h1, r1⟩ := trodAll_cons r0
  obtain ⟨rfl, rfl, rfl⟩ := trodAll_nil r1
  obtain rfl : args = #[v0, v1] := by cases args; simp_all
  obtain ⟨rfl, rfl⟩ := trodVars_none hV
  have k0 := h0
  have lt0 : ∀ x ∈ p0, x.block < W.heap.size := by obtain ⟨m, hm⟩ := k0; exact DataW.trod_lt m _ _ _ hm
  obtain ⟨s0, rfl, hs0⟩ : ∃ s : ByteArray, v0 = .string s ∧ s.size ≤ maxLen := by
    obtain ⟨s, rfl, _, _, hs⟩ := open_string Tryd.underlying9 (hval 0 9 v0 rfl rfl) h0
    exact ⟨s, rfl, hs⟩
  have k1 := h1
  have lt1 : ∀ x ∈ p1, x.block < W.heap.size := by obtain ⟨m, hm⟩ := k1; exact DataW.trod_lt m _ _ _ hm
  obtain ⟨t1, u1, es1, rfl, ht1, hr1⟩ := openG (hval 1 73 v1 rfl rfl) h1
  clear hA0 hval0
  refine (walk s0 t1 u1 es1 W hs0 ht1 hr1 hL).mono fun e W' ⟨he, bel⟩ => ?_
  subst he
  exact ⟨_, rfl, _, _, _, [], _, [], hW', trodAll_mk1 (shut_bool Tryd.underlying4 _), (trodAll_cons_mk (Below.trod laidOut (by kernel_rfl) (of_decide_eq_true (by kernel_rfl)) k0 bel lt0) (trodAll_cons_mk (Below.trod laidOut (by kernel_rfl) (of_decide_eq_true (by kernel_rfl)) k1 bel lt1) trodAll_mk0)), rfl, bel.frame _, fun h => by cases h⟩
theorem over : Rows.fnExactFormRightRow.holds Tryd.pinned (OpenSpec.ofChange Rows.fnExactFormRightSpec) :=
  OpenClaim.holds_of_wide 8 Tryd.f8 rfl rfl rfl rfl rfl rfl rfl ⟨rfl, rfl, rfl, rfl, rfl⟩ rfl rfl rfl rfl rfl (by kernel_rfl) Tryd.func8 (by kernel_rfl)
    (of_decide_eq_true (by kernel_rfl)) (by unfold Func.isWrapper; first | (rw [if_pos (by decide +kernel)]; kernel_rfl) | (rw [if_neg (by decide +kernel)]; exact ⟨rfl, rfl⟩))
    (fun os started H enc _ => lifted os started H enc)
theorem card : Rows.FnExactFormRightCardSaid :=
  Claim7.holds_tied_plain_at .later [] [.data, .data, .data, .data, .sentinel, .sentinel, .pinned] true (true, "a9c47ba86dc7e8a9516df53baf4ed28558a11d6aaf00159df49211b8b4147a92") true
    over (fun _ h => by cases h) (by kernel_rfl) (fun _ h => by cases h) fnExactFormRight_row_tie rfl ⟨rfl, rfl⟩ (by kernel_rfl) rfl
    (fun f fn hf hfn => by
      obtain rfl : f = 8 := Option.some.inj ((show Tryd.prog.funcNamed "loop.example/g00096/laws.FnExactFormRight" = some 8 by kernel_rfl).symm.trans hf) |>.symm
      obtain rfl : fn = Tryd.f8 := (Option.some.inj (Tryd.func8.symm.trans hfn)).symm
      exact ⟨by kernel_rfl, fun j t ht => by
        rw [Tryd.params8] at ht
        have hj : Tryd.prog.wantsStandIn t = false := by
          rcases j with _ | j
          · have e : t = 9 := by simpa using ht.symm
            subst e
            exact (show Tryd.prog.wantsStandIn 9 = false by kernel_rfl)
          rcases j with _ | j
          · have e : t = 73 := by simpa using ht.symm
            subst e
            exact (show Tryd.prog.wantsStandIn 73 = false by kernel_rfl)
          simp at ht
        exact hj⟩)
    (by kernel_rfl)
end fnExactFormRight
theorem fnExactFormRight_holds : Rows.FnExactFormRightCardSaid := fnExactFormRight.card
#print axioms fnExactFormRight_holds
end Go.Proofs.YtjoacjohjhpafaaDoor
