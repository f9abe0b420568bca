/- DiffsText answers at every list of Diffs as the model does, and writes into no argument. Conditions: none but what the card ties. -/
import Derived.Test.YtoccmgoglkdcpaaDoorSzDf
import Derived.Test.YtoccmgoglkdcpaaDoorToDf
import Derived.Test.YtoccmgoglkdcpaaDoorEqDf
import Derived.Test.YtoccmgoglkdcpaaDoorDfsI
import Derived.Test.YtoccmgoglkdcpaaDoorDfsS
import Derived.LaidLaws
import Derived.Stop.LaidErr
import Derived.Test.YtoccmgoglkdcpaaDoorCards
import Derived.Test.YtoccmgoglkdcpaaDoorTie
import Derived.Lib.SmallJoins
import Derived.OpenVars
import Derived.Stop.Joined
import Derived.LaidMore
import Derived.SevenTiedAt
import Derived.Lay
import Derived.MakeChecks
namespace Go.Proofs.YtoccmgoglkdcpaaDoor
open Go.ChangeShapes Go.WideShapes Go.ChangeAt Go.RowKit Go.Joins
open Go.ChangeMaps (open_string shut_string)
set_option linter.unusedVariables false
namespace fnExactDiffsText
theorem tPow : (Tryd.prog.globals[1]?).map (·.type) = some 133 := by kernel_rfl
theorem tab {W : World} (hL : laidMetH Tryd.prog Rows.fnExactDiffsTextRow.laid W) : TabOk W := by
  rw [MakeChecks.laidMetH_plain _ _ _ (by kernel_rfl)] at hL
  have h2 := laidMet.tail (laidMet.tail hL)
  exact Lib.tabIs_of_head gPow tPow Tryd.underlying133 Tryd.underlying125 (by kernel_rfl) (by kernel_rfl) h2
set_option maxHeartbeats 8000000 in
theorem walk (u : Value) (rs : List Dff) (w : World) (h : RowDf w u rs ∧ ∀ (i : Nat) (g : Dff), rs[i]? = some g → DfZ g) (hL : laidMetH Tryd.prog Rows.fnExactDiffsTextRow.laid w) :
    Calls Tryd.prog 4 #[u] w fun e w' => e = .returned (.bool true) ∧ Below w.heap.size w w' := by
  obtain ⟨h, hzz⟩ := h
  have HZZ : Hid (∀ (i : Nat) (g : Dff), rs[i]? = some g → DfZ g) := hzz
  clear hzz
  obtain ⟨A, cap, rfl⟩ := h.val
  have hlen := h.len
  have H0 : Hid (RowDf w (.slice A rs.length cap) rs) := h
  have T0 : Hid (TabOk w) := tab hL
  clear h hL
  go_enter Tryd.func4, Tryd.ntmps4
  go_wp2_with fail
  refine (szDfs_any _ rs 1048576 _ H0.out (by omega)).mono ?_
  rintro e w1 ⟨r, rfl, hr, hb1⟩
  rcases hr with rfl | ⟨g0, g1, hG⟩
  · have H1 : Hid (Below w.heap.size w w1) := hb1
    clear hb1
    go_wp2
    go_ret
    exact ⟨rfl, H1.out⟩
  have g0' : ¬ r < 0 := by omega
  have HG : Hid (BdDf 1048576 rs) := BdDf.mono hG (by omega)
  have H1 : Hid (Below w.heap.size w w1) := hb1
  clear hG hb1
  go_wp2_with fail
  refine (toDfs_any _ rs _ (H0.out.below H1.out) HG.out).mono ?_
  rintro e w2 ⟨v2, rfl, r2, hb2⟩
  have H2 : Hid (Below w.heap.size w w2 ∧ RowDf w2 v2 rs) := ⟨H1.out.trans (hb2.mono H1.out.size), r2.row HG.out⟩
  clear hb2 r2 H1
  go_wp2_with fail
  refine (diffsText_spec _ rs _ H2.out.2 (dfB_of HG.out HZZ.out)).mono ?_
  rintro e w3 ⟨rfl, hb3⟩
  have H3 : Hid (Below w.heap.size w w3) := H2.out.1.trans (hb3.mono H2.out.1.size)
  clear hb3 H2
  go_wp2_with fail
  refine (toDfs_any _ rs _ (H0.out.below H3.out) HG.out).mono ?_
  rintro e w4 ⟨v4, rfl, r4, hb4⟩
  have H4 : Hid (Below w.heap.size w w4 ∧ RowDf w4 v4 rs) := ⟨H3.out.trans (hb4.mono H3.out.size), r4.row HG.out⟩
  clear hb4 r4 H3
  go_wp2_with fail
  refine (diffsText_impl _ rs _ H4.out.2 (dfB_of HG.out HZZ.out) (T0.out.below H4.out.1)).mono ?_
  rintro e w5 ⟨rfl, hb5⟩
  have H5 : Hid (Below w.heap.size w w5 ∧ RowDf w5 v4 rs) := ⟨H4.out.1.trans (hb5.mono H4.out.1.size), H4.out.2.below hb5⟩
  clear hb5 H4
  go_wp2_with fail
  refine (toDfs_any _ rs _ (H0.out.below H5.out.1) HG.out).mono ?_
  rintro e w6 ⟨v6, rfl, r6, hb6⟩
  have H6 : Hid (Below w.heap.size w w6 ∧ RowDf w6 v4 rs ∧ RowDf w6 v6 rs) := ⟨H5.out.1.trans (hb6.mono H5.out.1.size), H5.out.2.below hb6, r6.row HG.out⟩
  clear hb6 r6 H5
  go_wp2_with fail
  refine (eqDfs_any _ _ rs _ H6.out.2.1 H6.out.2.2).mono ?_
  rintro e w7 ⟨rfl, hb7⟩
  have H7 : Hid (Below w.heap.size w w7) := H6.out.1.trans (hb7.mono H6.out.1.size)
  clear hb7
  go_wp2
  go_ret
  exact ⟨rfl, H7.out⟩
theorem own : ownKnob Tryd.prog.godebug = none := by kernel_rfl
theorem laidOut : laidOutB Tryd.prog = true := by kernel_rfl
set_option maxRecDepth 100000 in
theorem lifted (os : Os) (started : os.Started) (H : Type) (enc : TypeId × Value → H) :
    ReturnsInHanded {} Tryd.checked os 4 .any (fun w args => (Rows.fnExactDiffsTextSpec.pre enc Tryd.prog Tryd.f4 [] false w args ∧ laidMetH Tryd.prog Rows.fnExactDiffsTextRow.laid w) ∧ sizedMet enc Tryd.prog Tryd.f4 (OpenSpec.ofChange Rows.fnExactDiffsTextSpec) false w args)
      (Rows.fnExactDiffsTextSpec.post enc Tryd.prog Tryd.f4 false true false false) := by
  refine returnsInHanded_of_change_and (C := Tryd.checked) (X := fun w _ => laidMetH Tryd.prog Rows.fnExactDiffsTextRow.laid w) (fun _ _ _ hh h => h.of_heap hh) own started (by kernel_rfl) Tryd.func4
    (ChangeSpec.witness_shaped (enc := enc) (C := Tryd.checked) (os := os) (X := fun w _ => laidMetH Tryd.prog Rows.fnExactDiffsTextRow.laid w) false (World.laidAll Tryd.prog os Rows.fnExactDiffsTextRow.laid) #[.slice none 0 0] 8 (World.laidAll_os _ _ _) (World.shaped_of_ZipB (by kernel_rfl) (by kernel_rfl)) (by kernel_rfl) (by kernel_rfl) (by kernel_rfl) (by rw [MakeChecks.laidMetH_plain _ _ _ (by kernel_rfl)]; exact laidMet_laidAll _ (by kernel_rfl) (by kernel_rfl))) ?_
  intro W base args ds gs before hval0 hW hcnd _ hL _
  have hval : ∀ (j : Nat) t v, Tryd.f4.params[j]? = some t → args[j]? = some v → Value.okWide Tryd.prog W .any base t v := hval0
  have hW' := hW
  obtain ⟨p, q, hA0, hV, rfl, hfz, hnd⟩ := hW
  have hA : DataW.TrodAll enc Tryd.prog W 0 (fun _ => true) true Tryd.f4.params.toList args.toList ds p := hA0
  rw [Tryd.params4] at hA hval
  obtain ⟨v0, vs0, d0, ds0, p0, q0, hargs, rfl, rfl, h0, r0⟩ := trodAll_cons hA
  obtain ⟨rfl, rfl, rfl⟩ := trodAll_nil r0
  obtain rfl : args = #[v0] := by cases args; simp_all
  obtain ⟨rfl, rfl⟩ := trodVars_none hV
  have k0 := h0
  have lt0 : ∀ x ∈ p0, x.block < W.heap.size := by obtain ⟨m, hm⟩ := k0; exact DataW.trod_lt m _ _ _ hm
  obtain ⟨rs0, hr0⟩ := openDfsaZ (hval 0 35 v0 rfl rfl) h0
  clear hA0 hval0
  refine (walk v0 rs0 W hr0 hL).mono fun e W' ⟨he, bel⟩ => ?_
  subst he
  exact ⟨_, rfl, _, _, _, [], _, [], hW', trodAll_mk1 (shut_bool Tryd.underlying4 _), (trodAll_cons_mk (Below.trod laidOut (by kernel_rfl) (of_decide_eq_true (by kernel_rfl)) k0 bel lt0) trodAll_mk0), rfl, bel.frame _, fun h => by cases h⟩
theorem over : Rows.fnExactDiffsTextRow.holds Tryd.pinned (OpenSpec.ofChange Rows.fnExactDiffsTextSpec) :=
  OpenClaim.holds_of_wide 4 Tryd.f4 rfl rfl rfl rfl rfl rfl rfl ⟨rfl, rfl, rfl, rfl, rfl⟩ rfl rfl rfl rfl rfl (by kernel_rfl) Tryd.func4 (by kernel_rfl)
    (of_decide_eq_true (by kernel_rfl)) (by unfold Func.isWrapper; first | (rw [if_pos (by decide +kernel)]; kernel_rfl) | (rw [if_neg (by decide +kernel)]; exact ⟨rfl, rfl⟩))
    (fun os started H enc _ => lifted os started H enc)
theorem card : Rows.FnExactDiffsTextCardSaid :=
  Claim7.holds_tied_plain_at .later [] [.data, .data, .data] true (true, "5e08337115698a0d6770c06aed59d38621e663a9508dd4d0eb4c046a54d6e8fa") false
    over (fun _ h => by cases h) (by kernel_rfl) (fun _ h => by cases h) fnExactDiffsText_row_tie rfl ⟨rfl, rfl⟩ (by kernel_rfl) rfl
    (fun f fn hf hfn => by
      obtain rfl : f = 4 := Option.some.inj ((show Tryd.prog.funcNamed "loop.example/g00096/laws.FnExactDiffsText" = some 4 by kernel_rfl).symm.trans hf) |>.symm
      obtain rfl : fn = Tryd.f4 := (Option.some.inj (Tryd.func4.symm.trans hfn)).symm
      exact ⟨by kernel_rfl, fun j t ht => by
        rw [Tryd.params4] at ht
        have hj : Tryd.prog.wantsStandIn t = false := by
          rcases j with _ | j
          · have e : t = 35 := by simpa using ht.symm
            subst e
            exact (show Tryd.prog.wantsStandIn 35 = false by kernel_rfl)
          simp at ht
        exact hj⟩)
    (by kernel_rfl)
end fnExactDiffsText
theorem fnExactDiffsText_holds : Rows.FnExactDiffsTextCardSaid := fnExactDiffsText.card
#print axioms fnExactDiffsText_holds
end Go.Proofs.YtoccmgoglkdcpaaDoor
