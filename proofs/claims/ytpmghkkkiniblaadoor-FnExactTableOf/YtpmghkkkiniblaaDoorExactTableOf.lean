/- TableOf answers at every number as the model does, each call in memory of its own. Conditions: none but what the card ties (the tables as the program lays them). -/
import Derived.Test.YtpmghkkkiniblaaDoorTabMark
import Derived.Test.YtpmghkkkiniblaaDoorCards
import Derived.Test.YtpmghkkkiniblaaDoorTie
import Derived.Lib.SmallJoins
import Derived.OpenVars
import Derived.Stop.Joined
import Derived.LaidMore
import Derived.SevenTiedAt
namespace Go.Proofs.YtpmghkkkiniblaaDoor
open Go.ChangeShapes Go.WideShapes Go.ChangeAt Go.RowKit Go.Joins
open Go.ChangeMaps (open_string shut_string)
set_option linter.unusedVariables false
namespace fnExactTableOf
set_option maxHeartbeats 2000000 in
theorem walk (n : Int) (W : World) (hL : laidMetH Tryd.prog Rows.fnExactTableOfRow.laid W) : Calls Tryd.prog 3 #[.int .i64 n] W fun e W' => e = .returned (.bool true) ∧ Below W.heap.size W W' := by
  have hT : TablesAt W := of_laid hL
  have hlen := rowsI_len n
  clear hL
  go_enter Tryd.func3, Tryd.ntmps3
  go_wp2_with fail
  refine (tableOf_spec n W).mono ?_
  rintro e w1 ⟨v1, rfl, hO1, bel1⟩
  have hT1 := hT.below bel1 rfl
  go_wp2_with fail
  refine (tableOf_impl n w1 hT1).mono ?_
  rintro e w2 ⟨v2, rfl, hO2, bel2⟩
  have hS1 := hO1.sl.below bel2
  have hT2 := hT1.below bel2 rfl
  go_wp2_with fail
  refine (eqRows_same v2 v1 (rowsI n) w2 (by omega) hO2.sl hS1).mono ?_
  rintro e w3 ⟨rfl, bel3⟩
  have hT3 := hT2.below bel3 rfl
  have hS1' := hS1.below bel3
  obtain ⟨g, A, C, rfl, hM, hg⟩ := hO2.may
  have hM3 := hM.below bel3
  have s1 := bel1.size
  have s2 := bel2.size
  have s3 := bel3.size
  go_wp2_with fail
  refine (markRows_any A C g (rowsI n).length 1 w3 (by omega) (by omega) (by omega) hM3).mono ?_
  rintro e w4 ⟨rfl, hm4, hM4, hK4⟩
  obtain ⟨B0, hB0, hB1⟩ : ∃ B0, (0 < (rowsI n).length → B0 = g) ∧ w1.heap.size ≤ B0 := by
    by_cases h0 : 0 < (rowsI n).length
    · exact ⟨g, fun _ => rfl, hg h0⟩
    · exact ⟨w1.heap.size, fun h => absurd h h0, Nat.le_refl _⟩
  have k4 := (hK4 B0 hB0).below (N := w1.heap.size) hB1 (by omega)
  have b14 : Below w1.heap.size w1 w4 := (bel2.trans (bel3.mono s2)).trans k4
  have bW4 : Below W.heap.size W w4 := bel1.trans (b14.mono s1)
  have hat := hM4.at_
  have HH : Hid ((∀ i, i < (rowsI n).length → MkRow w4 g (i * 4) (1 + i * 4)) ∧ (0 < (rowsI n).length → A = some ⟨g, 0, none⟩)) := ⟨hm4, hat⟩
  have HB : Hid (Below w1.heap.size w1 w4 ∧ Below W.heap.size W w4 ∧ OwnT W.heap.size w1 v1 (rowsI n)) := ⟨b14, bW4, hO1⟩
  clear hm4 hM4 hK4 hM3 hM hg hO2 bel1 bel2 bel3 hT1 hT2 hT3 hS1 hS1' k4 b14 bW4 hat hB0 hB1 hO1
  have hq : ¬ ((((1 + (rowsI n).length * 4 : Nat) : Int)) < 0) := by omega
  go_wp2_with fail
  refine (heldRows_any A C g (rowsI n).length 1 w4 (by omega) (by omega) (by omega) HH.out.2 HH.out.1).mono ?_
  rintro e w5 ⟨rfl, bel5⟩
  have s5 := bel5.size
  have s4 := HB.out.1.size
  have hT5 : TablesAt w5 := hT.below (HB.out.2.1.trans (bel5.mono (by omega))) rfl
  go_wp2_with fail
  refine (tableOf_impl n w5 hT5).mono ?_
  rintro e w6 ⟨v6, rfl, hO6, bel6⟩
  have s6 := bel6.size
  have hS6 : SlT w6 v1 (rowsI n) := HB.out.2.2.sl.below ((HB.out.1.trans (bel5.mono (by omega))).trans (bel6.mono (by omega)))
  go_wp2_with fail
  refine (eqRows_same v6 v1 (rowsI n) w6 (by omega) hO6.sl hS6).mono ?_
  rintro e w7 ⟨rfl, bel7⟩
  have s7 := bel7.size
  have hm7 : ∀ i, i < (rowsI n).length → MkRow w7 g (i * 4) (1 + i * 4) := fun i hi => (((HH.out.1 i hi).below bel5).below bel6).below bel7
  have HM7 : Hid (∀ i, i < (rowsI n).length → MkRow w7 g (i * 4) (1 + i * 4)) := hm7
  have HW7 : Hid (Below W.heap.size W w7) := ((HB.out.2.1.trans (bel5.mono (by omega))).trans (bel6.mono (by omega))).trans (bel7.mono (by omega))
  clear hm7 bel5 bel6 bel7 hO6 hS6 hT5
  go_wp2_with fail
  refine (heldRows_any A C g (rowsI n).length 1 w7 (by omega) (by omega) (by omega) HH.out.2 HM7.out).mono ?_
  rintro e w8 ⟨rfl, bel8⟩
  have s8 := bel8.size
  go_wp2
  go_ret
  exact ⟨rfl, HW7.out.trans (bel8.mono (by omega))⟩
theorem own : ownKnob Tryd.prog.godebug = none := by kernel_rfl
theorem laidOut : laidOutB Tryd.prog = true := by kernel_rfl
theorem door_met (os : Os) (args : Array Value) : laidMetH Tryd.prog Rows.fnExactTableOfRow.laid ((World.doorLaid Tryd.prog 44 os).forCall (fun _ _ => 0) ⟨#[], args, []⟩).memory :=
  laidMetH_of_parts3 (fuel := 8) (laidMet_of_run' 8 (by kernel_rfl) (by kernel_rfl)) (by kernel_rfl) (by kernel_rfl)
set_option maxRecDepth 100000 in
theorem lifted (os : Os) (started : os.Started) (H : Type) (enc : TypeId × Value → H) :
    ReturnsInHanded {} Tryd.checked os 3 .any (fun w args => (Rows.fnExactTableOfSpec.pre enc Tryd.prog Tryd.f3 [] false w args ∧ laidMetH Tryd.prog Rows.fnExactTableOfRow.laid w) ∧ sizedMet enc Tryd.prog Tryd.f3 (OpenSpec.ofChange Rows.fnExactTableOfSpec) false w args)
      (Rows.fnExactTableOfSpec.post enc Tryd.prog Tryd.f3 false true false false) := by
  refine returnsInHanded_of_change_and (C := Tryd.checked) (X := fun w _ => laidMetH Tryd.prog Rows.fnExactTableOfRow.laid w) (fun _ _ _ hh h => h.of_heap hh) own started (by kernel_rfl) Tryd.func3
    (ChangeSpec.witness_shaped (enc := enc) (C := Tryd.checked) (os := os) (X := fun w _ => laidMetH Tryd.prog Rows.fnExactTableOfRow.laid w) false (World.doorLaid Tryd.prog 44 os) #[.int .i64 0] 8 rfl (World.shaped_of_RefB (by kernel_rfl) (by kernel_rfl)) (by kernel_rfl) (by kernel_rfl) (by kernel_rfl) (door_met os _)) ?_
  intro W base args ds gs before hval0 hW hcnd _ hL _
  have hval : ∀ (j : Nat) t v, Tryd.f3.params[j]? = some t → args[j]? = some v → Value.okWide Tryd.prog W .any base t v := hval0
  have hW' := hW
  obtain ⟨p, q, hA0, hV, rfl, hfz, hnd⟩ := hW
  have hA : DataW.TrodAll enc Tryd.prog W 0 (fun _ => true) true Tryd.f3.params.toList args.toList ds p := hA0
  rw [Tryd.params3] at hA hval
  obtain ⟨v0, vs0, d0, ds0, p0, q0, hargs, rfl, rfl, h0, r0⟩ := trodAll_cons hA
  obtain ⟨rfl, rfl, rfl⟩ := trodAll_nil r0
  obtain rfl : args = #[v0] := by cases args; simp_all
  obtain ⟨_, _, _, _, gd, _, rfl, _⟩ := trodVars_one hV
  have k0 := h0
  have lt0 : ∀ x ∈ p0, x.block < W.heap.size := by obtain ⟨m, hm⟩ := k0; exact DataW.trod_lt m _ _ _ hm
  obtain ⟨n0, rfl⟩ : ∃ n : Int, v0 = .int .i64 n := by
    obtain ⟨n, rfl, _, _, _⟩ := open_int Tryd.underlying2 (hval 0 2 v0 rfl rfl) h0
    exact ⟨n, rfl⟩
  clear hA0 hval0
  refine (walk n0 W  hL).mono fun e W' ⟨he, bel⟩ => ?_
  subst he
  exact ⟨_, rfl, _, _, _, [], _, _, hW', trodAll_mk1 (shut_bool Tryd.underlying4 _), (trodAll_cons_mk (Below.trod laidOut (by kernel_rfl) (of_decide_eq_true (by kernel_rfl)) k0 bel lt0) trodAll_mk0), Below.trodVars laidOut bel (by kernel_rfl) hV, bel.frame _, fun h => by cases h⟩
theorem over : Rows.fnExactTableOfRow.holds Tryd.pinned (OpenSpec.ofChange Rows.fnExactTableOfSpec) :=
  OpenClaim.holds_of_wide 3 Tryd.f3 rfl rfl rfl rfl rfl rfl rfl ⟨rfl, rfl, rfl, rfl, rfl⟩ rfl rfl rfl rfl rfl (by kernel_rfl) Tryd.func3 (by kernel_rfl)
    (of_decide_eq_true (by kernel_rfl)) (by unfold Func.isWrapper; first | (rw [if_pos (by decide +kernel)]; kernel_rfl) | (rw [if_neg (by decide +kernel)]; exact ⟨rfl, rfl⟩))
    (fun os started H enc _ => lifted os started H enc)
theorem card : Rows.FnExactTableOfCardSaid :=
  Claim7.holds_tied_plain_at .later [] [.widerDeep] true (true, "9677251f991fd060333414343e26bed35564ddd8139207c2a7780dced09c2563") false
    over (fun _ h => by cases h) (by kernel_rfl) (fun _ h => by cases h) fnExactTableOf_row_tie rfl ⟨rfl, rfl⟩ (by kernel_rfl) rfl
    (fun f fn hf hfn => by
      obtain rfl : f = 3 := Option.some.inj ((show Tryd.prog.funcNamed "loop.example/g00096/laws.FnExactTableOf" = some 3 by kernel_rfl).symm.trans hf) |>.symm
      obtain rfl : fn = Tryd.f3 := (Option.some.inj (Tryd.func3.symm.trans hfn)).symm
      exact ⟨by kernel_rfl, fun j t ht => by
        rw [Tryd.params3] at ht
        have hj : Tryd.prog.wantsStandIn t = false := by
          rcases j with _ | j
          · have e : t = 2 := by simpa using ht.symm
            subst e
            exact (show Tryd.prog.wantsStandIn 2 = false by kernel_rfl)
          simp at ht
        exact hj⟩)
    (by kernel_rfl)
end fnExactTableOf
theorem fnExactTableOf_holds : Rows.FnExactTableOfCardSaid := fnExactTableOf.card
#print axioms fnExactTableOf_holds
end Go.Proofs.YtpmghkkkiniblaaDoor
