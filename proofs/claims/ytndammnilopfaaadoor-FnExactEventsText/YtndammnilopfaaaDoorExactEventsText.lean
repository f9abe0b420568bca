/- EventsText answers at every list of Events as the model does, and writes into no argument. Conditions: none but what the card ties (the words of events as the program lays them). -/
import Derived.Test.YtndammnilopfaaaDoorSzEv
import Derived.Test.YtndammnilopfaaaDoorToEv
import Derived.Test.YtndammnilopfaaaDoorEqEv
import Derived.Test.YtndammnilopfaaaDoorOpenEv
import Derived.Test.YtndammnilopfaaaDoorEtI
import Derived.Test.YtndammnilopfaaaDoorEtS
import Derived.Test.YtndammnilopfaaaDoorEvW
import Derived.Test.YtndammnilopfaaaDoorCards
import Derived.Test.YtndammnilopfaaaDoorTie
import Derived.Lib.SmallJoins
import Derived.OpenVars
import Derived.Stop.Joined
import Derived.LaidMore
import Derived.SevenTiedAt
import Derived.Lay
import Derived.MakeChecks
namespace Go.Proofs.YtndammnilopfaaaDoor
open Go.ChangeShapes Go.WideShapes Go.ChangeAt Go.RowKit Go.Joins
open Go.ChangeMaps (open_string shut_string)
set_option linter.unusedVariables false
namespace fnExactEventsText
set_option maxHeartbeats 8000000 in
theorem walk (u : Value) (rs : List EvR) (w : World) (h : RowEv w u rs) (hL : laidMetH Tryd.prog Rows.fnExactEventsTextRow.laid w) :
    Calls Tryd.prog 3 #[u] w fun e w' => e = .returned (.bool true) ∧ Below w.heap.size w w' := by
  obtain ⟨A, cap, rfl⟩ := h.val
  have hlen := h.len
  have H0 : Hid (RowEv w (.slice A rs.length cap) rs) := h
  have T0 : Hid (WrdAt w) := wrd_laid hL
  clear h hL
  go_enter Tryd.func3, Tryd.ntmps3
  go_wp2_with fail
  refine (szEvs_any _ rs 1048576 _ H0.out (by omega)).mono ?_
  rintro e w1 ⟨r, rfl, hr, hb1⟩
  rcases hr with rfl | ⟨g0, g1, hG⟩
  · have H1 : Hid (Below w.heap.size w w1) := hb1
    clear hb1
    go_wp2
    go_ret
    exact ⟨rfl, H1.out⟩
  have g0' : ¬ r < 0 := by omega
  have HG : Hid (BdEv 1048576 rs) := BdEv.mono hG (by omega)
  have H1 : Hid (Below w.heap.size w w1) := hb1
  clear hG hb1
  go_wp2_with fail
  refine (toEvs_any _ rs _ (H0.out.below H1.out) HG.out).mono ?_
  rintro e w2 ⟨v2, rfl, r2, hb2⟩
  have H2 : Hid (Below w.heap.size w w2 ∧ RowEv w2 v2 rs) := ⟨H1.out.trans (hb2.mono H1.out.size), r2.row HG.out⟩
  clear hb2 r2 H1
  go_wp2_with fail
  refine (eventsText_spec _ rs _ H2.out.2).mono ?_
  rintro e w3 ⟨rfl, hb3⟩
  have H3 : Hid (Below w.heap.size w w3) := H2.out.1.trans (hb3.mono H2.out.1.size)
  clear hb3 H2
  go_wp2_with fail
  refine (toEvs_any _ rs _ (H0.out.below H3.out) HG.out).mono ?_
  rintro e w4 ⟨v4, rfl, r4, hb4⟩
  have H4 : Hid (Below w.heap.size w w4 ∧ RowEv w4 v4 rs) := ⟨H3.out.trans (hb4.mono H3.out.size), r4.row HG.out⟩
  clear hb4 r4 H3
  go_wp2_with fail
  refine (eventsText_impl _ rs _ H4.out.2 (T0.out.below H4.out.1)).mono ?_
  rintro e w5 ⟨rfl, hb5⟩
  have H5 : Hid (Below w.heap.size w w5 ∧ RowEv w5 v4 rs) := ⟨H4.out.1.trans (hb5.mono H4.out.1.size), H4.out.2.below hb5⟩
  clear hb5 H4
  go_wp2_with fail
  refine (toEvs_any _ rs _ (H0.out.below H5.out.1) HG.out).mono ?_
  rintro e w6 ⟨v6, rfl, r6, hb6⟩
  have H6 : Hid (Below w.heap.size w w6 ∧ RowEv w6 v4 rs ∧ RowEv w6 v6 rs) := ⟨H5.out.1.trans (hb6.mono H5.out.1.size), H5.out.2.below hb6, r6.row HG.out⟩
  clear hb6 r6 H5
  go_wp2_with fail
  refine (eqEvs_any _ _ rs _ H6.out.2.1 H6.out.2.2).mono ?_
  rintro e w7 ⟨rfl, hb7⟩
  have H7 : Hid (Below w.heap.size w w7) := H6.out.1.trans (hb7.mono H6.out.1.size)
  clear hb7
  go_wp2
  go_ret
  exact ⟨rfl, H7.out⟩
theorem own : ownKnob Tryd.prog.godebug = none := by kernel_rfl
theorem laidOut : laidOutB Tryd.prog = true := by kernel_rfl
theorem door_met (os : Os) (args : Array Value) : laidMetH Tryd.prog Rows.fnExactEventsTextRow.laid ((World.doorLaid Tryd.prog 24 os).forCall (fun _ _ => 0) ⟨#[], args, []⟩).memory :=
  laidMetH_of_parts3 (fuel := 8) (laidMet_of_run' 8 (by kernel_rfl) (by kernel_rfl)) (by kernel_rfl) (by kernel_rfl)
set_option maxRecDepth 100000 in
theorem lifted (os : Os) (started : os.Started) (H : Type) (enc : TypeId × Value → H) :
    ReturnsInHanded {} Tryd.checked os 3 .any (fun w args => (Rows.fnExactEventsTextSpec.pre enc Tryd.prog Tryd.f3 [] false w args ∧ laidMetH Tryd.prog Rows.fnExactEventsTextRow.laid w) ∧ sizedMet enc Tryd.prog Tryd.f3 (OpenSpec.ofChange Rows.fnExactEventsTextSpec) false w args)
      (Rows.fnExactEventsTextSpec.post enc Tryd.prog Tryd.f3 false true false false) := by
  refine returnsInHanded_of_change_and (C := Tryd.checked) (X := fun w _ => laidMetH Tryd.prog Rows.fnExactEventsTextRow.laid w) (fun _ _ _ hh h => h.of_heap hh) own started (by kernel_rfl) Tryd.func3
    (ChangeSpec.witness_shaped (enc := enc) (C := Tryd.checked) (os := os) (X := fun w _ => laidMetH Tryd.prog Rows.fnExactEventsTextRow.laid w) false (World.doorLaid Tryd.prog 24 os) #[.slice none 0 0] 8 rfl (World.shaped_of_RefB (by kernel_rfl) (by kernel_rfl)) (by kernel_rfl) (by kernel_rfl) (by kernel_rfl) (door_met os _)) ?_
  intro W base args ds gs before hval0 hW hcnd _ hL _
  have hval : ∀ (j : Nat) t v, Tryd.f3.params[j]? = some t → args[j]? = some v → Value.okWide Tryd.prog W .any base t v := hval0
  have hW' := hW
  obtain ⟨p, q, hA0, hV, rfl, hfz, hnd⟩ := hW
  have hA : DataW.TrodAll enc Tryd.prog W 0 (fun _ => true) true Tryd.f3.params.toList args.toList ds p := hA0
  rw [Tryd.params3] at hA hval
  obtain ⟨v0, vs0, d0, ds0, p0, q0, hargs, rfl, rfl, h0, r0⟩ := trodAll_cons hA
  obtain ⟨rfl, rfl, rfl⟩ := trodAll_nil r0
  obtain rfl : args = #[v0] := by cases args; simp_all
  obtain ⟨_, _, _, _, gd, _, rfl, _⟩ := trodVars_one hV
  have k0 := h0
  have lt0 : ∀ x ∈ p0, x.block < W.heap.size := by obtain ⟨m, hm⟩ := k0; exact DataW.trod_lt m _ _ _ hm
  obtain ⟨rs0, hr0⟩ := openEvsa (hval 0 22 v0 rfl rfl) h0
  clear hA0 hval0
  refine (walk v0 rs0 W hr0 hL).mono fun e W' ⟨he, bel⟩ => ?_
  subst he
  exact ⟨_, rfl, _, _, _, [], _, _, hW', trodAll_mk1 (shut_bool Tryd.underlying4 _), (trodAll_cons_mk (Below.trod laidOut (by kernel_rfl) (of_decide_eq_true (by kernel_rfl)) k0 bel lt0) trodAll_mk0), Below.trodVars laidOut bel (by kernel_rfl) hV, bel.frame _, fun h => by cases h⟩
theorem over : Rows.fnExactEventsTextRow.holds Tryd.pinned (OpenSpec.ofChange Rows.fnExactEventsTextSpec) :=
  OpenClaim.holds_of_wide 3 Tryd.f3 rfl rfl rfl rfl rfl rfl rfl ⟨rfl, rfl, rfl, rfl, rfl⟩ rfl rfl rfl rfl rfl (by kernel_rfl) Tryd.func3 (by kernel_rfl)
    (of_decide_eq_true (by kernel_rfl)) (by unfold Func.isWrapper; first | (rw [if_pos (by decide +kernel)]; kernel_rfl) | (rw [if_neg (by decide +kernel)]; exact ⟨rfl, rfl⟩))
    (fun os started H enc _ => lifted os started H enc)
theorem card : Rows.FnExactEventsTextCardSaid :=
  Claim7.holds_tied_plain_at .later [] [.data] true (true, "ed963f01cbe095f08cd8eca2db4c333bce875e1f62df3b52bb07c0c21514b5a5") false
    over (fun _ h => by cases h) (by kernel_rfl) (fun _ h => by cases h) fnExactEventsText_row_tie rfl ⟨rfl, rfl⟩ (by kernel_rfl) rfl
    (fun f fn hf hfn => by
      obtain rfl : f = 3 := Option.some.inj ((show Tryd.prog.funcNamed "loop.example/g00096/laws.FnExactEventsText" = some 3 by kernel_rfl).symm.trans hf) |>.symm
      obtain rfl : fn = Tryd.f3 := (Option.some.inj (Tryd.func3.symm.trans hfn)).symm
      exact ⟨by kernel_rfl, fun j t ht => by
        rw [Tryd.params3] at ht
        have hj : Tryd.prog.wantsStandIn t = false := by
          rcases j with _ | j
          · have e : t = 22 := by simpa using ht.symm
            subst e
            exact (show Tryd.prog.wantsStandIn 22 = false by kernel_rfl)
          simp at ht
        exact hj⟩)
    (by kernel_rfl)
end fnExactEventsText
theorem fnExactEventsText_holds : Rows.FnExactEventsTextCardSaid := fnExactEventsText.card
#print axioms fnExactEventsText_holds
end Go.Proofs.YtndammnilopfaaaDoor
