/- FnExactRulesRight returns true at every list of rules and leaves it as it was: RulesRight answers as its model and writes into no argument; no condition. -/
import Derived.Test.YtgmbphgkalhceaaSzRu
import Derived.Test.YtgmbphgkalhceaaToRu
import Derived.Test.YtgmbphgkalhceaaEqRu
import Derived.Test.YtgmbphgkalhceaaOpenRu
import Derived.Test.YtgmbphgkalhceaaRuI
import Derived.Test.YtgmbphgkalhceaaRuS
import Derived.Lib.SmallJoins
namespace Go.Proofs.Ytgmbphgkalhceaa
open Go.ChangeShapes Go.WideShapes Go.ChangeAt Go.RowKit Go.Joins
open Go.ChangeMaps (open_string shut_string)
set_option linter.unusedVariables false
namespace fnExactRulesRight
set_option maxHeartbeats 8000000 in
theorem walk (u : Value) (rs : List RulR) (w : World) (h : RowRu w u rs) :
    Calls Try.prog 3 #[u] w fun e w' => e = .returned (.bool true) ∧ Below w.heap.size w w' := by
  obtain ⟨A, cap, rfl⟩ := h.val
  have hlen := h.len
  have H0 : Hid (RowRu w (.slice A rs.length cap) rs) := h
  clear h
  go_enter Try.func3, Try.ntmps3
  go_wp2_with fail
  refine (szRus_any _ rs 1048576 _ H0.out (by omega)).mono ?_
  rintro e w1 ⟨r, rfl, hr, hb1⟩
  rcases hr with rfl | ⟨g0, g1, hG⟩
  · have H1 : Hid (Below w.heap.size w w1) := hb1
    clear hb1
    go_wp2
    go_ret
    exact ⟨rfl, H1.out⟩
  have g0' : ¬ r < 0 := by omega
  have HG : Hid (BdRu 1048576 rs) := BdRu.mono hG (by omega)
  have H1 : Hid (Below w.heap.size w w1) := hb1
  clear hG hb1
  go_wp2_with fail
  refine (toRus_any _ rs _ (H0.out.below H1.out) HG.out).mono ?_
  rintro e w2 ⟨v2, rfl, r2, hb2⟩
  have H2 : Hid (Below w.heap.size w w2 ∧ RowRu w2 v2 rs) := ⟨H1.out.trans (hb2.mono H1.out.size), r2.row HG.out⟩
  clear hb2 r2 H1
  go_wp2_with fail
  refine (rulesRight_spec _ rs _ H2.out.2).mono ?_
  rintro e w3 ⟨rfl, hb3⟩
  have H3 : Hid (Below w.heap.size w w3) := H2.out.1.trans (hb3.mono H2.out.1.size)
  clear hb3 H2
  go_wp2_with fail
  refine (toRus_any _ rs _ (H0.out.below H3.out) HG.out).mono ?_
  rintro e w4 ⟨v4, rfl, r4, hb4⟩
  have H4 : Hid (Below w.heap.size w w4 ∧ RowRu w4 v4 rs) := ⟨H3.out.trans (hb4.mono H3.out.size), r4.row HG.out⟩
  clear hb4 r4 H3
  go_wp2_with fail
  refine (rulesRight_impl _ rs _ H4.out.2).mono ?_
  rintro e w5 ⟨rfl, hb5⟩
  have H5 : Hid (Below w.heap.size w w5 ∧ RowRu w5 v4 rs) := ⟨H4.out.1.trans (hb5.mono H4.out.1.size), H4.out.2.below hb5⟩
  clear hb5 H4
  go_wp2_with fail
  refine (toRus_any _ rs _ (H0.out.below H5.out.1) HG.out).mono ?_
  rintro e w6 ⟨v6, rfl, r6, hb6⟩
  have H6 : Hid (Below w.heap.size w w6 ∧ RowRu w6 v4 rs ∧ RowRu w6 v6 rs) := ⟨H5.out.1.trans (hb6.mono H5.out.1.size), H5.out.2.below hb6, r6.row HG.out⟩
  clear hb6 r6 H5
  go_wp2_with fail
  refine (eqRus_any _ _ rs _ H6.out.2.1 H6.out.2.2).mono ?_
  rintro e w7 ⟨rfl, hb7⟩
  have H7 : Hid (Below w.heap.size w w7) := H6.out.1.trans (hb7.mono H6.out.1.size)
  clear hb7
  go_wp2
  go_ret
  exact ⟨rfl, H7.out⟩
theorem own : ownKnob Try.prog.godebug = none := by kernel_rfl
theorem laidOut : laidOutB Try.prog = true := by kernel_rfl
set_option maxRecDepth 100000 in
theorem lifted (os : Os) (started : os.Started) (H : Type) (enc : TypeId × Value → H) :
    ReturnsInHanded {} Try.checked os 3 .any (Rows.fnExactRulesRightSpec.pre6 enc Try.prog Try.f3 Rows.fnExactRulesRightRow.domain false) (Rows.fnExactRulesRightSpec.post enc Try.prog Try.f3 false true false false) := by
  refine returnsInHanded_of_change (C := Try.checked) own started (by kernel_rfl) Try.func3
    (ChangeSpec.witness6 (enc := enc) (C := Try.checked) false ⟨#[], #[.slice none 0 0], []⟩ 8 (by kernel_rfl) (by kernel_rfl) (by kernel_rfl) (by kernel_rfl)) ?_
  intro W base args ds gs before hval0 hW hcnd _
  have hval : ∀ (j : Nat) t v, Try.f3.params[j]? = some t → args[j]? = some v → Value.okWide Try.prog W .any base t v := hval0
  have hW' := hW
  obtain ⟨p, q, hA0, hV, rfl, hfz, hnd⟩ := hW
  have hA : DataW.TrodAll enc Try.prog W 0 (fun _ => true) true Try.f3.params.toList args.toList ds p := hA0
  rw [Try.params3] at hA hval
  obtain ⟨v0, vs0, d0, ds0, p0, q0, hargs, rfl, rfl, h0, r0⟩ := trodAll_cons hA
  obtain ⟨rfl, rfl, rfl⟩ := trodAll_nil r0
  obtain rfl : args = #[v0] := by cases args; simp_all
  obtain ⟨rfl, rfl⟩ := trodVars_none hV
  have k0 := h0
  have lt0 : ∀ x ∈ p0, x.block < W.heap.size := by obtain ⟨m, hm⟩ := k0; exact DataW.trod_lt m _ _ _ hm
  obtain ⟨rs0, hr0⟩ := openRusa (hval 0 22 v0 rfl rfl) h0
  clear hA0 hval0
  refine (walk v0 rs0 W hr0).mono fun e W' ⟨he, bel⟩ => ?_
  subst he
  exact ⟨_, rfl, _, _, _, [], _, [], hW', trodAll_mk1 (shut_bool Try.underlying4 _), (trodAll_cons_mk (Below.trod laidOut (by kernel_rfl) (of_decide_eq_true (by kernel_rfl)) k0 bel lt0) trodAll_mk0), rfl, bel.frame _, fun h => by cases h⟩
theorem over : Rows.fnExactRulesRightRow.holds Try.pinned (OpenSpec.ofChange Rows.fnExactRulesRightSpec) :=
  OpenClaim.holds_of_wide 3 Try.f3 rfl rfl rfl rfl rfl rfl rfl ⟨rfl, rfl, rfl, rfl, rfl⟩ rfl rfl rfl rfl rfl (by kernel_rfl) Try.func3 (by kernel_rfl)
    (of_decide_eq_true (by kernel_rfl)) (by unfold Func.isWrapper; first | (rw [if_pos (by decide +kernel)]; kernel_rfl) | (rw [if_neg (by decide +kernel)]; exact ⟨rfl, rfl⟩))
    (fun os started H enc _ => lifted os started H enc)
end fnExactRulesRight
theorem fnExactRulesRight_holds : Rows.FnExactRulesRightSaid := fnExactRulesRight.over
#print axioms fnExactRulesRight_holds
end Go.Proofs.Ytgmbphgkalhceaa
