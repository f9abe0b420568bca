/- FnExactThreeOrder returns true at every list of order lines and two texts and leaves it as it was: ThreeOrder answers as its model and writes into no argument; no condition. -/
import Derived.Test.YtnaidbpkllmeoaaSzOl
import Derived.Test.YtnaidbpkllmeoaaToOl
import Derived.Test.YtnaidbpkllmeoaaEqOl
import Derived.Test.YtnaidbpkllmeoaaOpenOl
import Derived.Test.YtnaidbpkllmeoaaThM
import Derived.Test.YtnaidbpkllmeoaaThN
import Derived.Lib.SmallJoins
namespace Go.Proofs.Ytnaidbpkllmeoaa
open Go.ChangeShapes Go.WideShapes Go.ChangeAt Go.RowKit Go.Joins
open Go.ChangeMaps (open_string shut_string)
set_option linter.unusedVariables false
namespace fnExactThreeOrder
set_option maxHeartbeats 8000000 in
theorem walk (u : Value) (rs : List OLn) (p : ByteArray) (t : ByteArray) (w : World) (h : RowOl w u rs) (hp : p.size ≤ maxLen) (ht : t.size ≤ maxLen) :
    Calls Try.prog 5 #[u, .string p, .string t] w fun e w' => e = .returned (.bool true) ∧ Below w.heap.size w w' := by
  obtain ⟨A, cap, rfl⟩ := h.val
  have hlen := h.len
  have H0 : Hid (RowOl w (.slice A rs.length cap) rs) := h
  clear h
  unfold maxLen at hp
  unfold maxLen at ht
  go_enter Try.func5, Try.ntmps5
  by_cases lp : 1048576 < p.size
  · have lp' : (1048576 : Int) < (p.size : Int) := by omega
    go_wp2
    go_ret
    exact ⟨rfl, Below.refl _ _⟩
  have lp' : ¬ (1048576 : Int) < (p.size : Int) := by omega
  by_cases lt : 1048576 < t.size
  · have lt' : (1048576 : Int) < (t.size : Int) := by omega
    go_wp2
    go_ret
    exact ⟨rfl, Below.refl _ _⟩
  have lt' : ¬ (1048576 : Int) < (t.size : Int) := by omega
  go_wp2_with fail
  refine (szOls_any _ rs 1048576 _ H0.out (by omega)).mono ?_
  rintro e w1 ⟨r, rfl, hr, hb1⟩
  rcases hr with rfl | ⟨g0, g1, hG⟩
  · have H1 : Hid (Below w.heap.size w w1) := hb1
    clear hb1
    go_wp2
    go_ret
    exact ⟨rfl, H1.out⟩
  have g0' : ¬ r < 0 := by omega
  have HG : Hid (BdOl 1048576 rs) := BdOl.mono hG (by omega)
  have H1 : Hid (Below w.heap.size w w1) := hb1
  clear hG hb1
  go_wp2_with fail
  refine (toOls_any _ rs _ (H0.out.below H1.out) HG.out).mono ?_
  rintro e w2 ⟨v2, rfl, r2, hb2⟩
  have H2 : Hid (Below w.heap.size w w2 ∧ RowOl w2 v2 rs) := ⟨H1.out.trans (hb2.mono H1.out.size), r2.row HG.out⟩
  clear hb2 r2 H1
  go_wp2_with fail
  refine (threeOrder_specV _ rs p t _ H2.out.2 (by omega) (by omega)).mono ?_
  rintro e w3 ⟨rfl, hb3⟩
  have H3 : Hid (Below w.heap.size w w3) := H2.out.1.trans (hb3.mono H2.out.1.size)
  clear hb3 H2
  go_wp2_with fail
  refine (toOls_any _ rs _ (H0.out.below H3.out) HG.out).mono ?_
  rintro e w4 ⟨v4, rfl, r4, hb4⟩
  have r4' := r4.row HG.out
  obtain ⟨b4, f4, -, rfl, -⟩ := r4
  have H4 : Hid (Below w.heap.size w w4 ∧ RowOl w4 (.slice (some ⟨b4, 0, none⟩) rs.length rs.length) rs) := ⟨H3.out.trans (hb4.mono H3.out.size), r4'⟩
  clear hb4 r4' H3
  go_wp2_with fail
  refine (threeOrder_implV _ rs p t _ H4.out.2 (by omega) (by omega)).mono ?_
  rintro e w5 ⟨rfl, hb5⟩
  have H5 : Hid (Below w.heap.size w w5 ∧ RowOl w5 (.slice (some ⟨b4, 0, none⟩) rs.length rs.length) rs) := ⟨H4.out.1.trans (hb5.mono H4.out.1.size), H4.out.2.below hb5⟩
  clear hb5 H4
  go_wp2_with fail
  refine (toOls_any _ rs _ (H0.out.below H5.out.1) HG.out).mono ?_
  rintro e w6 ⟨v6, rfl, r6, hb6⟩
  have H6 : Hid (Below w.heap.size w w6 ∧ RowOl w6 (.slice (some ⟨b4, 0, none⟩) rs.length rs.length) rs ∧ RowOl w6 v6 rs) := ⟨H5.out.1.trans (hb6.mono H5.out.1.size), H5.out.2.below hb6, r6.row HG.out⟩
  clear hb6 r6 H5
  go_wp2_with fail
  refine (eqOls_any _ _ rs _ H6.out.2.1 H6.out.2.2).mono ?_
  rintro e w7 ⟨rfl, hb7⟩
  have H7 : Hid (Below w.heap.size w w7) := H6.out.1.trans (hb7.mono H6.out.1.size)
  clear hb7
  go_wp2
  go_ret
  exact ⟨rfl, H7.out⟩
theorem own : ownKnob Try.prog.godebug = none := by kernel_rfl
theorem laidOut : laidOutB Try.prog = true := by kernel_rfl
set_option maxRecDepth 100000 in
theorem lifted (os : Os) (started : os.Started) (H : Type) (enc : TypeId × Value → H) :
    ReturnsInHanded {} Try.checked os 5 .any (Rows.fnExactThreeOrderSpec.pre6 enc Try.prog Try.f5 Rows.fnExactThreeOrderRow.domain false) (Rows.fnExactThreeOrderSpec.post enc Try.prog Try.f5 false true false false) := by
  refine returnsInHanded_of_change (C := Try.checked) own started (by kernel_rfl) Try.func5
    (ChangeSpec.witness6 (enc := enc) (C := Try.checked) false ⟨#[], #[.slice none 0 0, .string ⟨#[]⟩, .string ⟨#[]⟩], []⟩ 8 (by kernel_rfl) (by kernel_rfl) (by kernel_rfl) (by kernel_rfl)) ?_
  intro W base args ds gs before hval0 hW hcnd _
  have hval : ∀ (j : Nat) t v, Try.f5.params[j]? = some t → args[j]? = some v → Value.okWide Try.prog W .any base t v := hval0
  have hW' := hW
  obtain ⟨p, q, hA0, hV, rfl, hfz, hnd⟩ := hW
  have hA : DataW.TrodAll enc Try.prog W 0 (fun _ => true) true Try.f5.params.toList args.toList ds p := hA0
  rw [Try.params5] at hA hval
  obtain ⟨v0, vs0, d0, ds0, p0, q0, hargs, rfl, rfl, h0, r0⟩ := trodAll_cons hA
  obtain ⟨v1, vs1, d1, ds1, p1, q1, rfl, rfl, rfl, h1, r1⟩ := trodAll_cons r0
  obtain ⟨v2, vs2, d2, ds2, p2, q2, rfl, rfl, rfl, h2, r2⟩ := trodAll_cons r1
  obtain ⟨rfl, rfl, rfl⟩ := trodAll_nil r2
  obtain rfl : args = #[v0, v1, v2] := by cases args; simp_all
  obtain ⟨rfl, rfl⟩ := trodVars_none hV
  have k0 := h0
  have lt0 : ∀ x ∈ p0, x.block < W.heap.size := by obtain ⟨m, hm⟩ := k0; exact DataW.trod_lt m _ _ _ hm
  obtain ⟨rs0, hr0⟩ := openOlsa (hval 0 29 v0 rfl rfl) h0
  have k1 := h1
  have lt1 : ∀ x ∈ p1, x.block < W.heap.size := by obtain ⟨m, hm⟩ := k1; exact DataW.trod_lt m _ _ _ hm
  obtain ⟨s1, rfl, hs1⟩ : ∃ s : ByteArray, v1 = .string s ∧ s.size ≤ maxLen := by
    obtain ⟨s, rfl, _, _, hs⟩ := open_string Try.underlying9 (hval 1 9 v1 rfl rfl) h1
    exact ⟨s, rfl, hs⟩
  have k2 := h2
  have lt2 : ∀ x ∈ p2, x.block < W.heap.size := by obtain ⟨m, hm⟩ := k2; exact DataW.trod_lt m _ _ _ hm
  obtain ⟨s2, rfl, hs2⟩ : ∃ s : ByteArray, v2 = .string s ∧ s.size ≤ maxLen := by
    obtain ⟨s, rfl, _, _, hs⟩ := open_string Try.underlying9 (hval 2 9 v2 rfl rfl) h2
    exact ⟨s, rfl, hs⟩
  clear hA0 hval0
  refine (walk v0 rs0 s1 s2 W hr0 hs1 hs2).mono fun e W' ⟨he, bel⟩ => ?_
  subst he
  exact ⟨_, rfl, _, _, _, [], _, [], hW', trodAll_mk1 (shut_bool Try.underlying4 _), (trodAll_cons_mk (Below.trod laidOut (by kernel_rfl) (of_decide_eq_true (by kernel_rfl)) k0 bel lt0) (trodAll_cons_mk (Below.trod laidOut (by kernel_rfl) (of_decide_eq_true (by kernel_rfl)) k1 bel lt1) (trodAll_cons_mk (Below.trod laidOut (by kernel_rfl) (of_decide_eq_true (by kernel_rfl)) k2 bel lt2) trodAll_mk0))), rfl, bel.frame _, fun h => by cases h⟩
theorem over : Rows.fnExactThreeOrderRow.holds Try.pinned (OpenSpec.ofChange Rows.fnExactThreeOrderSpec) :=
  OpenClaim.holds_of_wide 5 Try.f5 rfl rfl rfl rfl rfl rfl rfl ⟨rfl, rfl, rfl, rfl, rfl⟩ rfl rfl rfl rfl rfl (by kernel_rfl) Try.func5 (by kernel_rfl)
    (of_decide_eq_true (by kernel_rfl)) (by unfold Func.isWrapper; first | (rw [if_pos (by decide +kernel)]; kernel_rfl) | (rw [if_neg (by decide +kernel)]; exact ⟨rfl, rfl⟩))
    (fun os started H enc _ => lifted os started H enc)
end fnExactThreeOrder
theorem fnExactThreeOrder_holds : Rows.FnExactThreeOrderSaid := fnExactThreeOrder.over
#print axioms fnExactThreeOrder_holds
end Go.Proofs.Ytnaidbpkllmeoaa
