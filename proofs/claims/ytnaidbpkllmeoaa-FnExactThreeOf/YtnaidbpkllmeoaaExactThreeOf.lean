/- FnExactThreeOf returns true at every order line and leaves it as it was: ThreeOf answers as its model; no condition. -/
import Derived.Test.YtnaidbpkllmeoaaSzOl
import Derived.Test.YtnaidbpkllmeoaaToOl
import Derived.Test.YtnaidbpkllmeoaaOpenOl
import Derived.Test.YtnaidbpkllmeoaaThS
import Derived.Test.YtnaidbpkllmeoaaThV
import Derived.Lib.SmallJoins
namespace Go.Proofs.Ytnaidbpkllmeoaa
open Go.ChangeShapes Go.WideShapes Go.ChangeAt Go.RowKit Go.Joins
open Go.ChangeMaps (open_string shut_string)
set_option linter.unusedVariables false
namespace fnExactThreeOf
set_option maxHeartbeats 4000000 in
theorem walk (l : OLn) (w : World) (h : l.partner.size ≤ 9223372036854775807 ∧ l.ref.size ≤ 9223372036854775807 ∧ l.item.size ≤ 9223372036854775807) :
    Calls Try.prog 3 #[.agg #[.string l.partner, .string l.ref, .int .i64 l.no, .string l.item, .int .i64 l.ordered, .int .i64 l.sent, .int .i64 l.got, .int .i64 l.cut]] w fun e w' => e = .returned (.bool true) ∧ Below w.heap.size w w' := by
  obtain ⟨W0, hW0⟩ : ∃ W0, w.alloc (.cells #[.string l.partner, .string l.ref, .int .i64 l.no, .string l.item, .int .i64 l.ordered, .int .i64 l.sent, .int .i64 l.got, .int .i64 l.cut] 23) = W0 := ⟨_, rfl⟩
  have hb0 : Below w.heap.size w W0 := by rw [← hW0]; exact (Below.refl _ _).alloc (Nat.le_refl _) _
  have hbx : W0.heap[w.heap.size]? = some (.cells #[.string l.partner, .string l.ref, .int .i64 l.no, .string l.item, .int .i64 l.ordered, .int .i64 l.sent, .int .i64 l.got, .int .i64 l.cut] 23) := by rw [← hW0]; exact World.alloc_heap_new _ _
  have HX : Hid (∀ W, Below w.heap.size w W → Below W0.heap.size W0 W → W.cell? ⟨w.heap.size, 0, none⟩ = some (.string l.partner) ∧ W.cell? ⟨w.heap.size, 1, none⟩ = some (.string l.ref) ∧ W.cell? ⟨w.heap.size, 2, none⟩ = some (.int .i64 l.no) ∧ W.cell? ⟨w.heap.size, 3, none⟩ = some (.string l.item) ∧ W.cell? ⟨w.heap.size, 4, none⟩ = some (.int .i64 l.ordered) ∧ W.cell? ⟨w.heap.size, 5, none⟩ = some (.int .i64 l.sent) ∧ W.cell? ⟨w.heap.size, 6, none⟩ = some (.int .i64 l.got) ∧ W.cell? ⟨w.heap.size, 7, none⟩ = some (.int .i64 l.cut)) := fun W _ hW => box8 ((hW.block _ (Array.getElem?_eq_some_iff.1 hbx).1).trans hbx)
  have HB : Hid (Below w.heap.size w W0 ∧ Below W0.heap.size W0 W0) := ⟨hb0, Below.refl _ _⟩
  have HZ : Hid (l.partner.size ≤ 9223372036854775807 ∧ l.ref.size ≤ 9223372036854775807 ∧ l.item.size ≤ 9223372036854775807) := h
  have N : Hid (∀ W W', Below w.heap.size w W ∧ Below W0.heap.size W0 W → Below W.heap.size W W' → Below w.heap.size w W' ∧ Below W0.heap.size W0 W') := fun W W' h1 h2 => ⟨h1.1.trans (h2.mono h1.1.size), h1.2.trans (h2.mono h1.2.size)⟩
  go_enter Try.func3, Try.ntmps3
  go_upto_region 1 with fail
  try rw [hW0]
  clear hW0 hbx hb0 h
  obtain ⟨c0, c1, c2, c3, c4, c5, c6, c7⟩ := HX.out _ HB.out.1 HB.out.2
  go_wp2_with fail
  refine (szOl_any l 1048576 _ HZ.out (by omega)).mono ?_
  rintro e w1 ⟨r, rfl, hr, hb1⟩
  have H1 : Hid _ := N.out _ _ HB.out hb1
  clear hb1 c0 c1 c2 c3 c4 c5 c6 c7
  rcases hr with rfl | ⟨g0, g1, _⟩
  · go_wp2
    go_ret
    exact ⟨rfl, H1.out.1⟩
  have g0' : ¬ r < 0 := by omega
  obtain ⟨c0, c1, c2, c3, c4, c5, c6, c7⟩ := HX.out _ H1.out.1 H1.out.2
  go_wp2_with fail
  refine (toOl_any l _).mono ?_
  rintro e w2 ⟨rfl, hb2⟩
  have H2 : Hid _ := N.out _ _ H1.out hb2
  clear hb2 c0 c1 c2 c3 c4 c5 c6 c7 H1
  go_wp2_with fail
  refine (threeOf_spec l _).mono ?_
  rintro e w3 ⟨rfl, hb3⟩
  have H3 : Hid _ := N.out _ _ H2.out hb3
  clear hb3 H2
  obtain ⟨c0, c1, c2, c3, c4, c5, c6, c7⟩ := HX.out _ H3.out.1 H3.out.2
  go_wp2_with fail
  refine (toOl_any l _).mono ?_
  rintro e w4 ⟨rfl, hb4⟩
  have H4 : Hid _ := N.out _ _ H3.out hb4
  clear hb4 c0 c1 c2 c3 c4 c5 c6 c7 H3
  go_wp2_with fail
  refine (threeOf_impl l _).mono ?_
  rintro e w5 ⟨rfl, hb5⟩
  have H5 : Hid _ := N.out _ _ H4.out hb5
  clear hb5 H4
  go_wp2
  go_ret
  exact ⟨rfl, H5.out.1⟩
theorem own : ownKnob Try.prog.godebug = none := by kernel_rfl
theorem laidOut : laidOutB Try.prog = true := by kernel_rfl
set_option maxRecDepth 100000 in
theorem lifted (os : Os) (started : os.Started) (H : Type) (enc : TypeId × Value → H) :
    ReturnsInHanded {} Try.checked os 3 .any (Rows.fnExactThreeOfSpec.pre6 enc Try.prog Try.f3 Rows.fnExactThreeOfRow.domain false) (Rows.fnExactThreeOfSpec.post enc Try.prog Try.f3 false true false false) := by
  refine returnsInHanded_of_change (C := Try.checked) own started (by kernel_rfl) Try.func3
    (ChangeSpec.witness6 (enc := enc) (C := Try.checked) false ⟨#[], #[.agg #[.string ⟨#[]⟩, .string ⟨#[]⟩, .int .i64 0, .string ⟨#[]⟩, .int .i64 0, .int .i64 0, .int .i64 0, .int .i64 0]], []⟩ 8 (by kernel_rfl) (by kernel_rfl) (by kernel_rfl) (by kernel_rfl)) ?_
  intro W base args ds gs before hval0 hW hcnd _
  have hval : ∀ (j : Nat) t v, Try.f3.params[j]? = some t → args[j]? = some v → Value.okWide Try.prog W .any base t v := hval0
  have hW' := hW
  obtain ⟨p, q, hA0, hV, rfl, hfz, hnd⟩ := hW
  have hA : DataW.TrodAll enc Try.prog W 0 (fun _ => true) true Try.f3.params.toList args.toList ds p := hA0
  rw [Try.params3] at hA hval
  obtain ⟨v0, vs0, d0, ds0, p0, q0, hargs, rfl, rfl, h0, r0⟩ := trodAll_cons hA
  obtain ⟨rfl, rfl, rfl⟩ := trodAll_nil r0
  obtain rfl : args = #[v0] := by cases args; simp_all
  obtain ⟨rfl, rfl⟩ := trodVars_none hV
  have k0 := h0
  have lt0 : ∀ x ∈ p0, x.block < W.heap.size := by obtain ⟨m, hm⟩ := k0; exact DataW.trod_lt m _ _ _ hm
  obtain ⟨c0, rfl, hc0⟩ := openOla (hval 0 23 v0 rfl rfl) h0
  clear hA0 hval0
  refine (walk c0 W hc0).mono fun e W' ⟨he, bel⟩ => ?_
  subst he
  exact ⟨_, rfl, _, _, _, [], _, [], hW', trodAll_mk1 (shut_bool Try.underlying4 _), (trodAll_cons_mk (Below.trod laidOut (by kernel_rfl) (of_decide_eq_true (by kernel_rfl)) k0 bel lt0) trodAll_mk0), rfl, bel.frame _, fun h => by cases h⟩
theorem over : Rows.fnExactThreeOfRow.holds Try.pinned (OpenSpec.ofChange Rows.fnExactThreeOfSpec) :=
  OpenClaim.holds_of_wide 3 Try.f3 rfl rfl rfl rfl rfl rfl rfl ⟨rfl, rfl, rfl, rfl, rfl⟩ rfl rfl rfl rfl rfl (by kernel_rfl) Try.func3 (by kernel_rfl)
    (of_decide_eq_true (by kernel_rfl)) (by unfold Func.isWrapper; first | (rw [if_pos (by decide +kernel)]; kernel_rfl) | (rw [if_neg (by decide +kernel)]; exact ⟨rfl, rfl⟩))
    (fun os started H enc _ => lifted os started H enc)
end fnExactThreeOf
theorem fnExactThreeOf_holds : Rows.FnExactThreeOfSaid := fnExactThreeOf.over
#print axioms fnExactThreeOf_holds
end Go.Proofs.Ytnaidbpkllmeoaa
