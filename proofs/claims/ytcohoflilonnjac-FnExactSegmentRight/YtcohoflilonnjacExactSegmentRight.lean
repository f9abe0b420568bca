/- FnExactSegmentRight returns true at every segment and leaves it as it was: SegmentRight answers as its model and writes into no argument; no condition. -/
import Derived.Test.YtcohoflilonnjacSzRow
import Derived.Test.YtcohoflilonnjacLGEq
import Derived.Test.YtcohoflilonnjacRightGS
import Derived.Test.YtcohoflilonnjacOpenSeg
import Derived.Deep.RegionHeld3
import Derived.Lib.SmallJoins
namespace Go.Proofs.Ytcohoflilonnjac
open Go.ChangeShapes Go.WideShapes Go.ChangeAt Go.RowKit Go.Joins
open Go.ChangeMaps (open_string shut_string)
set_option linter.unusedVariables false
namespace fnExactSegmentRight
set_option maxHeartbeats 2000000 in
theorem walk (tag : ByteArray) (v : Value) (es : List (List ByteArray)) (w : World) (ht : tag.size ≤ 9223372036854775807) (h : RowE w v es) :
    Calls Try.prog 3 #[.agg #[.string tag, v]] w fun e w' => e = .returned (.bool true) ∧ Below w.heap.size w w' := by
  obtain ⟨a, cap, rfl⟩ := h.val
  have h0 := LG.begun w 24 (tag := tag) h
  clear h
  go_enter Try.func3, Try.ntmps3
  go_wp2_with fail
  refine (szG_any tag _ es 1048576 _ ht h0.row (by omega)).mono ?_
  rintro e w1 ⟨r, rfl, hr, hb1⟩
  have h1 := h0.below hb1
  clear hb1 h0
  rcases hr with rfl | ⟨g0, g1, _, hE⟩
  · have H1 : Hid (Below w.heap.size w w1) := h1.bel
    clear h1
    go_wp2
    go_ret
    exact ⟨rfl, H1.out⟩
  · have g0' : ¬ r < 0 := by omega
    have c0 := h1.c0
    have c1 := h1.c1
    have HE : Hid (BdE 1048576 es) := hE
    clear hE
    go_wp2_with fail
    refine (toG_any tag _ es _ h1.row HE.out).mono ?_
    rintro e w2 ⟨v2, rfl, hO2, hb2⟩
    have h2 := h1.below hb2
    have h2' := hO2.row HE.out
    clear hb2 hO2 h1 c0 c1
    go_wp2_with fail
    refine (right_seg_spec tag v2 es _ h2' HE.out).mono ?_
    rintro e w3 ⟨rfl, hb3⟩
    have h3 := h2.below hb3
    clear hb3 h2 h2'
    have c0 := h3.c0
    have c1 := h3.c1
    go_wp2_with fail
    refine (toG_any tag _ es _ h3.row HE.out).mono ?_
    rintro e w4 ⟨v4, rfl, hO4, hb4⟩
    obtain ⟨A4, C4, hv4⟩ := (hO4.row HE.out).val
    subst hv4
    obtain ⟨h4, k4, hne⟩ := (h3.below hb4).made 29 (tag' := tag) (hO4.row HE.out)
    clear hb4 hO4 h3 c0 c1
    go_wp2_with fail
    refine (right_seg_impl tag _ es _ k4.row HE.out).mono ?_
    rintro e w5 ⟨rfl, hb5⟩
    have h5 := h4.below hb5
    have k5 := k4.below hb5
    clear hb5 h4 k4
    have c0 := h5.c0
    have c1 := h5.c1
    have d0 := k5.c0
    have d1 := k5.c1
    go_wp2_with fail
    go_region_held3 (fun W => W.cell? ⟨w.heap.size, 0, none⟩ = some (.string tag) ∧ W.cell? ⟨w.heap.size, 1, none⟩ = some (.slice a es.length cap) ∧ W.cell? ⟨w4.heap.size, 0, none⟩ = some (.string tag) ∧ W.cell? ⟨w4.heap.size, 1, none⟩ = some (.slice A4 es.length C4)) (go_keep) (first | (go_at_call 11; refine (toG_lg HE.out h5.drew k5.drew).mono ?_; rintro e w6 ⟨v6, rfl, r6, h6, k6, y0, y1, y2, y3⟩) | (go_at_call 13; refine (eqG_lg r6 h6 k6).mono ?_; rintro e w7 ⟨rfl, h7, k7, z0, z1, z2, z3⟩))
    rename_i hHeld
    clear hHeld
    have H7 : Hid (Below w.heap.size w w7) := h7.bel
    clear h7 k7 h6 k6 h5 k5
    go_wp2
    go_ret
    exact ⟨rfl, H7.out⟩
theorem own : ownKnob Try.prog.godebug = none := by kernel_rfl
theorem laidOut : laidOutB Try.prog = true := by kernel_rfl
set_option maxRecDepth 100000 in
theorem lifted (os : Os) (started : os.Started) (H : Type) (enc : TypeId × Value → H) :
    ReturnsInHanded {} Try.checked os 3 .any (Rows.fnExactSegmentRightSpec.pre6 enc Try.prog Try.f3 Rows.fnExactSegmentRightRow.domain false) (Rows.fnExactSegmentRightSpec.post enc Try.prog Try.f3 false true false false) := by
  refine returnsInHanded_of_change (C := Try.checked) own started (by kernel_rfl) Try.func3
    (ChangeSpec.witness6 (enc := enc) (C := Try.checked) false ⟨#[], #[.agg #[.string ⟨#[]⟩, .slice none 0 0]], []⟩ 8 (by kernel_rfl) (by kernel_rfl) (by kernel_rfl) (by kernel_rfl)) ?_
  intro W base args ds gs before hval0 hW hcnd _
  have hval : ∀ (j : Nat) t v, Try.f3.params[j]? = some t → args[j]? = some v → Value.okWide Try.prog W .any base t v := hval0
  have hW' := hW
  obtain ⟨p, q, hA0, hV, rfl, hfz, hnd⟩ := hW
  have hA : DataW.TrodAll enc Try.prog W 0 (fun _ => true) true Try.f3.params.toList args.toList ds p := hA0
  rw [Try.params3] at hA hval
  obtain ⟨v0, vs0, d0, ds0, p0, q0, hargs, rfl, rfl, h0, r0⟩ := trodAll_cons hA
  obtain ⟨rfl, rfl, rfl⟩ := trodAll_nil r0
  obtain rfl : args = #[v0] := by cases args; simp_all
  obtain ⟨rfl, rfl⟩ := trodVars_none hV
  have k0 := h0
  have lt0 : ∀ x ∈ p0, x.block < W.heap.size := by obtain ⟨m, hm⟩ := k0; exact DataW.trod_lt m _ _ _ hm
  obtain ⟨t0, u0, es0, rfl, ht0, hr0⟩ := openG (hval 0 24 v0 rfl rfl) h0
  clear hA0 hval0
  refine (walk t0 u0 es0 W ht0 hr0).mono fun e W' ⟨he, bel⟩ => ?_
  subst he
  exact ⟨_, rfl, _, _, _, [], _, [], hW', trodAll_mk1 (shut_bool Try.underlying4 _), (trodAll_cons_mk (Below.trod laidOut (by kernel_rfl) (of_decide_eq_true (by kernel_rfl)) k0 bel lt0) trodAll_mk0), rfl, bel.frame _, fun h => by cases h⟩
theorem over : Rows.fnExactSegmentRightRow.holds Try.pinned (OpenSpec.ofChange Rows.fnExactSegmentRightSpec) :=
  OpenClaim.holds_of_wide 3 Try.f3 rfl rfl rfl rfl rfl rfl rfl ⟨rfl, rfl, rfl, rfl, rfl⟩ rfl rfl rfl rfl rfl (by kernel_rfl) Try.func3 (by kernel_rfl)
    (of_decide_eq_true (by kernel_rfl)) (by unfold Func.isWrapper; first | (rw [if_pos (by decide +kernel)]; kernel_rfl) | (rw [if_neg (by decide +kernel)]; exact ⟨rfl, rfl⟩))
    (fun os started H enc _ => lifted os started H enc)
end fnExactSegmentRight
theorem fnExactSegmentRight_holds : Rows.FnExactSegmentRightSaid := fnExactSegmentRight.over
#print axioms fnExactSegmentRight_holds
end Go.Proofs.Ytcohoflilonnjac
