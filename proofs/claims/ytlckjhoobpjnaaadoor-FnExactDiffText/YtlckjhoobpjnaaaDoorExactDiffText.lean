/- DiffText answers at every Diff as the model does. Conditions: none but what the card ties. -/
import Derived.Test.YtlckjhoobpjnaaaDoorSzDf1
import Derived.Test.YtlckjhoobpjnaaaDoorToDf1
import Derived.Test.YtlckjhoobpjnaaaDoorDtS
import Derived.LaidLaws
import Derived.Stop.LaidErr
import Derived.Test.YtlckjhoobpjnaaaDoorCards
import Derived.Test.YtlckjhoobpjnaaaDoorTie
import Derived.Lib.SmallJoins
import Derived.OpenVars
import Derived.Stop.Joined
import Derived.LaidMore
import Derived.SevenTiedAt
import Derived.Lay
import Derived.MakeChecks
namespace Go.Proofs.YtlckjhoobpjnaaaDoor
open Go.ChangeShapes Go.WideShapes Go.ChangeAt Go.RowKit Go.Joins
open Go.ChangeMaps (open_string shut_string)
set_option linter.unusedVariables false
namespace fnExactDiffText
theorem tPow : (Tryd.prog.globals[0]?).map (·.type) = some 56 := by kernel_rfl
theorem tab {W : World} (hL : laidMetH Tryd.prog Rows.fnExactDiffTextRow.laid W) : TabOk W := by
  rw [MakeChecks.laidMetH_plain _ _ _ (by kernel_rfl)] at hL
  have h2 := laidMet.tail (laidMet.tail hL)
  exact Lib.tabIs_of_head gPow tPow Tryd.underlying56 Tryd.underlying46 (by kernel_rfl) (by kernel_rfl) h2
set_option maxHeartbeats 4000000 in
theorem walk (d : Dff) (w : World) (h : (d.partner.size ≤ 9223372036854775807 ∧ d.ref.size ≤ 9223372036854775807 ∧ d.item.size ≤ 9223372036854775807) ∧ i64B d.kind ∧ i64B d.no ∧ i64B d.qty) (hL : laidMetH Tryd.prog Rows.fnExactDiffTextRow.laid w) :
    Calls Tryd.prog 3 #[.agg #[.int .i64 d.kind, .string d.partner, .string d.ref, .int .i64 d.no, .string d.item, .int .i64 d.qty]] w fun e w' => e = .returned (.bool true) ∧ Below w.heap.size w w' := by
  have T0 : Hid (TabOk w) := tab hL
  clear hL
  obtain ⟨h, hi0, hi1, hi2⟩ := h
  obtain ⟨W0, hW0⟩ : ∃ W0, w.alloc (.cells #[.int .i64 d.kind, .string d.partner, .string d.ref, .int .i64 d.no, .string d.item, .int .i64 d.qty] 23) = W0 := ⟨_, rfl⟩
  have hb0 : Below w.heap.size w W0 := by rw [← hW0]; exact (Below.refl _ _).alloc (Nat.le_refl _) _
  have hbx : W0.heap[w.heap.size]? = some (.cells #[.int .i64 d.kind, .string d.partner, .string d.ref, .int .i64 d.no, .string d.item, .int .i64 d.qty] 23) := by rw [← hW0]; exact World.alloc_heap_new _ _
  have HX : Hid (∀ W, Below w.heap.size w W → Below W0.heap.size W0 W → W.cell? ⟨w.heap.size, 0, none⟩ = some (.int .i64 d.kind) ∧ W.cell? ⟨w.heap.size, 1, none⟩ = some (.string d.partner) ∧ W.cell? ⟨w.heap.size, 2, none⟩ = some (.string d.ref) ∧ W.cell? ⟨w.heap.size, 3, none⟩ = some (.int .i64 d.no) ∧ W.cell? ⟨w.heap.size, 4, none⟩ = some (.string d.item) ∧ W.cell? ⟨w.heap.size, 5, none⟩ = some (.int .i64 d.qty)) := fun W _ hW => box6' ((hW.block _ (Array.getElem?_eq_some_iff.1 hbx).1).trans hbx)
  have HB : Hid (Below w.heap.size w W0 ∧ Below W0.heap.size W0 W0) := ⟨hb0, Below.refl _ _⟩
  have HZ : Hid (d.partner.size ≤ 9223372036854775807 ∧ d.ref.size ≤ 9223372036854775807 ∧ d.item.size ≤ 9223372036854775807) := h
  have HI : Hid (i64B d.kind ∧ i64B d.no ∧ i64B d.qty) := ⟨hi0, hi1, hi2⟩
  have N : Hid (∀ W W', Below w.heap.size w W ∧ Below W0.heap.size W0 W → Below W.heap.size W W' → Below w.heap.size w W' ∧ Below W0.heap.size W0 W') := fun W W' h1 h2 => ⟨h1.1.trans (h2.mono h1.1.size), h1.2.trans (h2.mono h1.2.size)⟩
  go_enter Tryd.func3, Tryd.ntmps3
  go_upto_region 1 with fail
  try rw [hW0]
  clear hW0 hbx hb0 h hi0 hi1 hi2
  obtain ⟨c0, c1, c2, c3, c4, c5⟩ := HX.out _ HB.out.1 HB.out.2
  go_wp2_with fail
  refine (szDf_any d 1048576 _ HZ.out (by omega)).mono ?_
  rintro e w1 ⟨r, rfl, hr, hb1⟩
  have H1 : Hid _ := N.out _ _ HB.out hb1
  clear hb1 c0 c1 c2 c3 c4 c5
  rcases hr with rfl | ⟨g0, g1, g2⟩
  · go_wp2
    go_ret
    exact ⟨rfl, H1.out.1⟩
  have HS : Hid (d.partner.size ≤ 1048576 ∧ d.ref.size ≤ 1048576 ∧ d.item.size ≤ 1048576) := by
    refine ⟨?_, ?_, ?_⟩ <;> omega
  clear g2
  have g0' : ¬ r < 0 := by omega
  obtain ⟨c0, c1, c2, c3, c4, c5⟩ := HX.out _ H1.out.1 H1.out.2
  go_wp2_with fail
  refine (toDf_any d _).mono ?_
  rintro e w2 ⟨rfl, hb2⟩
  have H2 : Hid _ := N.out _ _ H1.out hb2
  clear hb2 c0 c1 c2 c3 c4 c5 H1
  go_wp2_with fail
  refine (diffText_spec d _ HS.out HI.out.1 HI.out.2.1 HI.out.2.2).mono ?_
  rintro e w3 ⟨rfl, hb3⟩
  have H3 : Hid _ := N.out _ _ H2.out hb3
  clear hb3 H2
  obtain ⟨c0, c1, c2, c3, c4, c5⟩ := HX.out _ H3.out.1 H3.out.2
  go_wp2_with fail
  refine (toDf_any d _).mono ?_
  rintro e w4 ⟨rfl, hb4⟩
  have H4 : Hid _ := N.out _ _ H3.out hb4
  clear hb4 c0 c1 c2 c3 c4 c5 H3
  go_wp2_with fail
  refine (diffText_impl d _ HS.out HI.out.1 HI.out.2.1 HI.out.2.2 (T0.out.of (H4.out.1.block _ T0.out.lt))).mono ?_
  rintro e w5 ⟨rfl, hb5⟩
  have H5 : Hid _ := N.out _ _ H4.out hb5
  clear hb5 H4
  go_wp2
  go_ret
  exact ⟨rfl, H5.out.1⟩
theorem own : ownKnob Tryd.prog.godebug = none := by kernel_rfl
theorem laidOut : laidOutB Tryd.prog = true := by kernel_rfl
set_option maxRecDepth 100000 in
theorem lifted (os : Os) (started : os.Started) (H : Type) (enc : TypeId × Value → H) :
    ReturnsInHanded {} Tryd.checked os 3 .any (fun w args => (Rows.fnExactDiffTextSpec.pre enc Tryd.prog Tryd.f3 [] false w args ∧ laidMetH Tryd.prog Rows.fnExactDiffTextRow.laid w) ∧ sizedMet enc Tryd.prog Tryd.f3 (OpenSpec.ofChange Rows.fnExactDiffTextSpec) false w args)
      (Rows.fnExactDiffTextSpec.post enc Tryd.prog Tryd.f3 false true false false) := by
  refine returnsInHanded_of_change_and (C := Tryd.checked) (X := fun w _ => laidMetH Tryd.prog Rows.fnExactDiffTextRow.laid w) (fun _ _ _ hh h => h.of_heap hh) own started (by kernel_rfl) Tryd.func3
    (ChangeSpec.witness_shaped (enc := enc) (C := Tryd.checked) (os := os) (X := fun w _ => laidMetH Tryd.prog Rows.fnExactDiffTextRow.laid w) false (World.laidAll Tryd.prog os Rows.fnExactDiffTextRow.laid) #[.agg #[.int .i64 0, .string ⟨#[]⟩, .string ⟨#[]⟩, .int .i64 0, .string ⟨#[]⟩, .int .i64 0]] 8 (World.laidAll_os _ _ _) (World.shaped_of_ZipB (by kernel_rfl) (by kernel_rfl)) (by kernel_rfl) (by kernel_rfl) (by kernel_rfl) (by rw [MakeChecks.laidMetH_plain _ _ _ (by kernel_rfl)]; exact laidMet_laidAll _ (by kernel_rfl) (by kernel_rfl))) ?_
  intro W base args ds gs before hval0 hW hcnd _ hL _
  have hval : ∀ (j : Nat) t v, Tryd.f3.params[j]? = some t → args[j]? = some v → Value.okWide Tryd.prog W .any base t v := hval0
  have hW' := hW
  obtain ⟨p, q, hA0, hV, rfl, hfz, hnd⟩ := hW
  have hA : DataW.TrodAll enc Tryd.prog W 0 (fun _ => true) true Tryd.f3.params.toList args.toList ds p := hA0
  rw [Tryd.params3] at hA hval
  obtain ⟨v0, vs0, d0, ds0, p0, q0, hargs, rfl, rfl, h0, r0⟩ := trodAll_cons hA
  obtain ⟨rfl, rfl, rfl⟩ := trodAll_nil r0
  obtain rfl : args = #[v0] := by cases args; simp_all
  obtain ⟨rfl, rfl⟩ := trodVars_none hV
  have k0 := h0
  have lt0 : ∀ x ∈ p0, x.block < W.heap.size := by obtain ⟨m, hm⟩ := k0; exact DataW.trod_lt m _ _ _ hm
  obtain ⟨c0, rfl, hc0⟩ := openDfI (hval 0 23 v0 rfl rfl) h0
  clear hA0 hval0
  refine (walk c0 W hc0 hL).mono fun e W' ⟨he, bel⟩ => ?_
  subst he
  exact ⟨_, rfl, _, _, _, [], _, [], hW', trodAll_mk1 (shut_bool Tryd.underlying4 _), (trodAll_cons_mk (Below.trod laidOut (by kernel_rfl) (of_decide_eq_true (by kernel_rfl)) k0 bel lt0) trodAll_mk0), rfl, bel.frame _, fun h => by cases h⟩
theorem over : Rows.fnExactDiffTextRow.holds Tryd.pinned (OpenSpec.ofChange Rows.fnExactDiffTextSpec) :=
  OpenClaim.holds_of_wide 3 Tryd.f3 rfl rfl rfl rfl rfl rfl rfl ⟨rfl, rfl, rfl, rfl, rfl⟩ rfl rfl rfl rfl rfl (by kernel_rfl) Tryd.func3 (by kernel_rfl)
    (of_decide_eq_true (by kernel_rfl)) (by unfold Func.isWrapper; first | (rw [if_pos (by decide +kernel)]; kernel_rfl) | (rw [if_neg (by decide +kernel)]; exact ⟨rfl, rfl⟩))
    (fun os started H enc _ => lifted os started H enc)
theorem card : Rows.FnExactDiffTextCardSaid :=
  Claim7.holds_tied_plain_at .later [] [.data, .data, .data] true (true, "d6a682f9e66d9194858e4ebb0142230be7d6a136f7de86870daf2dc5f9d7afee") false
    over (fun _ h => by cases h) (by kernel_rfl) (fun _ h => by cases h) fnExactDiffText_row_tie rfl ⟨rfl, rfl⟩ (by kernel_rfl) rfl
    (fun f fn hf hfn => by
      obtain rfl : f = 3 := Option.some.inj ((show Tryd.prog.funcNamed "loop.example/g00096/laws.FnExactDiffText" = some 3 by kernel_rfl).symm.trans hf) |>.symm
      obtain rfl : fn = Tryd.f3 := (Option.some.inj (Tryd.func3.symm.trans hfn)).symm
      exact ⟨by kernel_rfl, fun j t ht => by
        rw [Tryd.params3] at ht
        have hj : Tryd.prog.wantsStandIn t = false := by
          rcases j with _ | j
          · have e : t = 23 := by simpa using ht.symm
            subst e
            exact (show Tryd.prog.wantsStandIn 23 = false by kernel_rfl)
          simp at ht
        exact hj⟩)
    (by kernel_rfl)
end fnExactDiffText
theorem fnExactDiffText_holds : Rows.FnExactDiffTextCardSaid := fnExactDiffText.card
#print axioms fnExactDiffText_holds
end Go.Proofs.YtlckjhoobpjnaaaDoor
