/- FnExactIxRight returns true at every interchange and leaves it as it was: IxRight answers as its model and writes into no argument; no condition. -/
import Derived.Test.YtgkodjeblcmcpaaSzIx
import Derived.Test.YtgkodjeblcmcpaaToIx
import Derived.Test.YtgkodjeblcmcpaaEqIx
import Derived.Test.YtgkodjeblcmcpaaIxI
import Derived.Test.YtgkodjeblcmcpaaIxS
import Derived.Test.YtgkodjeblcmcpaaOpenIx
import Derived.Deep.RegionHeld3
import Derived.Lib.SmallJoins
namespace Go.Proofs.Ytgkodjeblcmcpaa
open Go.ChangeShapes Go.WideShapes Go.ChangeAt Go.RowKit Go.Joins
open Go.ChangeMaps (open_string shut_string)
set_option linter.unusedVariables false
namespace fnExactIxRight
/-- Block A holds the interchange. -/
structure LP (A t : Nat) (w W : World) (p : Ixc) (v : Value) : Prop where
  bel : Below w.heap.size w W
  blk : W.heap[A]? = some (.cells #[.string p.frm, .string p.to, .int .i64 p.num, v] t)
  row : RI W v p
theorem LP.below {A t : Nat} {w W W' : World} {p : Ixc} {v : Value} (h : LP A t w W p v) (hb : Below W.heap.size W W') : LP A t w W' p v :=
  ⟨h.bel.trans (hb.mono h.bel.size), (hb.block A (Array.getElem?_eq_some_iff.1 h.blk).1).trans h.blk, h.row.below hb⟩
theorem LP.drew {A t : Nat} {w W : World} {p : Ixc} {v : Value} (h : LP A t w W p v) : LP A t w W.drew p v := h.below (Below.refl _ _).drew
theorem LP.cells {A t : Nat} {w W : World} {p : Ixc} {v : Value} (h : LP A t w W p v) : W.cell? ⟨A, 0, none⟩ = some (.string p.frm) ∧ W.cell? ⟨A, 1, none⟩ = some (.string p.to) ∧ W.cell? ⟨A, 2, none⟩ = some (.int .i64 p.num) ∧ W.cell? ⟨A, 3, none⟩ = some (v) := by
  have h1 := h.blk
  refine ⟨?_, ?_, ?_, ?_⟩ <;> simp [World.cell?, h1]
theorem LP.made {A t : Nat} {w W : World} {p q : Ixc} {v : Value} (h : LP A t w W p v) (t' : Nat) {v' : Value} (h' : RI W v' q) :
    LP W.heap.size t' w (W.alloc (.cells #[.string q.frm, .string q.to, .int .i64 q.num, v'] t')) q v' :=
  ⟨h.bel.alloc h.bel.size _, World.alloc_heap_new W _, h'.below ((Below.refl _ _).alloc (Nat.le_refl _) _)⟩
set_option maxHeartbeats 8000000 in
theorem walk (p : Ixc) (u : Value) (w : World) (h : RI w u p) :
    Calls Try.prog 3 #[.agg #[.string p.frm, .string p.to, .int .i64 p.num, u]] w fun e w' => e = .returned (.bool true) ∧ Below w.heap.size w w' := by
  obtain ⟨A0, c0, rfl⟩ := h.ls.val
  have b1 : Below w.heap.size w (w.alloc (.cells #[.string p.frm, .string p.to, .int .i64 p.num, (.slice A0 p.buns.length c0)] 24)) := (Below.refl _ _).alloc (Nat.le_refl _) _
  have h0 : LP w.heap.size 24 w (w.alloc (.cells #[.string p.frm, .string p.to, .int .i64 p.num, (.slice A0 p.buns.length c0)] 24)) p (.slice A0 p.buns.length c0) := ⟨b1, World.alloc_heap_new w _, h.below b1⟩
  clear h b1
  go_enter Try.func3, Try.ntmps3
  go_wp2_with fail
  refine (szI_any p _ 1048576 _ h0.row (by omega)).mono ?_
  rintro e w1 ⟨r, rfl, hr, hb1⟩
  have h1 := h0.below hb1
  clear hb1 h0
  rcases hr with rfl | ⟨g0, g1, hP⟩
  · have H1 : Hid (Below w.heap.size w w1) := h1.bel
    clear h1
    go_wp2
    go_ret
    exact ⟨rfl, H1.out⟩
  · have g0' : ¬ r < 0 := by omega
    have HP : Hid (BdI 1048576 p) := hP
    clear hP
    obtain ⟨x0, x1, x2, x3⟩ := h1.cells
    go_wp2_with fail
    refine (toI_any p _ _ h1.row HP.out).mono ?_
    rintro e w2 ⟨v2, rfl, r2, hb2⟩
    have h2 := h1.below hb2
    clear hb2 h1 x0 x1 x2 x3
    go_wp2_with fail
    refine (ixRight_spec p _ _ r2 HP.out).mono ?_
    rintro e w3 ⟨rfl, hb3⟩
    have h3 := h2.below hb3
    clear hb3 h2 r2
    obtain ⟨x0, x1, x2, x3⟩ := h3.cells
    go_wp2_with fail
    refine (toI_any p _ _ h3.row HP.out).mono ?_
    rintro e w5 ⟨va5, rfl, r5, hb5⟩
    have h5 := h3.below hb5
    clear hb5 h3 x0 x1 x2 x3
    obtain ⟨E0, f0, rfl⟩ := r5.ls.val
    have m6 := h5.made 29 r5
    have h6 := h5.below ((Below.refl _ w5).alloc (Nat.le_refl _) (.cells #[.string p.frm, .string p.to, .int .i64 p.num, .slice E0 p.buns.length f0] 29))
    obtain ⟨z0, z1, z2, z3⟩ := m6.cells
    clear h5 r5
    go_wp2_with fail
    refine (ixRight_impl p _ _ m6.row HP.out).mono ?_
    rintro e w9 ⟨rfl, hb9⟩
    have h9 := h6.below hb9
    have m9 := m6.below hb9
    clear hb9 h6 m6 z0 z1 z2 z3
    obtain ⟨x0, x1, x2, x3⟩ := h9.cells
    obtain ⟨z0, z1, z2, z3⟩ := m9.cells
    go_wp2_with fail
    go_region_held3 (fun W => W.cell? ⟨w.heap.size, 0, none⟩ = some (.string p.frm) ∧ W.cell? ⟨w.heap.size, 1, none⟩ = some (.string p.to) ∧ W.cell? ⟨w.heap.size, 2, none⟩ = some (.int .i64 p.num) ∧ W.cell? ⟨w.heap.size, 3, none⟩ = some ((.slice A0 p.buns.length c0)) ∧ W.cell? ⟨w5.heap.size, 0, none⟩ = some (.string p.frm) ∧ W.cell? ⟨w5.heap.size, 1, none⟩ = some (.string p.to) ∧ W.cell? ⟨w5.heap.size, 2, none⟩ = some (.int .i64 p.num) ∧ W.cell? ⟨w5.heap.size, 3, none⟩ = some ((.slice E0 p.buns.length f0))) (go_keep) (first | (go_at_call_of 6 (Value.agg #[.string p.frm, .string p.to, .int .i64 p.num, (.slice A0 p.buns.length c0)]); refine (toI_any p _ _ h9.drew.row HP.out).mono ?_; rintro e wj ⟨vaj, rfl, rj, hb⟩; have hj := h9.drew.below hb; have mj := m9.drew.below hb; clear hb; obtain ⟨xj0, xj1, xj2, xj3⟩ := hj.cells; obtain ⟨zj0, zj1, zj2, zj3⟩ := mj.cells) | (go_at_call 8; refine (eqI_any p _ _ _ mj.row rj).mono ?_; rintro e wg ⟨rfl, hb⟩; have hg := hj.below hb; have mg := mj.below hb; clear hb; obtain ⟨xg0, xg1, xg2, xg3⟩ := hg.cells; obtain ⟨zg0, zg1, zg2, zg3⟩ := mg.cells))
    rename_i hHeld
    clear hHeld
    have HE : Hid (Below w.heap.size w wg) := hg.bel
    clear hg mg h9 m9
    go_wp2
    go_ret
    exact ⟨rfl, HE.out⟩
theorem own : ownKnob Try.prog.godebug = none := by kernel_rfl
theorem laidOut : laidOutB Try.prog = true := by kernel_rfl
set_option maxRecDepth 100000 in
theorem lifted (os : Os) (started : os.Started) (H : Type) (enc : TypeId × Value → H) :
    ReturnsInHanded {} Try.checked os 3 .any (Rows.fnExactIxRightSpec.pre6 enc Try.prog Try.f3 Rows.fnExactIxRightRow.domain false) (Rows.fnExactIxRightSpec.post enc Try.prog Try.f3 false true false false) := by
  refine returnsInHanded_of_change (C := Try.checked) own started (by kernel_rfl) Try.func3
    (ChangeSpec.witness6 (enc := enc) (C := Try.checked) false ⟨#[], #[.agg #[.string ⟨#[]⟩, .string ⟨#[]⟩, .int .i64 0, .slice none 0 0]], []⟩ 8 (by kernel_rfl) (by kernel_rfl) (by kernel_rfl) (by kernel_rfl)) ?_
  intro W base args ds gs before hval0 hW hcnd _
  have hval : ∀ (j : Nat) t v, Try.f3.params[j]? = some t → args[j]? = some v → Value.okWide Try.prog W .any base t v := hval0
  have hW' := hW
  obtain ⟨p, q, hA0, hV, rfl, hfz, hnd⟩ := hW
  have hA : DataW.TrodAll enc Try.prog W 0 (fun _ => true) true Try.f3.params.toList args.toList ds p := hA0
  rw [Try.params3] at hA hval
  obtain ⟨v0, vs0, d0, ds0, p0, q0, hargs, rfl, rfl, h0, r0⟩ := trodAll_cons hA
  obtain ⟨rfl, rfl, rfl⟩ := trodAll_nil r0
  obtain rfl : args = #[v0] := by cases args; simp_all
  obtain ⟨rfl, rfl⟩ := trodVars_none hV
  have k0 := h0
  have lt0 : ∀ x ∈ p0, x.block < W.heap.size := by obtain ⟨m, hm⟩ := k0; exact DataW.trod_lt m _ _ _ hm
  obtain ⟨q0, up0, rfl, hr0⟩ := openIa (hval 0 24 v0 rfl rfl) h0
  clear hA0 hval0
  refine (walk q0 up0 W hr0).mono fun e W' ⟨he, bel⟩ => ?_
  subst he
  exact ⟨_, rfl, _, _, _, [], _, [], hW', trodAll_mk1 (shut_bool Try.underlying4 _), (trodAll_cons_mk (Below.trod laidOut (by kernel_rfl) (of_decide_eq_true (by kernel_rfl)) k0 bel lt0) trodAll_mk0), rfl, bel.frame _, fun h => by cases h⟩
theorem over : Rows.fnExactIxRightRow.holds Try.pinned (OpenSpec.ofChange Rows.fnExactIxRightSpec) :=
  OpenClaim.holds_of_wide 3 Try.f3 rfl rfl rfl rfl rfl rfl rfl ⟨rfl, rfl, rfl, rfl, rfl⟩ rfl rfl rfl rfl rfl (by kernel_rfl) Try.func3 (by kernel_rfl)
    (of_decide_eq_true (by kernel_rfl)) (by unfold Func.isWrapper; first | (rw [if_pos (by decide +kernel)]; kernel_rfl) | (rw [if_neg (by decide +kernel)]; exact ⟨rfl, rfl⟩))
    (fun os started H enc _ => lifted os started H enc)
end fnExactIxRight
theorem fnExactIxRight_holds : Rows.FnExactIxRightSaid := fnExactIxRight.over
#print axioms fnExactIxRight_holds
end Go.Proofs.Ytgkodjeblcmcpaa
