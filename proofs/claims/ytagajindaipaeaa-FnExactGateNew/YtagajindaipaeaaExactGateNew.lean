/- FnExactGateNew returns true at every text and leaves all as it was: GateNew answers as its model; its answer owns its memory; no condition. -/
import Derived.Test.YtagajindaipaeaaGtN
import Derived.Test.YtagajindaipaeaaEqGt
import Derived.Lib.SmallJoins
namespace Go.Proofs.Ytagajindaipaeaa
open Go.ChangeShapes Go.WideShapes Go.ChangeAt Go.RowKit Go.Joins
open Go.ChangeMaps (open_string shut_string)
set_option linter.unusedVariables false
namespace fnExactGateNew
set_option maxHeartbeats 8000000 in
theorem walk (s : ByteArray) (w : World) (hs : s.size ≤ maxLen) :
    Calls Try.prog 3 #[.string s] w fun e w' => e = .returned (.bool true) ∧ Below w.heap.size w w' := by
  unfold maxLen at hs
  go_enter Try.func3, Try.ntmps3
  by_cases ls : 1048576 < s.size
  · have ls' : (1048576 : Int) < (s.size : Int) := by omega
    go_wp2
    go_ret
    exact ⟨rfl, Below.refl _ _⟩
  have ls' : ¬ (1048576 : Int) < (s.size : Int) := by omega
  have hz := newN_size s (by omega)
  have QS := gateNew_spec s
  have QI := fun W => gateNew_impl s W (by omega)
  generalize newN s = t at hz QS QI
  have HZ : Hid (t.size ≤ 9223372036854775807) := hz
  clear hz
  go_wp2_with fail
  refine (QS _).mono ?_
  rintro e w1 ⟨rfl, hb⟩
  have h1 : Below w.heap.size w w1 := hb
  obtain ⟨W2, hW2⟩ : ∃ W2, w1.alloc (.cells #[.string t, .int .i64 0, .slice none 0 0, .slice none 0 0, .slice none 0 0, .slice none 0 0, .slice none 0 0, .slice none 0 0] 31) = W2 := ⟨_, rfl⟩
  have hb2 : Below w1.heap.size w1 W2 := by rw [← hW2]; exact (Below.refl _ _).alloc (Nat.le_refl _) _
  obtain ⟨P, hP⟩ : ∃ P, P = w1.heap.size := ⟨_, rfl⟩
  have kP : W2.heap[P]? = some (.cells #[.string t, .int .i64 0, .slice none 0 0, .slice none 0 0, .slice none 0 0, .slice none 0 0, .slice none 0 0, .slice none 0 0] 31) := by rw [hP, ← hW2]; exact World.alloc_heap_new _ _
  have H2 : Hid (Below w.heap.size w W2 ∧ W2.heap[P]? = some (.cells #[.string t, .int .i64 0, .slice none 0 0, .slice none 0 0, .slice none 0 0, .slice none 0 0, .slice none 0 0, .slice none 0 0] 31)) := ⟨h1.trans (hb2.mono h1.size), kP⟩
  have HW : Hid (w1.alloc (.cells #[.string t, .int .i64 0, .slice none 0 0, .slice none 0 0, .slice none 0 0, .slice none 0 0, .slice none 0 0, .slice none 0 0] 31) = W2 ∧ P = w1.heap.size) := ⟨hW2, hP⟩
  clear hb h1 hb2 hP kP hW2 QS
  go_upto_region 4 with fail
  try rw [HW.out.1]
  try rw [← HW.out.2]
  clear HW
  go_wp2_with fail
  refine (QI _).mono ?_
  rintro e w3 ⟨rfl, hb⟩
  obtain ⟨W4, hW4⟩ : ∃ W4, w3.alloc (.cells #[.string t, .int .i64 0, .slice none 0 0, .slice none 0 0, .slice none 0 0, .slice none 0 0, .slice none 0 0, .slice none 0 0] 31) = W4 := ⟨_, rfl⟩
  have hb4 : Below w3.heap.size w3 W4 := by rw [← hW4]; exact (Below.refl _ _).alloc (Nat.le_refl _) _
  obtain ⟨R, hR⟩ : ∃ R, R = w3.heap.size := ⟨_, rfl⟩
  have kR : W4.heap[R]? = some (.cells #[.string t, .int .i64 0, .slice none 0 0, .slice none 0 0, .slice none 0 0, .slice none 0 0, .slice none 0 0, .slice none 0 0] 31) := by rw [hR, ← hW4]; exact World.alloc_heap_new _ _
  have h3 : Below w.heap.size w w3 := H2.out.1.trans (hb.mono H2.out.1.size)
  have kP := (hb.block _ (Array.getElem?_eq_some_iff.1 H2.out.2).1).trans H2.out.2
  have kP := (hb4.block _ (Array.getElem?_eq_some_iff.1 kP).1).trans kP
  have H4 : Hid (Below w.heap.size w W4 ∧ W4.heap[P]? = some (.cells #[.string t, .int .i64 0, .slice none 0 0, .slice none 0 0, .slice none 0 0, .slice none 0 0, .slice none 0 0, .slice none 0 0] 31) ∧ W4.heap[R]? = some (.cells #[.string t, .int .i64 0, .slice none 0 0, .slice none 0 0, .slice none 0 0, .slice none 0 0, .slice none 0 0, .slice none 0 0] 31)) := ⟨h3.trans (hb4.mono h3.size), kP, kR⟩
  have HW : Hid (w3.alloc (.cells #[.string t, .int .i64 0, .slice none 0 0, .slice none 0 0, .slice none 0 0, .slice none 0 0, .slice none 0 0, .slice none 0 0] 31) = W4 ∧ R = w3.heap.size) := ⟨hW4, hR⟩
  clear hb h3 hb4 hR kP kR hW4 H2
  go_upto_region 5 with fail
  try rw [HW.out.1]
  try rw [← HW.out.2]
  clear HW
  obtain ⟨x0, x1, x2, x3, x4, x5, x6, x7⟩ := bx8 H4.out.2.1
  obtain ⟨y0, y1, y2, y3, y4, y5, y6, y7⟩ := bx8 H4.out.2.2
  go_wp2_with fail
  refine (eqGt_any (nilG t) _ _ _ _ _ _ _ _ _ _ _ _ _ (nilG_row t _ HZ.out) (nilG_row t _ HZ.out)).mono ?_
  rintro e w5 ⟨rfl, hb⟩
  have H5 : Hid (Below w.heap.size w w5 ∧ w5.heap[P]? = some (.cells #[.string t, .int .i64 0, .slice none 0 0, .slice none 0 0, .slice none 0 0, .slice none 0 0, .slice none 0 0, .slice none 0 0] 31) ∧ w5.heap[R]? = some (.cells #[.string t, .int .i64 0, .slice none 0 0, .slice none 0 0, .slice none 0 0, .slice none 0 0, .slice none 0 0, .slice none 0 0] 31)) := ⟨H4.out.1.trans (hb.mono H4.out.1.size), (hb.block _ (Array.getElem?_eq_some_iff.1 H4.out.2.1).1).trans H4.out.2.1, (hb.block _ (Array.getElem?_eq_some_iff.1 H4.out.2.2).1).trans H4.out.2.2⟩
  clear hb x0 x1 x2 x3 x4 x5 x6 x7 y0 y1 y2 y3 y4 y5 y6 y7 H4
  obtain ⟨x0, x1, x2, x3, x4, x5, x6, x7⟩ := bx8 H5.out.2.1
  obtain ⟨y0, y1, y2, y3, y4, y5, y6, y7⟩ := bx8 H5.out.2.2
  go_wp2_with fail
  refine (markNilGate t 1 _).mono ?_
  rintro e w6 ⟨rfl, hb⟩
  have H6 : Hid (Below w.heap.size w w6 ∧ w6.heap[P]? = some (.cells #[.string t, .int .i64 0, .slice none 0 0, .slice none 0 0, .slice none 0 0, .slice none 0 0, .slice none 0 0, .slice none 0 0] 31) ∧ w6.heap[R]? = some (.cells #[.string t, .int .i64 0, .slice none 0 0, .slice none 0 0, .slice none 0 0, .slice none 0 0, .slice none 0 0, .slice none 0 0] 31)) := ⟨H5.out.1.trans (hb.mono H5.out.1.size), (hb.block _ (Array.getElem?_eq_some_iff.1 H5.out.2.1).1).trans H5.out.2.1, (hb.block _ (Array.getElem?_eq_some_iff.1 H5.out.2.2).1).trans H5.out.2.2⟩
  clear hb x0 x1 x2 x3 x4 x5 x6 x7 y0 y1 y2 y3 y4 y5 y6 y7 H5
  obtain ⟨x0, x1, x2, x3, x4, x5, x6, x7⟩ := bx8 H6.out.2.1
  obtain ⟨y0, y1, y2, y3, y4, y5, y6, y7⟩ := bx8 H6.out.2.2
  go_wp2_with fail
  refine (heldNilGate t 1 _ (by omega)).mono ?_
  rintro e w7 ⟨rfl, hb⟩
  have H7 : Hid (Below w.heap.size w w7 ∧ w7.heap[P]? = some (.cells #[.string t, .int .i64 0, .slice none 0 0, .slice none 0 0, .slice none 0 0, .slice none 0 0, .slice none 0 0, .slice none 0 0] 31) ∧ w7.heap[R]? = some (.cells #[.string t, .int .i64 0, .slice none 0 0, .slice none 0 0, .slice none 0 0, .slice none 0 0, .slice none 0 0, .slice none 0 0] 31)) := ⟨H6.out.1.trans (hb.mono H6.out.1.size), (hb.block _ (Array.getElem?_eq_some_iff.1 H6.out.2.1).1).trans H6.out.2.1, (hb.block _ (Array.getElem?_eq_some_iff.1 H6.out.2.2).1).trans H6.out.2.2⟩
  clear hb x0 x1 x2 x3 x4 x5 x6 x7 y0 y1 y2 y3 y4 y5 y6 y7 H6
  obtain ⟨x0, x1, x2, x3, x4, x5, x6, x7⟩ := bx8 H7.out.2.1
  obtain ⟨y0, y1, y2, y3, y4, y5, y6, y7⟩ := bx8 H7.out.2.2
  go_wp2_with fail
  refine (QI _).mono ?_
  rintro e w8 ⟨rfl, hb⟩
  obtain ⟨W9, hW9⟩ : ∃ W9, w8.alloc (.cells #[.string t, .int .i64 0, .slice none 0 0, .slice none 0 0, .slice none 0 0, .slice none 0 0, .slice none 0 0, .slice none 0 0] 31) = W9 := ⟨_, rfl⟩
  have hb9 : Below w8.heap.size w8 W9 := by rw [← hW9]; exact (Below.refl _ _).alloc (Nat.le_refl _) _
  obtain ⟨Q, hQ⟩ : ∃ Q, Q = w8.heap.size := ⟨_, rfl⟩
  have kQ : W9.heap[Q]? = some (.cells #[.string t, .int .i64 0, .slice none 0 0, .slice none 0 0, .slice none 0 0, .slice none 0 0, .slice none 0 0, .slice none 0 0] 31) := by rw [hQ, ← hW9]; exact World.alloc_heap_new _ _
  have h8 : Below w.heap.size w w8 := H7.out.1.trans (hb.mono H7.out.1.size)
  have kP := (hb.block _ (Array.getElem?_eq_some_iff.1 H7.out.2.1).1).trans H7.out.2.1
  have kP := (hb9.block _ (Array.getElem?_eq_some_iff.1 kP).1).trans kP
  have kR := (hb.block _ (Array.getElem?_eq_some_iff.1 H7.out.2.2).1).trans H7.out.2.2
  have kR := (hb9.block _ (Array.getElem?_eq_some_iff.1 kR).1).trans kR
  have H9 : Hid (Below w.heap.size w W9 ∧ W9.heap[P]? = some (.cells #[.string t, .int .i64 0, .slice none 0 0, .slice none 0 0, .slice none 0 0, .slice none 0 0, .slice none 0 0, .slice none 0 0] 31) ∧ W9.heap[R]? = some (.cells #[.string t, .int .i64 0, .slice none 0 0, .slice none 0 0, .slice none 0 0, .slice none 0 0, .slice none 0 0, .slice none 0 0] 31) ∧ W9.heap[Q]? = some (.cells #[.string t, .int .i64 0, .slice none 0 0, .slice none 0 0, .slice none 0 0, .slice none 0 0, .slice none 0 0, .slice none 0 0] 31)) := ⟨h8.trans (hb9.mono h8.size), kP, kR, kQ⟩
  have HW : Hid (w8.alloc (.cells #[.string t, .int .i64 0, .slice none 0 0, .slice none 0 0, .slice none 0 0, .slice none 0 0, .slice none 0 0, .slice none 0 0] 31) = W9 ∧ Q = w8.heap.size) := ⟨hW9, hQ⟩
  clear hb h8 hb9 hQ kP kR kQ hW9 H7 x0 x1 x2 x3 x4 x5 x6 x7 y0 y1 y2 y3 y4 y5 y6 y7
  go_upto_region 16 with fail
  try rw [HW.out.1]
  try rw [← HW.out.2]
  clear HW
  obtain ⟨x0, x1, x2, x3, x4, x5, x6, x7⟩ := bx8 H9.out.2.1
  obtain ⟨y0, y1, y2, y3, y4, y5, y6, y7⟩ := bx8 H9.out.2.2.2
  go_wp2_with fail
  refine (eqGt_any (nilG t) _ _ _ _ _ _ _ _ _ _ _ _ _ (nilG_row t _ HZ.out) (nilG_row t _ HZ.out)).mono ?_
  rintro e w10 ⟨rfl, hb⟩
  have H10 : Hid (Below w.heap.size w w10 ∧ w10.heap[P]? = some (.cells #[.string t, .int .i64 0, .slice none 0 0, .slice none 0 0, .slice none 0 0, .slice none 0 0, .slice none 0 0, .slice none 0 0] 31) ∧ w10.heap[R]? = some (.cells #[.string t, .int .i64 0, .slice none 0 0, .slice none 0 0, .slice none 0 0, .slice none 0 0, .slice none 0 0, .slice none 0 0] 31)) := ⟨H9.out.1.trans (hb.mono H9.out.1.size), (hb.block _ (Array.getElem?_eq_some_iff.1 H9.out.2.1).1).trans H9.out.2.1, (hb.block _ (Array.getElem?_eq_some_iff.1 H9.out.2.2.1).1).trans H9.out.2.2.1⟩
  clear hb x0 x1 x2 x3 x4 x5 x6 x7 y0 y1 y2 y3 y4 y5 y6 y7 H9
  obtain ⟨x0, x1, x2, x3, x4, x5, x6, x7⟩ := bx8 H10.out.2.1
  obtain ⟨y0, y1, y2, y3, y4, y5, y6, y7⟩ := bx8 H10.out.2.2
  go_wp2_with fail
  refine (heldNilGate t 1 _ (by omega)).mono ?_
  rintro e w11 ⟨rfl, hb⟩
  have H11 : Hid (Below w.heap.size w w11 ∧ w11.heap[P]? = some (.cells #[.string t, .int .i64 0, .slice none 0 0, .slice none 0 0, .slice none 0 0, .slice none 0 0, .slice none 0 0, .slice none 0 0] 31) ∧ w11.heap[R]? = some (.cells #[.string t, .int .i64 0, .slice none 0 0, .slice none 0 0, .slice none 0 0, .slice none 0 0, .slice none 0 0, .slice none 0 0] 31)) := ⟨H10.out.1.trans (hb.mono H10.out.1.size), (hb.block _ (Array.getElem?_eq_some_iff.1 H10.out.2.1).1).trans H10.out.2.1, (hb.block _ (Array.getElem?_eq_some_iff.1 H10.out.2.2).1).trans H10.out.2.2⟩
  clear hb x0 x1 x2 x3 x4 x5 x6 x7 y0 y1 y2 y3 y4 y5 y6 y7 H10
  go_wp2
  go_ret
  exact ⟨rfl, H11.out.1⟩
theorem own : ownKnob Try.prog.godebug = none := by kernel_rfl
theorem laidOut : laidOutB Try.prog = true := by kernel_rfl
set_option maxRecDepth 100000 in
theorem lifted (os : Os) (started : os.Started) (H : Type) (enc : TypeId × Value → H) :
    ReturnsInHanded {} Try.checked os 3 .any (Rows.fnExactGateNewSpec.pre6 enc Try.prog Try.f3 Rows.fnExactGateNewRow.domain false) (Rows.fnExactGateNewSpec.post enc Try.prog Try.f3 false true false false) := by
  refine returnsInHanded_of_change (C := Try.checked) own started (by kernel_rfl) Try.func3
    (ChangeSpec.witness6 (enc := enc) (C := Try.checked) false ⟨#[], #[.string ⟨#[]⟩], []⟩ 8 (by kernel_rfl) (by kernel_rfl) (by kernel_rfl) (by kernel_rfl)) ?_
  intro W base args ds gs before hval0 hW hcnd _
  have hval : ∀ (j : Nat) t v, Try.f3.params[j]? = some t → args[j]? = some v → Value.okWide Try.prog W .any base t v := hval0
  have hW' := hW
  obtain ⟨p, q, hA0, hV, rfl, hfz, hnd⟩ := hW
  have hA : DataW.TrodAll enc Try.prog W 0 (fun _ => true) true Try.f3.params.toList args.toList ds p := hA0
  rw [Try.params3] at hA hval
  obtain ⟨v0, vs0, d0, ds0, p0, q0, hargs, rfl, rfl, h0, r0⟩ := trodAll_cons hA
  obtain ⟨rfl, rfl, rfl⟩ := trodAll_nil r0
  obtain rfl : args = #[v0] := by cases args; simp_all
  obtain ⟨rfl, rfl⟩ := trodVars_none hV
  have k0 := h0
  have lt0 : ∀ x ∈ p0, x.block < W.heap.size := by obtain ⟨m, hm⟩ := k0; exact DataW.trod_lt m _ _ _ hm
  obtain ⟨s0, rfl, hs0⟩ : ∃ s : ByteArray, v0 = .string s ∧ s.size ≤ maxLen := by
    obtain ⟨s, rfl, _, _, hs⟩ := open_string Try.underlying9 (hval 0 9 v0 rfl rfl) h0
    exact ⟨s, rfl, hs⟩
  clear hA0 hval0
  refine (walk s0 W hs0).mono fun e W' ⟨he, bel⟩ => ?_
  subst he
  exact ⟨_, rfl, _, _, _, [], _, [], hW', trodAll_mk1 (shut_bool Try.underlying4 _), (trodAll_cons_mk (Below.trod laidOut (by kernel_rfl) (of_decide_eq_true (by kernel_rfl)) k0 bel lt0) trodAll_mk0), rfl, bel.frame _, fun h => by cases h⟩
theorem over : Rows.fnExactGateNewRow.holds Try.pinned (OpenSpec.ofChange Rows.fnExactGateNewSpec) :=
  OpenClaim.holds_of_wide 3 Try.f3 rfl rfl rfl rfl rfl rfl rfl ⟨rfl, rfl, rfl, rfl, rfl⟩ rfl rfl rfl rfl rfl (by kernel_rfl) Try.func3 (by kernel_rfl)
    (of_decide_eq_true (by kernel_rfl)) (by unfold Func.isWrapper; first | (rw [if_pos (by decide +kernel)]; kernel_rfl) | (rw [if_neg (by decide +kernel)]; exact ⟨rfl, rfl⟩))
    (fun os started H enc _ => lifted os started H enc)
end fnExactGateNew
theorem fnExactGateNew_holds : Rows.FnExactGateNewSaid := fnExactGateNew.over
#print axioms fnExactGateNew_holds
end Go.Proofs.Ytagajindaipaeaa
