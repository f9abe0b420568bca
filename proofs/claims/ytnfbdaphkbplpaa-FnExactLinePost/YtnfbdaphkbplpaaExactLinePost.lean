/- FnExactLinePost returns true at every order line, kind and quantity and leaves the line as it was: LinePost answers as its model; no condition. -/
import Derived.Test.YtnfbdaphkbplpaaSzOl
import Derived.Test.YtnfbdaphkbplpaaToOl
import Derived.Test.YtnfbdaphkbplpaaOpenOl
import Derived.Test.YtnfbdaphkbplpaaEqPo
import Derived.Test.YtnfbdaphkbplpaaLnV
import Derived.Lib.SmallJoins
namespace Go.Proofs.Ytnfbdaphkbplpaa
open Go.ChangeShapes Go.WideShapes Go.ChangeAt Go.RowKit Go.Joins
open Go.ChangeMaps (open_string shut_string)
set_option linter.unusedVariables false
namespace fnExactLinePost
set_option maxHeartbeats 4000000 in
theorem walk (l : OLn) (kind qty : Int) (w : World) (h : l.partner.size ≤ 9223372036854775807 ∧ l.ref.size ≤ 9223372036854775807 ∧ l.item.size ≤ 9223372036854775807) :
    Calls Try.prog 7 #[.agg #[.string l.partner, .string l.ref, .int .i64 l.no, .string l.item, .int .i64 l.ordered, .int .i64 l.sent, .int .i64 l.got, .int .i64 l.cut], .int .i64 kind, .int .i64 qty] w fun e w' => e = .returned (.bool true) ∧ Below w.heap.size w w' := by
  have QS := linePost_spec l kind qty
  have QI := linePost_impl l kind qty
  obtain ⟨p, hp⟩ : ∃ p, p = postT l kind qty := ⟨_, rfl⟩
  rw [← hp] at QS QI
  clear hp
  obtain ⟨W0, hW0⟩ : ∃ W0, w.alloc (.cells #[.string l.partner, .string l.ref, .int .i64 l.no, .string l.item, .int .i64 l.ordered, .int .i64 l.sent, .int .i64 l.got, .int .i64 l.cut] 23) = W0 := ⟨_, rfl⟩
  have hb0 : Below w.heap.size w W0 := by rw [← hW0]; exact (Below.refl _ _).alloc (Nat.le_refl _) _
  have hbx : W0.heap[w.heap.size]? = some (.cells #[.string l.partner, .string l.ref, .int .i64 l.no, .string l.item, .int .i64 l.ordered, .int .i64 l.sent, .int .i64 l.got, .int .i64 l.cut] 23) := by rw [← hW0]; exact World.alloc_heap_new _ _
  have HX : Hid (∀ W, Below w.heap.size w W → Below W0.heap.size W0 W → W.cell? ⟨w.heap.size, 0, none⟩ = some (.string l.partner) ∧ W.cell? ⟨w.heap.size, 1, none⟩ = some (.string l.ref) ∧ W.cell? ⟨w.heap.size, 2, none⟩ = some (.int .i64 l.no) ∧ W.cell? ⟨w.heap.size, 3, none⟩ = some (.string l.item) ∧ W.cell? ⟨w.heap.size, 4, none⟩ = some (.int .i64 l.ordered) ∧ W.cell? ⟨w.heap.size, 5, none⟩ = some (.int .i64 l.sent) ∧ W.cell? ⟨w.heap.size, 6, none⟩ = some (.int .i64 l.got) ∧ W.cell? ⟨w.heap.size, 7, none⟩ = some (.int .i64 l.cut)) := fun W _ hW => box8 ((hW.block _ (Array.getElem?_eq_some_iff.1 hbx).1).trans hbx)
  have HB : Hid (Below w.heap.size w W0 ∧ Below W0.heap.size W0 W0) := ⟨hb0, Below.refl _ _⟩
  have HZ : Hid (l.partner.size ≤ 9223372036854775807 ∧ l.ref.size ≤ 9223372036854775807 ∧ l.item.size ≤ 9223372036854775807) := h
  have N : Hid (∀ W W', Below w.heap.size w W ∧ Below W0.heap.size W0 W → Below W.heap.size W W' → Below w.heap.size w W' ∧ Below W0.heap.size W0 W') := fun W W' h1 h2 => ⟨h1.1.trans (h2.mono h1.1.size), h1.2.trans (h2.mono h1.2.size)⟩
  go_enter Try.func7, Try.ntmps7
  go_upto_region 1 with fail
  try rw [hW0]
  clear hW0 hbx hb0 h
  obtain ⟨c0, c1, c2, c3, c4, c5, c6, c7⟩ := HX.out _ HB.out.1 HB.out.2
  go_wp2_with fail
  refine (szOl_any l 1048576 _ HZ.out (by omega)).mono ?_
  rintro e w1 ⟨r, rfl, hr, hb1⟩
  have H1 : Hid _ := N.out _ _ HB.out hb1
  clear hb1 c0 c1 c2 c3 c4 c5 c6 c7
  rcases hr with rfl | ⟨g0, g1, _⟩
  · go_wp2
    go_ret
    exact ⟨rfl, H1.out.1⟩
  have g0' : ¬ r < 0 := by omega
  obtain ⟨c0, c1, c2, c3, c4, c5, c6, c7⟩ := HX.out _ H1.out.1 H1.out.2
  go_wp2_with fail
  refine (toOl_any l _).mono ?_
  rintro e w2 ⟨rfl, hb2⟩
  have H2 : Hid _ := N.out _ _ H1.out hb2
  clear hb2 c0 c1 c2 c3 c4 c5 c6 c7 H1
  go_wp2_with fail
  refine (QS _).mono ?_
  rintro e w3 ⟨rfl, hb3⟩
  have H3 : Hid _ := N.out _ _ H2.out hb3
  clear hb3 H2 QS
  obtain ⟨W3, hW3⟩ : ∃ W3, w3.alloc (.cells #[.string p.line.partner, .string p.line.ref, .int .i64 p.line.no, .string p.line.item, .int .i64 p.line.ordered, .int .i64 p.line.sent, .int .i64 p.line.got, .int .i64 p.line.cut, .int .i64 p.fit, .int .i64 p.over, .int .i64 p.code] 38) = W3 := ⟨_, rfl⟩
  have hb3 : Below w3.heap.size w3 W3 := by rw [← hW3]; exact (Below.refl _ _).alloc (Nat.le_refl _) _
  have ho3 : W3.heap[w3.heap.size]? = some (.cells #[.string p.line.partner, .string p.line.ref, .int .i64 p.line.no, .string p.line.item, .int .i64 p.line.ordered, .int .i64 p.line.sent, .int .i64 p.line.got, .int .i64 p.line.cut, .int .i64 p.fit, .int .i64 p.over, .int .i64 p.code] 38) := by rw [← hW3]; exact World.alloc_heap_new _ _
  obtain ⟨O, hO⟩ : ∃ O, O = w3.heap.size := ⟨_, rfl⟩
  rw [← hO] at ho3
  have H4 : Hid _ := And.intro (N.out _ _ H3.out hb3) ho3
  have HW3 : Hid (w3.alloc (.cells #[.string p.line.partner, .string p.line.ref, .int .i64 p.line.no, .string p.line.item, .int .i64 p.line.ordered, .int .i64 p.line.sent, .int .i64 p.line.got, .int .i64 p.line.cut, .int .i64 p.fit, .int .i64 p.over, .int .i64 p.code] 38) = W3 ∧ O = w3.heap.size) := ⟨hW3, hO⟩
  clear hW3 hO hb3 ho3 H3
  go_upto_region 6 with fail
  try rw [HW3.out.1]
  try rw [← HW3.out.2]
  clear HW3
  obtain ⟨c0, c1, c2, c3, c4, c5, c6, c7⟩ := HX.out _ H4.out.1.1 H4.out.1.2
  go_wp2_with fail
  refine (toOl_any l _).mono ?_
  rintro e w5 ⟨rfl, hb5⟩
  have H5 : Hid _ := And.intro (N.out _ _ H4.out.1 hb5) ((hb5.block O (Array.getElem?_eq_some_iff.1 H4.out.2).1).trans H4.out.2)
  clear hb5 c0 c1 c2 c3 c4 c5 c6 c7 H4
  go_wp2_with fail
  refine (QI _).mono ?_
  rintro e w6 ⟨rfl, hb6⟩
  have H6 : Hid _ := And.intro (N.out _ _ H5.out.1 hb6) ((hb6.block O (Array.getElem?_eq_some_iff.1 H5.out.2).1).trans H5.out.2)
  clear hb6 H5 QI
  obtain ⟨W6, hW6⟩ : ∃ W6, w6.alloc (.cells #[.string p.line.partner, .string p.line.ref, .int .i64 p.line.no, .string p.line.item, .int .i64 p.line.ordered, .int .i64 p.line.sent, .int .i64 p.line.got, .int .i64 p.line.cut, .int .i64 p.fit, .int .i64 p.over, .int .i64 p.code] 38) = W6 := ⟨_, rfl⟩
  have hb7 : Below w6.heap.size w6 W6 := by rw [← hW6]; exact (Below.refl _ _).alloc (Nat.le_refl _) _
  have ho7 : W6.heap[w6.heap.size]? = some (.cells #[.string p.line.partner, .string p.line.ref, .int .i64 p.line.no, .string p.line.item, .int .i64 p.line.ordered, .int .i64 p.line.sent, .int .i64 p.line.got, .int .i64 p.line.cut, .int .i64 p.fit, .int .i64 p.over, .int .i64 p.code] 38) := by rw [← hW6]; exact World.alloc_heap_new _ _
  have ho8 := (hb7.block O (Array.getElem?_eq_some_iff.1 H6.out.2).1).trans H6.out.2
  obtain ⟨O2, hO2⟩ : ∃ O2, O2 = w6.heap.size := ⟨_, rfl⟩
  rw [← hO2] at ho7
  have H7 : Hid _ := N.out _ _ H6.out.1 hb7
  have HW6 : Hid (w6.alloc (.cells #[.string p.line.partner, .string p.line.ref, .int .i64 p.line.no, .string p.line.item, .int .i64 p.line.ordered, .int .i64 p.line.sent, .int .i64 p.line.got, .int .i64 p.line.cut, .int .i64 p.fit, .int .i64 p.over, .int .i64 p.code] 38) = W6 ∧ O2 = w6.heap.size) := ⟨hW6, hO2⟩
  have HO7 : Hid _ := And.intro ho7 ho8
  clear hW6 hO2 hb7 H6 ho7 ho8
  go_upto_region 7 with fail
  try rw [HW6.out.1]
  try rw [← HW6.out.2]
  clear HW6
  obtain ⟨ho7, ho8⟩ := HO7.out
  obtain ⟨a0, a1, a2, a3, a4, a5, a6, a7, a8, a9, a10⟩ := box11 ho7
  obtain ⟨b0, b1, b2, b3, b4, b5, b6, b7, b8, b9, b10⟩ := box11 ho8
  clear ho7 ho8
  go_wp2_with fail
  refine (eqPo_any p _).mono ?_
  rintro e w8 ⟨rfl, hb8⟩
  have H8 : Hid _ := N.out _ _ H7.out hb8
  clear hb8 H7
  go_wp2
  go_ret
  exact ⟨rfl, H8.out.1⟩
theorem own : ownKnob Try.prog.godebug = none := by kernel_rfl
theorem laidOut : laidOutB Try.prog = true := by kernel_rfl
set_option maxRecDepth 100000 in
theorem lifted (os : Os) (started : os.Started) (H : Type) (enc : TypeId × Value → H) :
    ReturnsInHanded {} Try.checked os 7 .any (Rows.fnExactLinePostSpec.pre6 enc Try.prog Try.f7 Rows.fnExactLinePostRow.domain false) (Rows.fnExactLinePostSpec.post enc Try.prog Try.f7 false true false false) := by
  refine returnsInHanded_of_change (C := Try.checked) own started (by kernel_rfl) Try.func7
    (ChangeSpec.witness6 (enc := enc) (C := Try.checked) false ⟨#[], #[.agg #[.string ⟨#[]⟩, .string ⟨#[]⟩, .int .i64 0, .string ⟨#[]⟩, .int .i64 0, .int .i64 0, .int .i64 0, .int .i64 0], .int .i64 0, .int .i64 0], []⟩ 8 (by kernel_rfl) (by kernel_rfl) (by kernel_rfl) (by kernel_rfl)) ?_
  intro W base args ds gs before hval0 hW hcnd _
  have hval : ∀ (j : Nat) t v, Try.f7.params[j]? = some t → args[j]? = some v → Value.okWide Try.prog W .any base t v := hval0
  have hW' := hW
  obtain ⟨p, q, hA0, hV, rfl, hfz, hnd⟩ := hW
  have hA : DataW.TrodAll enc Try.prog W 0 (fun _ => true) true Try.f7.params.toList args.toList ds p := hA0
  rw [Try.params7] at hA hval
  obtain ⟨v0, vs0, d0, ds0, p0, q0, hargs, rfl, rfl, h0, r0⟩ := trodAll_cons hA
  obtain ⟨v1, vs1, d1, ds1, p1, q1, rfl, rfl, rfl, h1, r1⟩ := trodAll_cons r0
  obtain ⟨v2, vs2, d2, ds2, p2, q2, rfl, rfl, rfl, h2, r2⟩ := trodAll_cons r1
  obtain ⟨rfl, rfl, rfl⟩ := trodAll_nil r2
  obtain rfl : args = #[v0, v1, v2] := by cases args; simp_all
  obtain ⟨rfl, rfl⟩ := trodVars_none hV
  have k0 := h0
  have lt0 : ∀ x ∈ p0, x.block < W.heap.size := by obtain ⟨m, hm⟩ := k0; exact DataW.trod_lt m _ _ _ hm
  obtain ⟨c0, rfl, hc0⟩ := openOla (hval 0 23 v0 rfl rfl) h0
  have k1 := h1
  have lt1 : ∀ x ∈ p1, x.block < W.heap.size := by obtain ⟨m, hm⟩ := k1; exact DataW.trod_lt m _ _ _ hm
  obtain ⟨n1, rfl⟩ : ∃ n : Int, v1 = .int .i64 n := by
    obtain ⟨n, rfl, _, _, _⟩ := open_int Try.underlying2 (hval 1 2 v1 rfl rfl) h1
    exact ⟨n, rfl⟩
  have k2 := h2
  have lt2 : ∀ x ∈ p2, x.block < W.heap.size := by obtain ⟨m, hm⟩ := k2; exact DataW.trod_lt m _ _ _ hm
  obtain ⟨n2, rfl⟩ : ∃ n : Int, v2 = .int .i64 n := by
    obtain ⟨n, rfl, _, _, _⟩ := open_int Try.underlying2 (hval 2 2 v2 rfl rfl) h2
    exact ⟨n, rfl⟩
  clear hA0 hval0
  refine (walk c0 n1 n2 W hc0).mono fun e W' ⟨he, bel⟩ => ?_
  subst he
  exact ⟨_, rfl, _, _, _, [], _, [], hW', trodAll_mk1 (shut_bool Try.underlying4 _), (trodAll_cons_mk (Below.trod laidOut (by kernel_rfl) (of_decide_eq_true (by kernel_rfl)) k0 bel lt0) (trodAll_cons_mk (Below.trod laidOut (by kernel_rfl) (of_decide_eq_true (by kernel_rfl)) k1 bel lt1) (trodAll_cons_mk (Below.trod laidOut (by kernel_rfl) (of_decide_eq_true (by kernel_rfl)) k2 bel lt2) trodAll_mk0))), rfl, bel.frame _, fun h => by cases h⟩
theorem over : Rows.fnExactLinePostRow.holds Try.pinned (OpenSpec.ofChange Rows.fnExactLinePostSpec) :=
  OpenClaim.holds_of_wide 7 Try.f7 rfl rfl rfl rfl rfl rfl rfl ⟨rfl, rfl, rfl, rfl, rfl⟩ rfl rfl rfl rfl rfl (by kernel_rfl) Try.func7 (by kernel_rfl)
    (of_decide_eq_true (by kernel_rfl)) (by unfold Func.isWrapper; first | (rw [if_pos (by decide +kernel)]; kernel_rfl) | (rw [if_neg (by decide +kernel)]; exact ⟨rfl, rfl⟩))
    (fun os started H enc _ => lifted os started H enc)
end fnExactLinePost
theorem fnExactLinePost_holds : Rows.FnExactLinePostSaid := fnExactLinePost.over
#print axioms fnExactLinePost_holds
end Go.Proofs.Ytnfbdaphkbplpaa
