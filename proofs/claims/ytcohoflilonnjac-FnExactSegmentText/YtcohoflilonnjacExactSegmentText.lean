/- FnExactSegmentText returns true at every syntax and every segment and leaves them as they were: SegmentText answers as its model and writes into no argument; no condition. -/
import Derived.Test.YtcohoflilonnjacSzRow
import Derived.Test.YtcohoflilonnjacLGEq
import Derived.Test.YtcohoflilonnjacTextGS
import Derived.Test.YtcohoflilonnjacToSyn
import Derived.Test.YtcohoflilonnjacOpenSeg
import Derived.Deep.RegionHeld3
import Derived.Lib.SmallJoins
namespace Go.Proofs.Ytcohoflilonnjac
open Go.ChangeShapes Go.WideShapes Go.ChangeAt Go.RowKit Go.Joins
open Go.ChangeMaps (open_string shut_string)
set_option linter.unusedVariables false
namespace fnExactSegmentText
/-- What stands in the law: the segment's block and, ahead of it, the syntax's block. -/
structure LT (w W : World) (a b c d : Int) (tag : ByteArray) (v : Value) (es : List (List ByteArray)) : Prop where
  lg : LG (w.heap.size + 1) 24 w W tag v es
  sx : W.heap[w.heap.size]? = some (.cells #[.int .i64 a, .int .i64 b, .int .i64 c, .int .i64 d] 34)
theorem LT.below {w W W' : World} {a b c d : Int} {tag : ByteArray} {v : Value} {es : List (List ByteArray)} (h : LT w W a b c d tag v es) (hb : Below W.heap.size W W') : LT w W' a b c d tag v es :=
  ⟨h.lg.below hb, (hb.block _ (Array.getElem?_eq_some_iff.1 h.sx).1).trans h.sx⟩
theorem LT.cells {w W : World} {a b c d : Int} {tag : ByteArray} {v : Value} {es : List (List ByteArray)} (h : LT w W a b c d tag v es) :
    W.cell? ⟨w.heap.size, 0, none⟩ = some (.int .i64 a) ∧ W.cell? ⟨w.heap.size, 1, none⟩ = some (.int .i64 b) ∧ W.cell? ⟨w.heap.size, 2, none⟩ = some (.int .i64 c) ∧ W.cell? ⟨w.heap.size, 3, none⟩ = some (.int .i64 d) ∧ W.cell? ⟨w.heap.size + 1, 0, none⟩ = some (.string tag) ∧ W.cell? ⟨w.heap.size + 1, 1, none⟩ = some v := by
  have h1 := h.sx
  exact ⟨by simp [World.cell?, h1], by simp [World.cell?, h1], by simp [World.cell?, h1], by simp [World.cell?, h1], h.lg.c0, h.lg.c1⟩
theorem LT.begun {w : World} (a b c d : Int) (tag : ByteArray) {v : Value} {es : List (List ByteArray)} (h : RowE w v es) : LT w ((w.alloc (.cells #[.int .i64 a, .int .i64 b, .int .i64 c, .int .i64 d] 34)).alloc (.cells #[.string tag, v] 24)) a b c d tag v es :=
  ⟨⟨((Below.refl _ _).alloc (Nat.le_refl _) _).alloc (by simp) _, heap_new2 w _ _, h.below (((Below.refl _ _).alloc (Nat.le_refl _) _).alloc (by simp) _)⟩, (Below.heap_alloc _ _ _ (by simp)).trans (World.alloc_heap_new w _)⟩
theorem toSyn_lt {w W : World} {a b c d : Int} {tag : ByteArray} {v : Value} {es : List (List ByteArray)} (h : LT w W a b c d tag v es) : Calls Try.prog 15 #[.agg #[.int .i64 a, .int .i64 b, .int .i64 c, .int .i64 d]] W fun e w' => e = .returned (.agg #[.int .i64 a, .int .i64 b, .int .i64 c, .int .i64 d]) ∧ LT w w' a b c d tag v es ∧ w'.cell? ⟨w.heap.size, 0, none⟩ = some (.int .i64 a) ∧ w'.cell? ⟨w.heap.size, 1, none⟩ = some (.int .i64 b) ∧ w'.cell? ⟨w.heap.size, 2, none⟩ = some (.int .i64 c) ∧ w'.cell? ⟨w.heap.size, 3, none⟩ = some (.int .i64 d) ∧ w'.cell? ⟨w.heap.size + 1, 0, none⟩ = some (.string tag) ∧ w'.cell? ⟨w.heap.size + 1, 1, none⟩ = some v := by
  refine (toSyntax_any a b c d W).mono ?_
  rintro e w' ⟨rfl, hb⟩
  exact ⟨rfl, h.below hb, (h.below hb).cells⟩
theorem toG_lt {w W : World} {a b c d : Int} {tag : ByteArray} {v : Value} {es : List (List ByteArray)} (hE : BdE 1048576 es) (h : LT w W a b c d tag v es) : Calls Try.prog 11 #[.agg #[.string tag, v]] W fun e w' => ∃ v', e = .returned (.agg #[.string tag, v']) ∧ RowE w' v' es ∧ LT w w' a b c d tag v es ∧ w'.cell? ⟨w.heap.size, 0, none⟩ = some (.int .i64 a) ∧ w'.cell? ⟨w.heap.size, 1, none⟩ = some (.int .i64 b) ∧ w'.cell? ⟨w.heap.size, 2, none⟩ = some (.int .i64 c) ∧ w'.cell? ⟨w.heap.size, 3, none⟩ = some (.int .i64 d) ∧ w'.cell? ⟨w.heap.size + 1, 0, none⟩ = some (.string tag) ∧ w'.cell? ⟨w.heap.size + 1, 1, none⟩ = some v := by
  refine (toG_any tag v es W h.lg.row hE).mono ?_
  rintro e w' ⟨v', rfl, hO, hb⟩
  exact ⟨v', rfl, hO.row hE, h.below hb, (h.below hb).cells⟩
theorem spec_lt {w W : World} {a b c d : Int} {tag : ByteArray} {v : Value} {es : List (List ByteArray)} {v' : Value} (hE : BdE 1048576 es) (hr : RowE W v' es) (h : LT w W a b c d tag v es) : Calls Try.prog 14 #[.agg #[.int .i64 a, .int .i64 b, .int .i64 c, .int .i64 d], .agg #[.string tag, v']] W fun e w' => e = .returned (.string (textG a b c d tag es)) ∧ LT w w' a b c d tag v es ∧ w'.cell? ⟨w.heap.size, 0, none⟩ = some (.int .i64 a) ∧ w'.cell? ⟨w.heap.size, 1, none⟩ = some (.int .i64 b) ∧ w'.cell? ⟨w.heap.size, 2, none⟩ = some (.int .i64 c) ∧ w'.cell? ⟨w.heap.size, 3, none⟩ = some (.int .i64 d) ∧ w'.cell? ⟨w.heap.size + 1, 0, none⟩ = some (.string tag) ∧ w'.cell? ⟨w.heap.size + 1, 1, none⟩ = some v := by
  refine (text_seg_spec a b c d tag v' es W hr hE).mono ?_
  rintro e w' ⟨rfl, hb⟩
  exact ⟨rfl, h.below hb, (h.below hb).cells⟩
theorem toSyn_lk {w W : World} {a b c d : Int} {tag : ByteArray} {v : Value} {es : List (List ByteArray)} {B t : Nat} {u : Value} (h : LT w W a b c d tag v es) (k : LG B t w W tag u es) : Calls Try.prog 15 #[.agg #[.int .i64 a, .int .i64 b, .int .i64 c, .int .i64 d]] W fun e w' => e = .returned (.agg #[.int .i64 a, .int .i64 b, .int .i64 c, .int .i64 d]) ∧ LT w w' a b c d tag v es ∧ LG B t w w' tag u es ∧ w'.cell? ⟨B, 0, none⟩ = some (.string tag) ∧ w'.cell? ⟨B, 1, none⟩ = some u ∧ w'.cell? ⟨w.heap.size, 0, none⟩ = some (.int .i64 a) ∧ w'.cell? ⟨w.heap.size, 1, none⟩ = some (.int .i64 b) ∧ w'.cell? ⟨w.heap.size, 2, none⟩ = some (.int .i64 c) ∧ w'.cell? ⟨w.heap.size, 3, none⟩ = some (.int .i64 d) ∧ w'.cell? ⟨w.heap.size + 1, 0, none⟩ = some (.string tag) ∧ w'.cell? ⟨w.heap.size + 1, 1, none⟩ = some v := by
  refine (toSyntax_any a b c d W).mono ?_
  rintro e w' ⟨rfl, hb⟩
  exact ⟨rfl, h.below hb, k.below hb, (k.below hb).c0, (k.below hb).c1, (h.below hb).cells⟩
theorem impl_lk {w W : World} {a b c d : Int} {tag : ByteArray} {v : Value} {es : List (List ByteArray)} {B t : Nat} {u : Value} (hE : BdE 1048576 es) (h : LT w W a b c d tag v es) (k : LG B t w W tag u es) : Calls Try.prog 16 #[.agg #[.int .i64 a, .int .i64 b, .int .i64 c, .int .i64 d], .agg #[.string tag, u]] W fun e w' => e = .returned (.string (textG a b c d tag es)) ∧ LT w w' a b c d tag v es ∧ LG B t w w' tag u es ∧ w'.cell? ⟨B, 0, none⟩ = some (.string tag) ∧ w'.cell? ⟨B, 1, none⟩ = some u ∧ w'.cell? ⟨w.heap.size, 0, none⟩ = some (.int .i64 a) ∧ w'.cell? ⟨w.heap.size, 1, none⟩ = some (.int .i64 b) ∧ w'.cell? ⟨w.heap.size, 2, none⟩ = some (.int .i64 c) ∧ w'.cell? ⟨w.heap.size, 3, none⟩ = some (.int .i64 d) ∧ w'.cell? ⟨w.heap.size + 1, 0, none⟩ = some (.string tag) ∧ w'.cell? ⟨w.heap.size + 1, 1, none⟩ = some v := by
  refine (text_seg_impl a b c d tag u es W k.row hE).mono ?_
  rintro e w' ⟨rfl, hb⟩
  exact ⟨rfl, h.below hb, k.below hb, (k.below hb).c0, (k.below hb).c1, (h.below hb).cells⟩
theorem LT.drew {w W : World} {a b c d : Int} {tag : ByteArray} {v : Value} {es : List (List ByteArray)} (h : LT w W a b c d tag v es) : LT w W.drew a b c d tag v es := h.below (Below.refl _ _).drew
set_option maxHeartbeats 2000000 in
theorem walk (a b c d : Int) (tag : ByteArray) (v : Value) (es : List (List ByteArray)) (w : World) (ht : tag.size ≤ 9223372036854775807) (h : RowE w v es) :
    Calls Try.prog 4 #[.agg #[.int .i64 a, .int .i64 b, .int .i64 c, .int .i64 d], .agg #[.string tag, v]] w fun e w' => e = .returned (.bool true) ∧ Below w.heap.size w w' := by
  obtain ⟨A, cap, rfl⟩ := h.val
  have h0 := LT.begun a b c d tag h
  clear h
  go_enter Try.func4, Try.ntmps4
  go_wp2_with fail
  refine (szG_any tag _ es 1048576 _ ht h0.lg.row (by omega)).mono ?_
  rintro e w1 ⟨r, rfl, hr, hb1⟩
  have h1 := h0.below hb1
  clear hb1 h0
  rcases hr with rfl | ⟨g0, g1, _, hE⟩
  · have H1 : Hid (Below w.heap.size w w1) := h1.lg.bel
    clear h1
    go_wp2
    go_ret
    exact ⟨rfl, H1.out⟩
  · have g0' : ¬ r < 0 := by omega
    obtain ⟨c0, c1, c2, c3, c4, c5⟩ := h1.cells
    have HE : Hid (BdE 1048576 es) := hE
    clear hE
    go_wp2_with fail
    go_region_held3 (fun W => W.cell? ⟨w.heap.size, 0, none⟩ = some (.int .i64 a) ∧ W.cell? ⟨w.heap.size, 1, none⟩ = some (.int .i64 b) ∧ W.cell? ⟨w.heap.size, 2, none⟩ = some (.int .i64 c) ∧ W.cell? ⟨w.heap.size, 3, none⟩ = some (.int .i64 d) ∧ W.cell? ⟨w.heap.size + 1, 0, none⟩ = some (.string tag) ∧ W.cell? ⟨w.heap.size + 1, 1, none⟩ = some (.slice A es.length cap)) (go_keep) (first | (go_at_call 15; refine (toSyn_lt h1.drew).mono ?_; rintro e w2 ⟨rfl, h2, y0, y1, y2, y3, y4, y5⟩) | (go_at_call 11; refine (toG_lt HE.out h2).mono ?_; rintro e w3 ⟨v3, rfl, r3, h3, k0, k1, k2, k3, k4, k5⟩) | (go_at_call 14; refine (spec_lt HE.out r3 h3).mono ?_; rintro e w4 ⟨rfl, h4, m0, m1, m2, m3, m4, m5⟩))
    rename_i hHeld
    clear hHeld h1 h2 h3 r3 c0 c1 c2 c3 c4 c5 y0 y1 y2 y3 y4 y5 k0 k1 k2 k3 k4 k5
    go_wp2_with fail
    refine (toG_any tag _ es _ h4.lg.row HE.out).mono ?_
    rintro e w5 ⟨v5, rfl, hO5, hb5⟩
    obtain ⟨A5, C5, hv5⟩ := (hO5.row HE.out).val
    subst hv5
    have h5 := (h4.below hb5).below ((Below.refl _ _).alloc (Nat.le_refl _) (.cells #[.string tag, .slice A5 es.length C5] 29))
    obtain ⟨_, k5, hne⟩ := (h4.below hb5).lg.made 29 (tag' := tag) (hO5.row HE.out)
    clear hb5 hO5 h4 m0 m1 m2 m3 m4 m5
    obtain ⟨c0, c1, c2, c3, c4, c5⟩ := h5.cells
    have d0 := k5.c0
    have d1 := k5.c1
    go_wp2_with fail
    go_region_held3 (fun W => W.cell? ⟨w5.heap.size, 0, none⟩ = some (.string tag) ∧ W.cell? ⟨w5.heap.size, 1, none⟩ = some (.slice A5 es.length C5) ∧ W.cell? ⟨w.heap.size, 0, none⟩ = some (.int .i64 a) ∧ W.cell? ⟨w.heap.size, 1, none⟩ = some (.int .i64 b) ∧ W.cell? ⟨w.heap.size, 2, none⟩ = some (.int .i64 c) ∧ W.cell? ⟨w.heap.size, 3, none⟩ = some (.int .i64 d) ∧ W.cell? ⟨w.heap.size + 1, 0, none⟩ = some (.string tag) ∧ W.cell? ⟨w.heap.size + 1, 1, none⟩ = some (.slice A es.length cap)) (go_keep) (first | (go_at_call 15; refine (toSyn_lk h5.drew k5.drew).mono ?_; rintro e w6 ⟨rfl, h6, k6, n0, n1, y0, y1, y2, y3, y4, y5⟩) | (go_at_call 16; refine (impl_lk HE.out h6 k6).mono ?_; rintro e w7 ⟨rfl, h7, k7, d0, d1, e0, e1, e2, e3, e4, e5⟩))
    rename_i hHeld
    clear hHeld h5 k5 h6 k6 c0 c1 c2 c3 c4 c5 n0 n1 y0 y1 y2 y3 y4 y5
    go_wp2_with fail
    go_region_held3 (fun W => W.cell? ⟨w.heap.size + 1, 0, none⟩ = some (.string tag) ∧ W.cell? ⟨w.heap.size + 1, 1, none⟩ = some (.slice A es.length cap) ∧ W.cell? ⟨w5.heap.size, 0, none⟩ = some (.string tag) ∧ W.cell? ⟨w5.heap.size, 1, none⟩ = some (.slice A5 es.length C5)) (go_keep) (first | (go_at_call 11; refine (toG_lg HE.out h7.lg.drew k7.drew).mono ?_; rintro e w8 ⟨v8, rfl, r8, h8, k8, y0, y1, y2, y3⟩) | (go_at_call 13; refine (eqG_lg r8 h8 k8).mono ?_; rintro e w9 ⟨rfl, h9, k9, z0, z1, z2, z3⟩))
    rename_i hHeld
    clear hHeld
    have H9 : Hid (Below w.heap.size w w9) := h9.bel
    clear h9 k9 h8 k8 h7 k7
    go_wp2
    go_ret
    exact ⟨rfl, H9.out⟩
theorem own : ownKnob Try.prog.godebug = none := by kernel_rfl
theorem laidOut : laidOutB Try.prog = true := by kernel_rfl
theorem cellsSyn : Try.prog.cellsOf 34 = 4 := by kernel_rfl
set_option maxRecDepth 100000 in
theorem lifted (os : Os) (started : os.Started) (H : Type) (enc : TypeId × Value → H) :
    ReturnsInHanded {} Try.checked os 4 .any (Rows.fnExactSegmentTextSpec.pre6 enc Try.prog Try.f4 Rows.fnExactSegmentTextRow.domain false) (Rows.fnExactSegmentTextSpec.post enc Try.prog Try.f4 false true false false) := by
  refine returnsInHanded_of_change (C := Try.checked) own started (by kernel_rfl) Try.func4
    (ChangeSpec.witness6 (enc := enc) (C := Try.checked) false ⟨#[], #[.agg #[.int .i64 0, .int .i64 0, .int .i64 0, .int .i64 0], .agg #[.string ⟨#[]⟩, .slice none 0 0]], []⟩ 8 (by kernel_rfl) (by kernel_rfl) (by kernel_rfl) (by kernel_rfl)) ?_
  intro W base args ds gs before hval0 hW hcnd _
  have hval : ∀ (j : Nat) t v, Try.f4.params[j]? = some t → args[j]? = some v → Value.okWide Try.prog W .any base t v := hval0
  have hW' := hW
  obtain ⟨p, q, hA0, hV, rfl, hfz, hnd⟩ := hW
  have hA : DataW.TrodAll enc Try.prog W 0 (fun _ => true) true Try.f4.params.toList args.toList ds p := hA0
  rw [Try.params4] at hA hval
  obtain ⟨v0, vs0, d0, ds0, p0, q0, hargs, rfl, rfl, h0, r0⟩ := trodAll_cons hA
  obtain ⟨v1, vs1, d1, ds1, p1, q1, rfl, rfl, rfl, h1, r1⟩ := trodAll_cons r0
  obtain ⟨rfl, rfl, rfl⟩ := trodAll_nil r1
  obtain rfl : args = #[v0, v1] := by cases args; simp_all
  obtain ⟨rfl, rfl⟩ := trodVars_none hV
  have k0 := h0
  have lt0 : ∀ x ∈ p0, x.block < W.heap.size := by obtain ⟨m, hm⟩ := k0; exact DataW.trod_lt m _ _ _ hm
  obtain ⟨a0, b0, c0, e0, rfl⟩ : ∃ a b c d : Int, v0 = .agg #[.int .i64 a, .int .i64 b, .int .i64 c, .int .i64 d] := by
    obtain ⟨c0, c1, c2, c3, y0, y1, y2, y3, m, rfl, _, _, hy0, hy1, hy2, hy3⟩ := open_agg4 Try.underlying34 (by kernel_rfl) cellsSyn (hval 0 34 v0 rfl rfl) h0
    obtain ⟨a, e0, _, _⟩ := DataW.trod_int Try.underlying2 hy0
    obtain ⟨b, e1, _, _⟩ := DataW.trod_int Try.underlying2 hy1
    obtain ⟨c, e2, _, _⟩ := DataW.trod_int Try.underlying2 hy2
    obtain ⟨d, e3, _, _⟩ := DataW.trod_int Try.underlying2 hy3
    simp at e0 e1 e2 e3
    subst e0 e1 e2 e3
    exact ⟨a, b, c, d, rfl⟩
  have k1 := h1
  have lt1 : ∀ x ∈ p1, x.block < W.heap.size := by obtain ⟨m, hm⟩ := k1; exact DataW.trod_lt m _ _ _ hm
  obtain ⟨t1, u1, es1, rfl, ht1, hr1⟩ := openG (hval 1 24 v1 rfl rfl) h1
  clear hA0 hval0
  refine (walk a0 b0 c0 e0 t1 u1 es1 W ht1 hr1).mono fun e W' ⟨he, bel⟩ => ?_
  subst he
  exact ⟨_, rfl, _, _, _, [], _, [], hW', trodAll_mk1 (shut_bool Try.underlying4 _), (trodAll_cons_mk (Below.trod laidOut (by kernel_rfl) (of_decide_eq_true (by kernel_rfl)) k0 bel lt0) (trodAll_cons_mk (Below.trod laidOut (by kernel_rfl) (of_decide_eq_true (by kernel_rfl)) k1 bel lt1) trodAll_mk0)), rfl, bel.frame _, fun h => by cases h⟩
theorem over : Rows.fnExactSegmentTextRow.holds Try.pinned (OpenSpec.ofChange Rows.fnExactSegmentTextSpec) :=
  OpenClaim.holds_of_wide 4 Try.f4 rfl rfl rfl rfl rfl rfl rfl ⟨rfl, rfl, rfl, rfl, rfl⟩ rfl rfl rfl rfl rfl (by kernel_rfl) Try.func4 (by kernel_rfl)
    (of_decide_eq_true (by kernel_rfl)) (by unfold Func.isWrapper; first | (rw [if_pos (by decide +kernel)]; kernel_rfl) | (rw [if_neg (by decide +kernel)]; exact ⟨rfl, rfl⟩))
    (fun os started H enc _ => lifted os started H enc)
end fnExactSegmentText
theorem fnExactSegmentText_holds : Rows.FnExactSegmentTextSaid := fnExactSegmentText.over
#print axioms fnExactSegmentText_holds
end Go.Proofs.Ytcohoflilonnjac
