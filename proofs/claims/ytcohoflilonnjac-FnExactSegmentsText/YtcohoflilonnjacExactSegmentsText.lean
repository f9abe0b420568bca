/- FnExactSegmentsText returns true at every syntax and every list of segments and leaves them as they were: SegmentsText answers as its model and writes into no argument; no condition. -/
import Derived.Test.YtcohoflilonnjacTextsGS
import Derived.Test.YtcohoflilonnjacToSyn
import Derived.Test.YtcohoflilonnjacOpenSegs
import Derived.Deep.RegionHeld3
import Derived.Lib.SmallJoins
namespace Go.Proofs.Ytcohoflilonnjac
open Go.ChangeShapes Go.WideShapes Go.ChangeAt Go.RowKit Go.Joins
open Go.ChangeMaps (open_string shut_string)
set_option linter.unusedVariables false
namespace fnExactSegmentsText
/-- What stands in the law: the list reads as it did, and the syntax lies in its block. -/
structure LX (w W : World) (a b c d : Int) (v : Value) (gs : List Seg) : Prop where
  bel : Below w.heap.size w W
  sx : W.heap[w.heap.size]? = some (.cells #[.int .i64 a, .int .i64 b, .int .i64 c, .int .i64 d] 34)
  row : RowG W v gs
theorem LX.below {w W : World} {a b c d : Int} {v : Value} {gs : List Seg} {W' : World} (h : LX w W a b c d v gs) (hb : Below W.heap.size W W') : LX w W' a b c d v gs :=
  ⟨h.bel.trans (hb.mono h.bel.size), (hb.block _ (Array.getElem?_eq_some_iff.1 h.sx).1).trans h.sx, h.row.below hb⟩
theorem LX.drew {w W : World} {a b c d : Int} {v : Value} {gs : List Seg} (h : LX w W a b c d v gs) : LX w W.drew a b c d v gs := h.below (Below.refl _ _).drew
theorem LX.cells {w W : World} {a b c d : Int} {v : Value} {gs : List Seg} (h : LX w W a b c d v gs) : W.cell? ⟨w.heap.size, 0, none⟩ = some (.int .i64 a) ∧ W.cell? ⟨w.heap.size, 1, none⟩ = some (.int .i64 b) ∧ W.cell? ⟨w.heap.size, 2, none⟩ = some (.int .i64 c) ∧ W.cell? ⟨w.heap.size, 3, none⟩ = some (.int .i64 d) := by
  have h1 := h.sx
  exact ⟨by simp [World.cell?, h1], by simp [World.cell?, h1], by simp [World.cell?, h1], by simp [World.cell?, h1]⟩
theorem LX.begun {w : World} (a b c d : Int) {v : Value} {gs : List Seg} (h : RowG w v gs) : LX w (w.alloc (.cells #[.int .i64 a, .int .i64 b, .int .i64 c, .int .i64 d] 34)) a b c d v gs :=
  ⟨(Below.refl _ _).alloc (Nat.le_refl _) _, World.alloc_heap_new w _, h.below ((Below.refl _ _).alloc (Nat.le_refl _) _)⟩
theorem toSyn_lx {w W : World} {a b c d : Int} {v : Value} {gs : List Seg} {u : Value} (h : LX w W a b c d v gs) (hu : RowG W u gs) : Calls Try.prog 15 #[.agg #[.int .i64 a, .int .i64 b, .int .i64 c, .int .i64 d]] W fun e w' => e = .returned (.agg #[.int .i64 a, .int .i64 b, .int .i64 c, .int .i64 d]) ∧ LX w w' a b c d v gs ∧ RowG w' u gs ∧ w'.cell? ⟨w.heap.size, 0, none⟩ = some (.int .i64 a) ∧ w'.cell? ⟨w.heap.size, 1, none⟩ = some (.int .i64 b) ∧ w'.cell? ⟨w.heap.size, 2, none⟩ = some (.int .i64 c) ∧ w'.cell? ⟨w.heap.size, 3, none⟩ = some (.int .i64 d) := by
  refine (toSyntax_any a b c d W).mono ?_
  rintro e w' ⟨rfl, hb⟩
  exact ⟨rfl, h.below hb, hu.below hb, (h.below hb).cells⟩
theorem toGs_lx {w W : World} {a b c d : Int} {v : Value} {gs : List Seg} {u : Value} (hG : BdG 1048576 gs) (h : LX w W a b c d v gs) (hu : RowG W u gs) : Calls Try.prog 24 #[v] W fun e w' => ∃ v', e = .returned v' ∧ RowG w' v' gs ∧ LX w w' a b c d v gs ∧ RowG w' u gs ∧ w'.cell? ⟨w.heap.size, 0, none⟩ = some (.int .i64 a) ∧ w'.cell? ⟨w.heap.size, 1, none⟩ = some (.int .i64 b) ∧ w'.cell? ⟨w.heap.size, 2, none⟩ = some (.int .i64 c) ∧ w'.cell? ⟨w.heap.size, 3, none⟩ = some (.int .i64 d) := by
  refine (toGs_any v gs W h.row hG).mono ?_
  rintro e w' ⟨v', rfl, hO, hb⟩
  exact ⟨v', rfl, hO.row hG, h.below hb, hu.below hb, (h.below hb).cells⟩
theorem spec_lx {w W : World} {a b c d : Int} {v : Value} {gs : List Seg} {v' : Value} (hG : BdG 1048576 gs) (hr : RowG W v' gs) (h : LX w W a b c d v gs) : Calls Try.prog 23 #[.agg #[.int .i64 a, .int .i64 b, .int .i64 c, .int .i64 d], v'] W fun e w' => e = .returned (.string (textsG a b c d gs)) ∧ LX w w' a b c d v gs ∧ w'.cell? ⟨w.heap.size, 0, none⟩ = some (.int .i64 a) ∧ w'.cell? ⟨w.heap.size, 1, none⟩ = some (.int .i64 b) ∧ w'.cell? ⟨w.heap.size, 2, none⟩ = some (.int .i64 c) ∧ w'.cell? ⟨w.heap.size, 3, none⟩ = some (.int .i64 d) := by
  refine (texts_spec a b c d v' gs W hr hG).mono ?_
  rintro e w' ⟨rfl, hb⟩
  exact ⟨rfl, h.below hb, (h.below hb).cells⟩
theorem impl_lx {w W : World} {a b c d : Int} {v : Value} {gs : List Seg} {u : Value} (hG : BdG 1048576 gs) (hu : RowG W u gs) (h : LX w W a b c d v gs) : Calls Try.prog 25 #[.agg #[.int .i64 a, .int .i64 b, .int .i64 c, .int .i64 d], u] W fun e w' => e = .returned (.string (textsG a b c d gs)) ∧ LX w w' a b c d v gs ∧ RowG w' u gs ∧ w'.cell? ⟨w.heap.size, 0, none⟩ = some (.int .i64 a) ∧ w'.cell? ⟨w.heap.size, 1, none⟩ = some (.int .i64 b) ∧ w'.cell? ⟨w.heap.size, 2, none⟩ = some (.int .i64 c) ∧ w'.cell? ⟨w.heap.size, 3, none⟩ = some (.int .i64 d) := by
  refine (texts_impl a b c d u gs W hu hG).mono ?_
  rintro e w' ⟨rfl, hb⟩
  exact ⟨rfl, h.below hb, hu.below hb, (h.below hb).cells⟩
theorem eqGs_lx {w W : World} {a b c d : Int} {v : Value} {gs : List Seg} {u v' : Value} (hu : RowG W u gs) (hr : RowG W v' gs) (h : LX w W a b c d v gs) : Calls Try.prog 26 #[u, v'] W fun e w' => e = .returned (.bool true) ∧ LX w w' a b c d v gs ∧ w'.cell? ⟨w.heap.size, 0, none⟩ = some (.int .i64 a) ∧ w'.cell? ⟨w.heap.size, 1, none⟩ = some (.int .i64 b) ∧ w'.cell? ⟨w.heap.size, 2, none⟩ = some (.int .i64 c) ∧ w'.cell? ⟨w.heap.size, 3, none⟩ = some (.int .i64 d) := by
  refine (eqGs_any u v' gs W hu hr).mono ?_
  rintro e w' ⟨rfl, hb⟩
  exact ⟨rfl, h.below hb, (h.below hb).cells⟩
set_option maxHeartbeats 2000000 in
theorem walk (a b c d : Int) (v : Value) (gs : List Seg) (w : World) (h : RowG w v gs) :
    Calls Try.prog 6 #[.agg #[.int .i64 a, .int .i64 b, .int .i64 c, .int .i64 d], v] w fun e w' => e = .returned (.bool true) ∧ Below w.heap.size w w' := by
  obtain ⟨A, cap, rfl⟩ := h.val
  have h0 := LX.begun a b c d h
  clear h
  go_enter Try.func6, Try.ntmps6
  go_wp2_with fail
  refine (szGs_any _ gs 1048576 _ h0.row (by omega)).mono ?_
  rintro e w1 ⟨r, rfl, hr, hb1⟩
  have h1 := h0.below hb1
  clear hb1 h0
  rcases hr with rfl | ⟨g0, g1, hG⟩
  · have H1 : Hid (Below w.heap.size w w1) := h1.bel
    clear h1
    go_wp2
    go_ret
    exact ⟨rfl, H1.out⟩
  · have g0' : ¬ r < 0 := by omega
    obtain ⟨c0, c1, c2, c3⟩ := h1.cells
    have HG : Hid (BdG 1048576 gs) := hG
    clear hG
    go_wp2_with fail
    refine (toSyn_lx h1 h1.row).mono ?_
    rintro e w2 ⟨rfl, h2, _, c0, c1, c2, c3⟩
    clear h1
    go_wp2_with fail
    refine (toGs_lx HG.out h2 h2.row).mono ?_
    rintro e w3 ⟨v3, rfl, r3, h3, _, c0, c1, c2, c3⟩
    clear h2
    go_wp2_with fail
    refine (spec_lx HG.out r3 h3).mono ?_
    rintro e w4 ⟨rfl, h4, c0, c1, c2, c3⟩
    clear h3 r3
    go_wp2_with fail
    refine (toGs_lx HG.out h4 h4.row).mono ?_
    rintro e w5 ⟨v5, rfl, r5, h5, _, c0, c1, c2, c3⟩
    clear h4
    go_wp2_with fail
    refine (toSyn_lx h5 r5).mono ?_
    rintro e w6 ⟨rfl, h6, r6, c0, c1, c2, c3⟩
    clear h5 r5
    go_wp2_with fail
    refine (impl_lx HG.out r6 h6).mono ?_
    rintro e w7 ⟨rfl, h7, r7, c0, c1, c2, c3⟩
    clear h6 r6
    go_wp2_with fail
    refine (toGs_lx HG.out h7 r7).mono ?_
    rintro e w8 ⟨v8, rfl, r8, h8, r8', c0, c1, c2, c3⟩
    clear h7 r7
    go_wp2_with fail
    refine (eqGs_lx r8' r8 h8).mono ?_
    rintro e w9 ⟨rfl, h9, c0, c1, c2, c3⟩
    have H9 : Hid (Below w.heap.size w w9) := h9.bel
    clear h9 h8 r8 r8'
    go_wp2
    go_ret
    exact ⟨rfl, H9.out⟩
theorem own : ownKnob Try.prog.godebug = none := by kernel_rfl
theorem laidOut : laidOutB Try.prog = true := by kernel_rfl
theorem cellsSyn : Try.prog.cellsOf 34 = 4 := by kernel_rfl
set_option maxRecDepth 100000 in
theorem lifted (os : Os) (started : os.Started) (H : Type) (enc : TypeId × Value → H) :
    ReturnsInHanded {} Try.checked os 6 .any (Rows.fnExactSegmentsTextSpec.pre6 enc Try.prog Try.f6 Rows.fnExactSegmentsTextRow.domain false) (Rows.fnExactSegmentsTextSpec.post enc Try.prog Try.f6 false true false false) := by
  refine returnsInHanded_of_change (C := Try.checked) own started (by kernel_rfl) Try.func6
    (ChangeSpec.witness6 (enc := enc) (C := Try.checked) false ⟨#[], #[.agg #[.int .i64 0, .int .i64 0, .int .i64 0, .int .i64 0], .slice none 0 0], []⟩ 8 (by kernel_rfl) (by kernel_rfl) (by kernel_rfl) (by kernel_rfl)) ?_
  intro W base args ds gs before hval0 hW hcnd _
  have hval : ∀ (j : Nat) t v, Try.f6.params[j]? = some t → args[j]? = some v → Value.okWide Try.prog W .any base t v := hval0
  have hW' := hW
  obtain ⟨p, q, hA0, hV, rfl, hfz, hnd⟩ := hW
  have hA : DataW.TrodAll enc Try.prog W 0 (fun _ => true) true Try.f6.params.toList args.toList ds p := hA0
  rw [Try.params6] at hA hval
  obtain ⟨v0, vs0, d0, ds0, p0, q0, hargs, rfl, rfl, h0, r0⟩ := trodAll_cons hA
  obtain ⟨v1, vs1, d1, ds1, p1, q1, rfl, rfl, rfl, h1, r1⟩ := trodAll_cons r0
  obtain ⟨rfl, rfl, rfl⟩ := trodAll_nil r1
  obtain rfl : args = #[v0, v1] := by cases args; simp_all
  obtain ⟨rfl, rfl⟩ := trodVars_none hV
  have k0 := h0
  have lt0 : ∀ x ∈ p0, x.block < W.heap.size := by obtain ⟨m, hm⟩ := k0; exact DataW.trod_lt m _ _ _ hm
  obtain ⟨a0, b0, c0, e0, rfl⟩ : ∃ a b c d : Int, v0 = .agg #[.int .i64 a, .int .i64 b, .int .i64 c, .int .i64 d] := by
    obtain ⟨c0, c1, c2, c3, y0, y1, y2, y3, m, rfl, _, _, hy0, hy1, hy2, hy3⟩ := open_agg4 Try.underlying34 (by kernel_rfl) cellsSyn (hval 0 34 v0 rfl rfl) h0
    obtain ⟨a, e0, _, _⟩ := DataW.trod_int Try.underlying2 hy0
    obtain ⟨b, e1, _, _⟩ := DataW.trod_int Try.underlying2 hy1
    obtain ⟨c, e2, _, _⟩ := DataW.trod_int Try.underlying2 hy2
    obtain ⟨d, e3, _, _⟩ := DataW.trod_int Try.underlying2 hy3
    simp at e0 e1 e2 e3
    subst e0 e1 e2 e3
    exact ⟨a, b, c, d, rfl⟩
  have k1 := h1
  have lt1 : ∀ x ∈ p1, x.block < W.heap.size := by obtain ⟨m, hm⟩ := k1; exact DataW.trod_lt m _ _ _ hm
  obtain ⟨gs1, hr1⟩ := openGs (hval 1 45 v1 rfl rfl) h1
  clear hA0 hval0
  refine (walk a0 b0 c0 e0 v1 gs1 W hr1).mono fun e W' ⟨he, bel⟩ => ?_
  subst he
  exact ⟨_, rfl, _, _, _, [], _, [], hW', trodAll_mk1 (shut_bool Try.underlying4 _), (trodAll_cons_mk (Below.trod laidOut (by kernel_rfl) (of_decide_eq_true (by kernel_rfl)) k0 bel lt0) (trodAll_cons_mk (Below.trod laidOut (by kernel_rfl) (of_decide_eq_true (by kernel_rfl)) k1 bel lt1) trodAll_mk0)), rfl, bel.frame _, fun h => by cases h⟩
theorem over : Rows.fnExactSegmentsTextRow.holds Try.pinned (OpenSpec.ofChange Rows.fnExactSegmentsTextSpec) :=
  OpenClaim.holds_of_wide 6 Try.f6 rfl rfl rfl rfl rfl rfl rfl ⟨rfl, rfl, rfl, rfl, rfl⟩ rfl rfl rfl rfl rfl (by kernel_rfl) Try.func6 (by kernel_rfl)
    (of_decide_eq_true (by kernel_rfl)) (by unfold Func.isWrapper; first | (rw [if_pos (by decide +kernel)]; kernel_rfl) | (rw [if_neg (by decide +kernel)]; exact ⟨rfl, rfl⟩))
    (fun os started H enc _ => lifted os started H enc)
end fnExactSegmentsText
theorem fnExactSegmentsText_holds : Rows.FnExactSegmentsTextSaid := fnExactSegmentsText.over
#print axioms fnExactSegmentsText_holds
end Go.Proofs.Ytcohoflilonnjac
