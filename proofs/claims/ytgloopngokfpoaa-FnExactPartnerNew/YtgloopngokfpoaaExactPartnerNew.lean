/- FnExactPartnerNew returns true at every text: PartnerNew answers as its model, and its answer owns its memory; no condition. -/
import Derived.Test.YtgloopngokfpoaaNewP
import Derived.Test.YtgloopngokfpoaaMkPt
import Derived.Test.YtgloopngokfpoaaEqPt
import Derived.Lib.SmallJoins
namespace Go.Proofs.Ytgloopngokfpoaa
open Go.ChangeShapes Go.WideShapes Go.ChangeAt Go.RowKit Go.Joins
open Go.ChangeMaps (open_string shut_string)
set_option linter.unusedVariables false
namespace fnExactPartnerNew
/-- The boxes hold what PartnerNew told. -/
structure LQ (L : List Nat) (w W : World) (t : ByteArray) : Prop where
  bel : Below w.heap.size w W
  blk : ∀ b ∈ L, W.heap[b]? = some (.cells #[.string (newP t).name, .int .i64 (newP t).low, .int .i64 (newP t).next, .slice none 0 0] 24)
theorem LQ.below {L : List Nat} {w W W' : World} {t : ByteArray} (h : LQ L w W t) (hb : Below W.heap.size W W') : LQ L w W' t :=
  ⟨h.bel.trans (hb.mono h.bel.size), fun b hb' => (hb.block b (Array.getElem?_eq_some_iff.1 (h.blk b hb')).1).trans (h.blk b hb')⟩
theorem LQ.keep {L : List Nat} {w W W' : World} {t : ByteArray} (h : LQ L w W t) (hk : ∀ b ∈ L, W'.heap[b]? = W.heap[b]?) (hb : Below w.heap.size W W') : LQ L w W' t :=
  ⟨h.bel.trans hb, fun b hb' => (hk b hb').trans (h.blk b hb')⟩
theorem LQ.drew {L : List Nat} {w W : World} {t : ByteArray} (h : LQ L w W t) : LQ L w W.drew t := h.below (Below.refl _ _).drew
theorem LQ.made {L : List Nat} {w W : World} {t : ByteArray} (h : LQ L w W t) : LQ (W.heap.size :: L) w (W.alloc (.cells #[.string (newP t).name, .int .i64 (newP t).low, .int .i64 (newP t).next, .slice none 0 0] 24)) t := by
  have h2 := h.below ((Below.refl _ W).alloc (Nat.le_refl _) (.cells #[.string (newP t).name, .int .i64 (newP t).low, .int .i64 (newP t).next, .slice none 0 0] 24))
  refine ⟨h2.bel, fun b hb => ?_⟩
  rcases List.mem_cons.1 hb with rfl | hb
  · exact World.alloc_heap_new W _
  · exact h2.blk b hb
theorem LQ.cells {L : List Nat} {w W : World} {t : ByteArray} (h : LQ L w W t) {b : Nat} (hb : b ∈ L) : W.cell? ⟨b, 0, none⟩ = some (.string (newP t).name) ∧ W.cell? ⟨b, 1, none⟩ = some (.int .i64 (newP t).low) ∧ W.cell? ⟨b, 2, none⟩ = some (.int .i64 (newP t).next) ∧ W.cell? ⟨b, 3, none⟩ = some (.slice none 0 0) := by
  have h1 := h.blk b hb
  refine ⟨?_, ?_, ?_, ?_⟩ <;> simp [World.cell?, h1]
theorem markNew (t : ByteArray) (W : World) : Calls Try.prog 8 #[.agg #[.string (newP t).name, .int .i64 (newP t).low, .int .i64 (newP t).next, .slice none 0 0], .int .i64 1] W fun e w' => e = .returned (.int .i64 1) ∧ Below W.heap.size W w' := by
  refine (markPt_any W.heap.size (.slice none 0 0) (newP t) 1 W (by rw [newP_seen]; exact LSn.nil _ _) (by rw [newP_seen]; simp)).mono ?_
  rintro e w' ⟨rfl, _, hk⟩
  exact ⟨by rw [newP_seen]; simp, hk.below (Nat.le_refl _) (Nat.le_refl _)⟩
theorem heldNew (t : ByteArray) (W : World) : Calls Try.prog 9 #[.agg #[.string (newP t).name, .int .i64 (newP t).low, .int .i64 (newP t).next, .slice none 0 0], .int .i64 1] W fun e w' => e = .returned (.int .i64 1) ∧ Below W.heap.size W w' := by
  refine (heldPt_any (.slice none 0 0) _ _ _ 0 1 W (RowSn.nil W) (by simp)).mono ?_
  rintro e w' ⟨rfl, hk⟩
  exact ⟨by simp, hk⟩
set_option maxHeartbeats 8000000 in
theorem walk (t : ByteArray) (w : World) (ht : t.size ≤ maxLen) :
    Calls Try.prog 3 #[.string t] w fun e w' => e = .returned (.bool true) ∧ Below w.heap.size w w' := by
  by_cases hbig : 1048576 < t.size
  · have hbig' : (1048576 : Int) < (t.size : Int) := by omega
    unfold maxLen at ht
    go_enter Try.func3, Try.ntmps3
    go_wp2
    go_ret
    exact ⟨rfl, Below.refl _ _⟩
  have hbig' : ¬ (1048576 : Int) < (t.size : Int) := by omega
  have HP : Hid ((newP t).seen = []) := newP_seen t
  have HR : Hid (∀ W, RPt W (.slice none 0 0) (newP t)) := newP_row t
  have HL : Hid (∀ W, LSn 0 W (.slice none 0 0) (newP t).seen) := fun W => by rw [HP.out]; exact LSn.nil 0 W
  clear ht
  go_enter Try.func3, Try.ntmps3
  go_wp2_with fail
  refine (ptNew_spec t _).mono ?_
  rintro e w1 ⟨rfl, hb1⟩
  have h1 := LQ.made (L := []) (t := t) ⟨hb1, fun b hb => by cases hb⟩
  clear hb1
  go_wp2_with fail
  refine (ptNew_impl t _).mono ?_
  rintro e w2 ⟨rfl, hb2⟩
  have h2 := (h1.below hb2).made
  clear hb2 h1
  obtain ⟨x0, x1, x2, x3⟩ := h2.cells (b := w2.heap.size) (by simp)
  obtain ⟨y0, y1, y2, y3⟩ := h2.cells (b := w1.heap.size) (by simp)
  go_wp2_with fail
  refine (eqPt_any (newP t) _ _ _ (HR.out _) (HR.out _)).mono ?_
  rintro e w3 ⟨rfl, hb⟩
  have h3 := h2.below hb
  clear hb h2 x0 x1 x2 x3 y0 y1 y2 y3
  obtain ⟨x0, x1, x2, x3⟩ := h3.cells (b := w2.heap.size) (by simp)
  obtain ⟨y0, y1, y2, y3⟩ := h3.cells (b := w1.heap.size) (by simp)
  go_wp2_with fail
  refine (markNew t _).mono ?_
  rintro e w4 ⟨rfl, hb⟩
  have h4 := h3.below hb
  clear hb h3 x0 x1 x2 x3 y0 y1 y2 y3
  obtain ⟨x0, x1, x2, x3⟩ := h4.cells (b := w2.heap.size) (by simp)
  obtain ⟨y0, y1, y2, y3⟩ := h4.cells (b := w1.heap.size) (by simp)
  go_wp2_with fail
  refine (heldNew t _).mono ?_
  rintro e w5 ⟨rfl, hb⟩
  have h5 := h4.below hb
  clear hb h4 x0 x1 x2 x3 y0 y1 y2 y3
  obtain ⟨x0, x1, x2, x3⟩ := h5.cells (b := w2.heap.size) (by simp)
  obtain ⟨y0, y1, y2, y3⟩ := h5.cells (b := w1.heap.size) (by simp)
  go_wp2_with fail
  refine (ptNew_impl t _).mono ?_
  rintro e w6 ⟨rfl, hb⟩
  have h6 := (h5.below hb).made
  clear hb h5 x0 x1 x2 x3 y0 y1 y2 y3
  obtain ⟨x0, x1, x2, x3⟩ := h6.cells (b := w2.heap.size) (by simp)
  obtain ⟨y0, y1, y2, y3⟩ := h6.cells (b := w1.heap.size) (by simp)
  obtain ⟨z0, z1, z2, z3⟩ := h6.cells (b := w6.heap.size) (by simp)
  go_wp2_with fail
  refine (eqPt_any (newP t) _ _ _ (HR.out _) (HR.out _)).mono ?_
  rintro e w7 ⟨rfl, hb⟩
  have h7 := h6.below hb
  clear hb h6 x0 x1 x2 x3 y0 y1 y2 y3 z0 z1 z2 z3
  obtain ⟨x0, x1, x2, x3⟩ := h7.cells (b := w2.heap.size) (by simp)
  obtain ⟨y0, y1, y2, y3⟩ := h7.cells (b := w1.heap.size) (by simp)
  go_wp2_with fail
  refine (heldNew t _).mono ?_
  rintro e w8 ⟨rfl, hb⟩
  have H8 : Hid (Below w.heap.size w w8) := (h7.below hb).bel
  clear hb h7 x0 x1 x2 x3 y0 y1 y2 y3
  go_wp2
  go_ret
  exact ⟨rfl, H8.out⟩
theorem own : ownKnob Try.prog.godebug = none := by kernel_rfl
theorem laidOut : laidOutB Try.prog = true := by kernel_rfl
set_option maxRecDepth 100000 in
theorem lifted (os : Os) (started : os.Started) (H : Type) (enc : TypeId × Value → H) :
    ReturnsInHanded {} Try.checked os 3 .any (Rows.fnExactPartnerNewSpec.pre6 enc Try.prog Try.f3 Rows.fnExactPartnerNewRow.domain false) (Rows.fnExactPartnerNewSpec.post enc Try.prog Try.f3 false true false false) := by
  refine returnsInHanded_of_change (C := Try.checked) own started (by kernel_rfl) Try.func3
    (ChangeSpec.witness6 (enc := enc) (C := Try.checked) false ⟨#[], #[.string ⟨#[]⟩], []⟩ 8 (by kernel_rfl) (by kernel_rfl) (by kernel_rfl) (by kernel_rfl)) ?_
  intro W base args ds gs before hval0 hW hcnd _
  have hval : ∀ (j : Nat) t v, Try.f3.params[j]? = some t → args[j]? = some v → Value.okWide Try.prog W .any base t v := hval0
  have hW' := hW
  obtain ⟨p, q, hA0, hV, rfl, hfz, hnd⟩ := hW
  have hA : DataW.TrodAll enc Try.prog W 0 (fun _ => true) true Try.f3.params.toList args.toList ds p := hA0
  rw [Try.params3] at hA hval
  obtain ⟨v0, vs0, d0, ds0, p0, q0, hargs, rfl, rfl, h0, r0⟩ := trodAll_cons hA
  obtain ⟨rfl, rfl, rfl⟩ := trodAll_nil r0
  obtain rfl : args = #[v0] := by cases args; simp_all
  obtain ⟨rfl, rfl⟩ := trodVars_none hV
  have k0 := h0
  have lt0 : ∀ x ∈ p0, x.block < W.heap.size := by obtain ⟨m, hm⟩ := k0; exact DataW.trod_lt m _ _ _ hm
  obtain ⟨s0, rfl, hs0⟩ : ∃ s : ByteArray, v0 = .string s ∧ s.size ≤ maxLen := by
    obtain ⟨s, rfl, _, _, hs⟩ := open_string Try.underlying9 (hval 0 9 v0 rfl rfl) h0
    exact ⟨s, rfl, hs⟩
  clear hA0 hval0
  refine (walk s0 W hs0).mono fun e W' ⟨he, bel⟩ => ?_
  subst he
  exact ⟨_, rfl, _, _, _, [], _, [], hW', trodAll_mk1 (shut_bool Try.underlying4 _), (trodAll_cons_mk (Below.trod laidOut (by kernel_rfl) (of_decide_eq_true (by kernel_rfl)) k0 bel lt0) trodAll_mk0), rfl, bel.frame _, fun h => by cases h⟩
theorem over : Rows.fnExactPartnerNewRow.holds Try.pinned (OpenSpec.ofChange Rows.fnExactPartnerNewSpec) :=
  OpenClaim.holds_of_wide 3 Try.f3 rfl rfl rfl rfl rfl rfl rfl ⟨rfl, rfl, rfl, rfl, rfl⟩ rfl rfl rfl rfl rfl (by kernel_rfl) Try.func3 (by kernel_rfl)
    (of_decide_eq_true (by kernel_rfl)) (by unfold Func.isWrapper; first | (rw [if_pos (by decide +kernel)]; kernel_rfl) | (rw [if_neg (by decide +kernel)]; exact ⟨rfl, rfl⟩))
    (fun os started H enc _ => lifted os started H enc)
end fnExactPartnerNew
theorem fnExactPartnerNew_holds : Rows.FnExactPartnerNewSaid := fnExactPartnerNew.over
#print axioms fnExactPartnerNew_holds
end Go.Proofs.Ytgloopngokfpoaa
