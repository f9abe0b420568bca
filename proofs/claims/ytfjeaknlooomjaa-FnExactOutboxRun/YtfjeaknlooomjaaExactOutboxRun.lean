/- FnExactOutboxRun returns true at every thing and list of numbers and leaves them as they were: OutboxRun answers as its model, writes into no argument, and its answer owns its memory; no condition. -/
import Derived.Test.YtfjeaknlooomjaaSzOu
import Derived.Test.YtfjeaknlooomjaaToOu
import Derived.Test.YtfjeaknlooomjaaOpenOu
import Derived.Test.YtfjeaknlooomjaaRnI
import Derived.Test.YtfjeaknlooomjaaRnS
import Derived.Test.YtfjeaknlooomjaaOpenN
import Derived.Lib.SmallJoins
namespace Go.Proofs.Ytfjeaknlooomjaa
open Go.ChangeShapes Go.WideShapes Go.ChangeAt Go.RowKit Go.Joins
open Go.ChangeMaps (open_string shut_string)
set_option linter.unusedVariables false
namespace fnExactOutboxRun
/-- What is kept: the argument, and a list that lay ahead of N. -/
structure LR (w W : World) (v : Value) (zs : List Int) (N : Nat) (u3 : Value) (l3 : List Int) : Prop where
  bel : Below w.heap.size w W
  arg : RowN w v zs
  r3 : ∃ W3, W3.heap.size = N ∧ RowN W3 u3 l3 ∧ Below N W3 W
  le : w.heap.size ≤ N
theorem LR.row {w W : World} {v : Value} {zs : List Int} {N : Nat} {u3 : Value} {l3 : List Int} (h : LR w W v zs N u3 l3) : RowN W v zs := h.arg.below h.bel
theorem LR.row3 {w W : World} {v : Value} {zs : List Int} {N : Nat} {u3 : Value} {l3 : List Int} (h : LR w W v zs N u3 l3) : RowN W u3 l3 := by
  obtain ⟨W3, h1, h2, h3⟩ := h.r3
  subst h1
  exact h2.below h3
theorem LR.below {w W W' : World} {v : Value} {zs : List Int} {N : Nat} {u3 : Value} {l3 : List Int} (h : LR w W v zs N u3 l3) (hb : Below W.heap.size W W') : LR w W' v zs N u3 l3 := by
  obtain ⟨W3, h1, h2, h3⟩ := h.r3
  exact ⟨h.bel.trans (hb.mono h.bel.size), h.arg, ⟨W3, h1, h2, h3.trans (hb.mono (by have := h3.size; omega))⟩, h.le⟩
theorem LR.keep {w W W' : World} {v : Value} {zs : List Int} {N c : Nat} {u3 : Value} {l3 : List Int} (h : LR w W v zs N u3 l3) (hk : Keep c W W') (hc : N ≤ c) : LR w W' v zs N u3 l3 := by
  obtain ⟨W3, h1, h2, h3⟩ := h.r3
  have hl := h.le
  have hs := h.bel.size
  exact ⟨h.bel.trans (hk.below (by omega) (by omega)), h.arg, ⟨W3, h1, h2, h3.trans (hk.below hc (by have := h3.size; omega))⟩, h.le⟩
set_option maxRecDepth 20000 in
set_option maxHeartbeats 8000000 in
theorem walk (c : OutR) (v : Value) (zs : List Int) (w : World) (hc : c.partner.size ≤ 9223372036854775807 ∧ c.text.size ≤ 9223372036854775807) (h : RowN w v zs) :
    Calls Try.prog 7 #[.agg #[.string c.partner, .int .i64 c.number, .string c.text, .int .i64 c.tries, .int .i64 c.due], v] w fun e w' => e = .returned (.bool true) ∧ Below w.heap.size w w' := by
  have hlen := h.len
  obtain ⟨A0, c0, rfl⟩ := h.val
  obtain ⟨W0, hW0⟩ : ∃ W0, w.alloc (.cells #[.string c.partner, .int .i64 c.number, .string c.text, .int .i64 c.tries, .int .i64 c.due] 30) = W0 := ⟨_, rfl⟩
  have hb0 : Below w.heap.size w W0 := by rw [← hW0]; exact (Below.refl _ _).alloc (Nat.le_refl _) _
  have hbx0 : W0.heap[w.heap.size]? = some (.cells #[.string c.partner, .int .i64 c.number, .string c.text, .int .i64 c.tries, .int .i64 c.due] 30) := by rw [← hW0]; exact World.alloc_heap_new _ _
  obtain ⟨B, hB⟩ : ∃ B, B = w.heap.size := ⟨_, rfl⟩
  rw [← hB] at hbx0
  have HW : Hid (Below w.heap.size w W0) := hb0
  have HC : Hid (∀ W, Below W0.heap.size W0 W → W.cell? ⟨B, 0, none⟩ = some (.string c.partner) ∧ W.cell? ⟨B, 1, none⟩ = some (.int .i64 c.number) ∧ W.cell? ⟨B, 2, none⟩ = some (.string c.text) ∧ W.cell? ⟨B, 3, none⟩ = some (.int .i64 c.tries) ∧ W.cell? ⟨B, 4, none⟩ = some (.int .i64 c.due)) := fun W hW => box5 ((hW.block _ (Array.getElem?_eq_some_iff.1 hbx0).1).trans hbx0)
  have HZ : Hid (c.partner.size ≤ 9223372036854775807 ∧ c.text.size ≤ 9223372036854775807) := hc
  have h0 : LR W0 W0 (.slice A0 zs.length c0) zs W0.heap.size (.slice A0 zs.length c0) zs := ⟨Below.refl _ _, h.below hb0, ⟨W0, rfl, h.below hb0, Below.refl _ _⟩, Nat.le_refl _⟩
  clear h hb0 hbx0 hc
  go_enter Try.func7, Try.ntmps7
  go_upto_region 1 with fail
  try rw [hW0]
  try rw [← hB]
  clear hW0 hB
  by_cases hl : 1048576 < zs.length
  · have hl' : (1048576 : Int) < (zs.length : Int) := by omega
    clear h0
    go_wp2
    go_ret
    exact ⟨rfl, HW.out⟩
  have hl' : ¬ (1048576 : Int) < (zs.length : Int) := by omega
  obtain ⟨x0, x1, x2, x3, x4⟩ := HC.out _ h0.bel
  go_wp2_with fail
  refine (szOu_any c 1048576 _ HZ.out ⟨by omega, by omega⟩).mono ?_
  rintro e w1 ⟨r2, rfl, hr2, hb1⟩
  have h1 := h0.below hb1
  clear hb1 x0 x1 x2 x3 x4
  rcases hr2 with rfl | ⟨g2, g3, hG2⟩
  · have HE : Hid (Below W0.heap.size W0 w1) := h1.bel
    clear h0 h1
    go_wp2
    go_ret
    exact ⟨rfl, HW.out.trans (HE.out.mono HW.out.size)⟩
  have g2' : ¬ r2 < 0 := by omega
  clear h0 hG2
  obtain ⟨L, hL⟩ : ∃ L, L = runO c zs := ⟨_, rfl⟩
  have HL : Hid (L = runO c zs ∧ L.length ≤ 400) := ⟨hL, by rw [hL]; exact runO_len c zs⟩
  have CS : Hid (∀ (v : Value) (w : World), RowN w v zs → Calls Try.prog 25 #[.agg #[.string c.partner, .int .i64 c.number, .string c.text, .int .i64 c.tries, .int .i64 c.due], v] w fun e w' => ∃ u, e = .returned u ∧ RowN w' u L ∧ Below w.heap.size w w') := by rw [hL]; exact fun v w h => outboxRun_spec c v zs w h HZ.out
  have CI : Hid (∀ (v : Value) (w : World), RowN w v zs → Calls Try.prog 27 #[.agg #[.string c.partner, .int .i64 c.number, .string c.text, .int .i64 c.tries, .int .i64 c.due], v] w fun e w' => ∃ u, e = .returned u ∧ (∃ b, w.heap.size ≤ b ∧ LN b w' u L) ∧ Below w.heap.size w w') := by rw [hL]; exact fun v w h => (outboxRun_impl c v zs w h HZ.out).mono fun _ _ ⟨u, b, e, hb, hL, hB⟩ => ⟨u, e, ⟨b, hb, hL⟩, hB⟩
  clear hL
  obtain ⟨x0, x1, x2, x3, x4⟩ := HC.out _ h1.bel
  go_wp2_with fail
  refine (toOu_any c _).mono ?_
  rintro e w1c ⟨rfl, hb1c⟩
  have h1c := h1.below hb1c
  have hsz1c := hb1c.size
  clear h1 hb1c x0 x1 x2 x3 x4
  go_wp2_with fail
  refine (toN_any _ zs _ h1c.row (by omega)).mono ?_
  rintro e w2 ⟨b2, rfl, _, _, l2, hb2⟩
  have h2 := h1c.below hb2
  clear h1c hb2
  go_wp2_with fail
  refine (CS.out _ _ l2.row).mono ?_
  rintro e w3 ⟨u3, rfl, r3, hb3⟩
  obtain ⟨A3, C3, hv3⟩ := r3.val
  subst hv3
  have h3' := h2.below hb3
  have h3 : LR W0 w3 (.slice A0 zs.length c0) zs w3.heap.size (.slice A3 L.length C3) L := ⟨h3'.bel, h3'.arg, ⟨w3, rfl, r3, Below.refl _ _⟩, h3'.bel.size⟩
  clear h3' h2 hb3 r3 l2
  go_wp2_with fail
  refine (toN_any _ zs _ h3.row (by omega)).mono ?_
  rintro e w5 ⟨b5, rfl, hl5, hb5lt, l5, hb5⟩
  have h5 := h3.below hb5
  clear h3 hb5
  obtain ⟨x0, x1, x2, x3, x4⟩ := HC.out _ h5.bel
  go_wp2_with fail
  refine (toOu_any c _).mono ?_
  rintro e w5c ⟨rfl, hb5c⟩
  have h5c := h5.below hb5c
  have hsz5c := hb5c.size
  have l5c := l5.below hb5c
  clear h5 hb5c x0 x1 x2 x3 x4 l5
  go_wp2_with fail
  refine (CI.out _ _ l5c.row).mono ?_
  rintro e w7 ⟨u7, rfl, ⟨b7, hl7, l7⟩, hb7⟩
  obtain ⟨A7, C7, hv7⟩ := l7.val
  subst hv7
  have h7 := h5c.below hb7
  have m7 := l5c.below hb7
  clear h5c l5c hb7
  go_wp2_with fail
  refine (eqN_any _ _ L _ l7.row h7.row3).mono ?_
  rintro e w9 ⟨rfl, hb9⟩
  have h9 := h7.below hb9
  have m9 := m7.below hb9
  have l9 := l7.below hb9
  clear h7 m7 l7 hb9
  go_wp2_with fail
  refine (toN_any _ zs _ h9.row (by omega)).mono ?_
  rintro e wj ⟨bj, rfl, _, _, rj, hbj⟩
  have hj := h9.below hbj
  have mj := m9.below hbj
  have lj := l9.below hbj
  clear h9 m9 l9 hbj
  go_wp2_with fail
  refine (eqN_any _ _ zs _ mj.row rj.row).mono ?_
  rintro e wg ⟨rfl, hbg⟩
  have hg := hj.below hbg
  have mg := mj.below hbg
  have lg := lj.below hbg
  clear hj mj lj hbg rj
  go_wp2_with fail
  refine (markN_any b5 _ zs 1 _ mg (by omega)).mono ?_
  rintro e wm ⟨rfl, _, hkm⟩
  have hm := hg.keep hkm (by omega)
  have lm := lg.keep hkm (fun _ => by omega)
  obtain ⟨K1, hK1⟩ : ∃ K1 : Int, K1 = 1 + (zs.length : Int) := ⟨_, rfl⟩
  rw [← hK1]
  have hK0 : ¬ K1 < 0 := by omega
  clear hK1 hg mg lg hkm
  go_wp2_with fail
  refine (eqN_any _ _ L _ lm.row hm.row3).mono ?_
  rintro e w12 ⟨rfl, hb12⟩
  have h12 := hm.below hb12
  have l12 := lm.below hb12
  clear hm lm hb12
  go_wp2_with fail
  refine (markN_any b7 _ L 1 _ l12 (by have := HL.out.2; omega)).mono ?_
  rintro e w13 ⟨rfl, l13, hk13⟩
  have h13 := h12.keep hk13 (by omega)
  obtain ⟨K2, hK2⟩ : ∃ K2 : Int, K2 = 1 + (L.length : Int) := ⟨_, rfl⟩
  rw [← hK2]
  have hK20 : ¬ K2 < 0 := by omega
  have HH : Hid (∀ (W : World), RowN W (.slice A7 L.length C7) (mkNs 1 L.length) → Calls Try.prog 30 #[.slice A7 L.length C7, .int .i64 1] W fun e w' => e = .returned (.int .i64 K2) ∧ Below W.heap.size W w') := by
    intro W hW
    rw [hK2]
    exact heldN_any _ L.length 1 W hW (by have := HL.out.2; omega)
  clear hK2 h12 l12 hk13
  go_wp2_with fail
  refine (HH.out _ l13.row).mono ?_
  rintro e w14 ⟨rfl, hb14⟩
  have h14 := h13.below hb14
  have l14 := l13.below hb14
  clear h13 l13 hb14
  obtain ⟨x0, x1, x2, x3, x4⟩ := HC.out _ h14.bel
  go_wp2_with fail
  refine (toOu_any c _).mono ?_
  rintro e w14c ⟨rfl, hb14c⟩
  have h14c := h14.below hb14c
  have hsz14c := hb14c.size
  have l14c := l14.below hb14c
  clear h14 hb14c x0 x1 x2 x3 x4 l14
  go_wp2_with fail
  refine (toN_any _ zs _ h14c.row (by omega)).mono ?_
  rintro e w15 ⟨b15, rfl, _, _, r15, hb15⟩
  have h15 := h14c.below hb15
  have l15 := l14c.below hb15
  clear h14c l14c hb15
  go_wp2_with fail
  refine (CI.out _ _ r15.row).mono ?_
  rintro e w16 ⟨u16, rfl, ⟨b16, _, l16⟩, hb16⟩
  obtain ⟨A16, C16, hv16⟩ := l16.val
  subst hv16
  have h16 := h15.below hb16
  have l17 := l15.below hb16
  clear h15 l15 hb16 r15
  go_wp2_with fail
  refine (eqN_any _ _ L _ l16.row h16.row3).mono ?_
  rintro e w18 ⟨rfl, hb18⟩
  have h18 := h16.below hb18
  have l18 := l17.below hb18
  clear h16 l16 l17 hb18
  go_wp2_with fail
  refine (HH.out _ l18.row).mono ?_
  rintro e w19 ⟨rfl, hb19⟩
  have HE : Hid (Below W0.heap.size W0 w19) := (h18.below hb19).bel
  clear h18 l18 hb19
  go_wp2
  go_ret
  exact ⟨rfl, HW.out.trans (HE.out.mono HW.out.size)⟩
theorem own : ownKnob Try.prog.godebug = none := by kernel_rfl
theorem laidOut : laidOutB Try.prog = true := by kernel_rfl
set_option maxRecDepth 100000 in
theorem lifted (os : Os) (started : os.Started) (H : Type) (enc : TypeId × Value → H) :
    ReturnsInHanded {} Try.checked os 7 .any (Rows.fnExactOutboxRunSpec.pre6 enc Try.prog Try.f7 Rows.fnExactOutboxRunRow.domain false) (Rows.fnExactOutboxRunSpec.post enc Try.prog Try.f7 false true false false) := by
  refine returnsInHanded_of_change (C := Try.checked) own started (by kernel_rfl) Try.func7
    (ChangeSpec.witness6 (enc := enc) (C := Try.checked) false ⟨#[], #[.agg #[.string ⟨#[]⟩, .int .i64 0, .string ⟨#[]⟩, .int .i64 0, .int .i64 0], .slice none 0 0], []⟩ 8 (by kernel_rfl) (by kernel_rfl) (by kernel_rfl) (by kernel_rfl)) ?_
  intro W base args ds gs before hval0 hW hcnd _
  have hval : ∀ (j : Nat) t v, Try.f7.params[j]? = some t → args[j]? = some v → Value.okWide Try.prog W .any base t v := hval0
  have hW' := hW
  obtain ⟨p, q, hA0, hV, rfl, hfz, hnd⟩ := hW
  have hA : DataW.TrodAll enc Try.prog W 0 (fun _ => true) true Try.f7.params.toList args.toList ds p := hA0
  rw [Try.params7] at hA hval
  obtain ⟨v0, vs0, d0, ds0, p0, q0, hargs, rfl, rfl, h0, r0⟩ := trodAll_cons hA
  obtain ⟨v1, vs1, d1, ds1, p1, q1, rfl, rfl, rfl, h1, r1⟩ := trodAll_cons r0
  obtain ⟨rfl, rfl, rfl⟩ := trodAll_nil r1
  obtain rfl : args = #[v0, v1] := by cases args; simp_all
  obtain ⟨rfl, rfl⟩ := trodVars_none hV
  have k0 := h0
  have lt0 : ∀ x ∈ p0, x.block < W.heap.size := by obtain ⟨m, hm⟩ := k0; exact DataW.trod_lt m _ _ _ hm
  obtain ⟨c0, rfl, hc0⟩ := openOua (hval 0 30 v0 rfl rfl) h0
  have k1 := h1
  have lt1 : ∀ x ∈ p1, x.block < W.heap.size := by obtain ⟨m, hm⟩ := k1; exact DataW.trod_lt m _ _ _ hm
  obtain ⟨zs1, hr1⟩ := openNs (hval 1 46 v1 rfl rfl) h1
  clear hA0 hval0
  refine (walk c0 v1 zs1 W hc0 hr1).mono fun e W' ⟨he, bel⟩ => ?_
  subst he
  exact ⟨_, rfl, _, _, _, [], _, [], hW', trodAll_mk1 (shut_bool Try.underlying4 _), (trodAll_cons_mk (Below.trod laidOut (by kernel_rfl) (of_decide_eq_true (by kernel_rfl)) k0 bel lt0) (trodAll_cons_mk (Below.trod laidOut (by kernel_rfl) (of_decide_eq_true (by kernel_rfl)) k1 bel lt1) trodAll_mk0)), rfl, bel.frame _, fun h => by cases h⟩
theorem over : Rows.fnExactOutboxRunRow.holds Try.pinned (OpenSpec.ofChange Rows.fnExactOutboxRunSpec) :=
  OpenClaim.holds_of_wide 7 Try.f7 rfl rfl rfl rfl rfl rfl rfl ⟨rfl, rfl, rfl, rfl, rfl⟩ rfl rfl rfl rfl rfl (by kernel_rfl) Try.func7 (by kernel_rfl)
    (of_decide_eq_true (by kernel_rfl)) (by unfold Func.isWrapper; first | (rw [if_pos (by decide +kernel)]; kernel_rfl) | (rw [if_neg (by decide +kernel)]; exact ⟨rfl, rfl⟩))
    (fun os started H enc _ => lifted os started H enc)
end fnExactOutboxRun
theorem fnExactOutboxRun_holds : Rows.FnExactOutboxRunSaid := fnExactOutboxRun.over
#print axioms fnExactOutboxRun_holds
end Go.Proofs.Ytfjeaknlooomjaa
