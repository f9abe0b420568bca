/- FnExactPartnerAsk returns true at every partner and number and leaves them as they were: PartnerAsk answers as its model and writes into no argument; no condition. -/
import Derived.Test.YtnnfkifjkmodpaaSzPt
import Derived.Test.YtnnfkifjkmodpaaToPt
import Derived.Test.YtnnfkifjkmodpaaEqPt
import Derived.Test.YtnnfkifjkmodpaaAskI
import Derived.Test.YtnnfkifjkmodpaaAskS
import Derived.Test.YtnnfkifjkmodpaaOpenPt
import Derived.Deep.RegionHeld3
import Derived.Lib.SmallJoins
namespace Go.Proofs.Ytnnfkifjkmodpaa
open Go.ChangeShapes Go.WideShapes Go.ChangeAt Go.RowKit Go.Joins
open Go.ChangeMaps (open_string shut_string)
set_option linter.unusedVariables false
namespace fnExactPartnerAsk
/-- Block B holds the record. -/
structure LP (B t : Nat) (w W : World) (p : Ptn) (v : Value) : Prop where
  bel : Below w.heap.size w W
  blk : W.heap[B]? = some (.cells #[.string p.name, .int .i64 p.low, .int .i64 p.next, v] t)
  row : RPt W v p
theorem LP.below {B t : Nat} {w W W' : World} {p : Ptn} {v : Value} (h : LP B t w W p v) (hb : Below W.heap.size W W') : LP B t w W' p v :=
  ⟨h.bel.trans (hb.mono h.bel.size), (hb.block B (Array.getElem?_eq_some_iff.1 h.blk).1).trans h.blk, h.row.below hb⟩
theorem LP.drew {B t : Nat} {w W : World} {p : Ptn} {v : Value} (h : LP B t w W p v) : LP B t w W.drew p v := h.below (Below.refl _ _).drew
theorem LP.cells {B t : Nat} {w W : World} {p : Ptn} {v : Value} (h : LP B t w W p v) : W.cell? ⟨B, 0, none⟩ = some (.string p.name) ∧ W.cell? ⟨B, 1, none⟩ = some (.int .i64 p.low) ∧ W.cell? ⟨B, 2, none⟩ = some (.int .i64 p.next) ∧ W.cell? ⟨B, 3, none⟩ = some (v) := by
  have h1 := h.blk
  refine ⟨?_, ?_, ?_, ?_⟩ <;> simp [World.cell?, h1]
theorem LP.made {B t : Nat} {w W : World} {p q : Ptn} {v : Value} (h : LP B t w W p v) (t' : Nat) {v' : Value} (h' : RPt W v' q) :
    LP W.heap.size t' w (W.alloc (.cells #[.string q.name, .int .i64 q.low, .int .i64 q.next, v'] t')) q v' :=
  ⟨h.bel.alloc h.bel.size _, World.alloc_heap_new W _, h'.below ((Below.refl _ _).alloc (Nat.le_refl _) _)⟩
set_option maxHeartbeats 8000000 in
theorem walk (p : Ptn) (u : Value) (n0 : Int) (w : World) (h : RPt w u p) :
    Calls Try.prog 4 #[.agg #[.string p.name, .int .i64 p.low, .int .i64 p.next, u], .int .i64 n0] w fun e w' => e = .returned (.bool true) ∧ Below w.heap.size w w' := by
  obtain ⟨A0, c0, rfl⟩ := h.ls.val
  have b1 : Below w.heap.size w (w.alloc (.cells #[.string p.name, .int .i64 p.low, .int .i64 p.next, (.slice A0 p.seen.length c0)] 24)) := (Below.refl _ _).alloc (Nat.le_refl _) _
  have h0 : LP w.heap.size 24 w (w.alloc (.cells #[.string p.name, .int .i64 p.low, .int .i64 p.next, (.slice A0 p.seen.length c0)] 24)) p (.slice A0 p.seen.length c0) := ⟨b1, World.alloc_heap_new w _, h.below b1⟩
  clear h b1
  go_enter Try.func4, Try.ntmps4
  go_wp2_with fail
  refine (szPt_any p _ 1048576 _ h0.row (by omega)).mono ?_
  rintro e w1 ⟨r, rfl, hr, hb1⟩
  have h1 := h0.below hb1
  clear hb1 h0
  rcases hr with rfl | ⟨g0, g1, hP⟩
  · have H1 : Hid (Below w.heap.size w w1) := h1.bel
    clear h1
    go_wp2
    go_ret
    exact ⟨rfl, H1.out⟩
  · have g0' : ¬ r < 0 := by omega
    have HP : Hid (BdPt 1048576 p) := hP
    clear hP
    obtain ⟨x0, x1, x2, x3⟩ := h1.cells
    go_wp2_with fail
    refine (toPt_any p _ _ h1.row HP.out).mono ?_
    rintro e w2 ⟨v2, rfl, r2, hb2⟩
    have h2 := h1.below hb2
    clear hb2 h1 x0 x1 x2 x3
    go_wp2_with fail
    refine (ptAsk_spec p _ n0 _ r2).mono ?_
    rintro e w3 ⟨rfl, hb3⟩
    have h3 := h2.below hb3
    clear hb3 h2 r2
    obtain ⟨x0, x1, x2, x3⟩ := h3.cells
    go_wp2_with fail
    refine (toPt_any p _ _ h3.row HP.out).mono ?_
    rintro e w5 ⟨va5, rfl, r5, hb5⟩
    have h5 := h3.below hb5
    clear hb5 h3 x0 x1 x2 x3
    obtain ⟨E0, f0, rfl⟩ := r5.ls.val
    have m6 := h5.made 28 r5
    have h6 := h5.below ((Below.refl _ w5).alloc (Nat.le_refl _) (.cells #[.string p.name, .int .i64 p.low, .int .i64 p.next, .slice E0 p.seen.length f0] 28))
    obtain ⟨z0, z1, z2, z3⟩ := m6.cells
    clear h5 r5
    go_wp2_with fail
    refine (ptAsk_impl p _ n0 _ m6.row).mono ?_
    rintro e w9 ⟨rfl, hb9⟩
    have h9 := h6.below hb9
    have m9 := m6.below hb9
    clear hb9 h6 m6 z0 z1 z2 z3
    obtain ⟨x0, x1, x2, x3⟩ := h9.cells
    obtain ⟨z0, z1, z2, z3⟩ := m9.cells
    go_wp2_with fail
    go_region_held3 (fun W => W.cell? ⟨w.heap.size, 0, none⟩ = some (.string p.name) ∧ W.cell? ⟨w.heap.size, 1, none⟩ = some (.int .i64 p.low) ∧ W.cell? ⟨w.heap.size, 2, none⟩ = some (.int .i64 p.next) ∧ W.cell? ⟨w.heap.size, 3, none⟩ = some ((.slice A0 p.seen.length c0)) ∧ W.cell? ⟨w5.heap.size, 0, none⟩ = some (.string p.name) ∧ W.cell? ⟨w5.heap.size, 1, none⟩ = some (.int .i64 p.low) ∧ W.cell? ⟨w5.heap.size, 2, none⟩ = some (.int .i64 p.next) ∧ W.cell? ⟨w5.heap.size, 3, none⟩ = some ((.slice E0 p.seen.length f0))) (go_keep) (first | (go_at_call_of 8 (Value.agg #[.string p.name, .int .i64 p.low, .int .i64 p.next, (.slice A0 p.seen.length c0)]); refine (toPt_any p _ _ h9.drew.row HP.out).mono ?_; rintro e wj ⟨vaj, rfl, rj, hb⟩; have hj := h9.drew.below hb; have mj := m9.drew.below hb; clear hb; obtain ⟨xj0, xj1, xj2, xj3⟩ := hj.cells; obtain ⟨zj0, zj1, zj2, zj3⟩ := mj.cells) | (go_at_call 11; refine (eqPt_any p _ _ _ mj.row rj).mono ?_; rintro e wg ⟨rfl, hb⟩; have hg := hj.below hb; have mg := mj.below hb; clear hb; obtain ⟨xg0, xg1, xg2, xg3⟩ := hg.cells; obtain ⟨zg0, zg1, zg2, zg3⟩ := mg.cells))
    rename_i hHeld
    clear hHeld
    have HE : Hid (Below w.heap.size w wg) := hg.bel
    clear hg mg h9 m9
    go_wp2
    go_ret
    exact ⟨rfl, HE.out⟩
theorem own : ownKnob Try.prog.godebug = none := by kernel_rfl
theorem laidOut : laidOutB Try.prog = true := by kernel_rfl
set_option maxRecDepth 100000 in
theorem lifted (os : Os) (started : os.Started) (H : Type) (enc : TypeId × Value → H) :
    ReturnsInHanded {} Try.checked os 4 .any (Rows.fnExactPartnerAskSpec.pre6 enc Try.prog Try.f4 Rows.fnExactPartnerAskRow.domain false) (Rows.fnExactPartnerAskSpec.post enc Try.prog Try.f4 false true false false) := by
  refine returnsInHanded_of_change (C := Try.checked) own started (by kernel_rfl) Try.func4
    (ChangeSpec.witness6 (enc := enc) (C := Try.checked) false ⟨#[], #[.agg #[.string ⟨#[]⟩, .int .i64 0, .int .i64 0, .slice none 0 0], .int .i64 0], []⟩ 8 (by kernel_rfl) (by kernel_rfl) (by kernel_rfl) (by kernel_rfl)) ?_
  intro W base args ds gs before hval0 hW hcnd _
  have hval : ∀ (j : Nat) t v, Try.f4.params[j]? = some t → args[j]? = some v → Value.okWide Try.prog W .any base t v := hval0
  have hW' := hW
  obtain ⟨p, q, hA0, hV, rfl, hfz, hnd⟩ := hW
  have hA : DataW.TrodAll enc Try.prog W 0 (fun _ => true) true Try.f4.params.toList args.toList ds p := hA0
  rw [Try.params4] at hA hval
  obtain ⟨v0, vs0, d0, ds0, p0, q0, hargs, rfl, rfl, h0, r0⟩ := trodAll_cons hA
  obtain ⟨v1, vs1, d1, ds1, p1, q1, rfl, rfl, rfl, h1, r1⟩ := trodAll_cons r0
  obtain ⟨rfl, rfl, rfl⟩ := trodAll_nil r1
  obtain rfl : args = #[v0, v1] := by cases args; simp_all
  obtain ⟨rfl, rfl⟩ := trodVars_none hV
  have k0 := h0
  have lt0 : ∀ x ∈ p0, x.block < W.heap.size := by obtain ⟨m, hm⟩ := k0; exact DataW.trod_lt m _ _ _ hm
  obtain ⟨q0, up0, rfl, hr0⟩ := openPta (hval 0 24 v0 rfl rfl) h0
  have k1 := h1
  have lt1 : ∀ x ∈ p1, x.block < W.heap.size := by obtain ⟨m, hm⟩ := k1; exact DataW.trod_lt m _ _ _ hm
  obtain ⟨n1, rfl⟩ : ∃ n : Int, v1 = .int .i64 n := by
    obtain ⟨n, rfl, _, _, _⟩ := open_int Try.underlying2 (hval 1 2 v1 rfl rfl) h1
    exact ⟨n, rfl⟩
  clear hA0 hval0
  refine (walk q0 up0 n1 W hr0).mono fun e W' ⟨he, bel⟩ => ?_
  subst he
  exact ⟨_, rfl, _, _, _, [], _, [], hW', trodAll_mk1 (shut_bool Try.underlying4 _), (trodAll_cons_mk (Below.trod laidOut (by kernel_rfl) (of_decide_eq_true (by kernel_rfl)) k0 bel lt0) (trodAll_cons_mk (Below.trod laidOut (by kernel_rfl) (of_decide_eq_true (by kernel_rfl)) k1 bel lt1) trodAll_mk0)), rfl, bel.frame _, fun h => by cases h⟩
theorem over : Rows.fnExactPartnerAskRow.holds Try.pinned (OpenSpec.ofChange Rows.fnExactPartnerAskSpec) :=
  OpenClaim.holds_of_wide 4 Try.f4 rfl rfl rfl rfl rfl rfl rfl ⟨rfl, rfl, rfl, rfl, rfl⟩ rfl rfl rfl rfl rfl (by kernel_rfl) Try.func4 (by kernel_rfl)
    (of_decide_eq_true (by kernel_rfl)) (by unfold Func.isWrapper; first | (rw [if_pos (by decide +kernel)]; kernel_rfl) | (rw [if_neg (by decide +kernel)]; exact ⟨rfl, rfl⟩))
    (fun os started H enc _ => lifted os started H enc)
end fnExactPartnerAsk
theorem fnExactPartnerAsk_holds : Rows.FnExactPartnerAskSaid := fnExactPartnerAsk.over
#print axioms fnExactPartnerAsk_holds
end Go.Proofs.Ytnnfkifjkmodpaa
