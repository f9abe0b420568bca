/- TableCheck answers at every kind and every body as the model does, and writes into no argument. Conditions: none but what the card ties. -/
import Derived.Test.YtjhndkcnlemooaaDoorTcS
import Derived.Test.YtjhndkcnlemooaaDoorOpenSegs
import Derived.Test.YtjhndkcnlemooaaDoorLaidErrs
import Derived.Test.YtjhndkcnlemooaaDoorTabLaid
import Derived.Deep.RegionHeld3
import Derived.Test.YtjhndkcnlemooaaDoorCards
import Derived.Test.YtjhndkcnlemooaaDoorTie
import Derived.Lib.SmallJoins
import Derived.OpenVars
import Derived.Stop.Joined
import Derived.LaidMore
import Derived.SevenTiedAt
import Derived.Lay
import Derived.MakeChecks
namespace Go.Proofs.YtjhndkcnlemooaaDoor
open Go.ChangeShapes Go.WideShapes Go.ChangeAt Go.RowKit Go.Joins
open Go.ChangeMaps (open_string shut_string)
set_option linter.unusedVariables false
namespace fnExactTableCheck
theorem errs {W : World} (hL : laidMetH Tryd.prog Rows.fnExactTableCheckRow.laid W) : ErrsAt W ∧ TablesAt W := by
  rw [MakeChecks.laidMetH_plain _ _ _ (by kernel_rfl)] at hL
  have h4 := laidMet.tail (laidMet.tail (laidMet.tail (laidMet.tail hL)))
  exact ⟨⟨err_at (laidMet.tail h4) gSyn tSyn, err_at h4 gRng tRng⟩, tab_at (laidMet.tail (laidMet.tail h4))⟩
set_option maxHeartbeats 1000000 in
theorem eqTc_any (a b c : Int) (w : World) : Calls Tryd.prog 14 #[.agg #[.int .i64 a, .int .i64 b, .int .i64 c], .agg #[.int .i64 a, .int .i64 b, .int .i64 c]] w fun e w' => e = .returned (.bool true) ∧ Below w.heap.size w w' := by
  have b0 : Below w.heap.size w ((w.alloc (.cells #[.int .i64 a, .int .i64 b, .int .i64 c] 27)).alloc (.cells #[.int .i64 a, .int .i64 b, .int .i64 c] 27)) := ((Below.refl _ _).alloc (Nat.le_refl _) _).alloc (by simp) _
  go_enter Tryd.func14, Tryd.ntmps14
  go_wp2
  go_ret
  exact ⟨rfl, b0⟩
structure LT (w W : World) (v : Value) (gs : List Seg) : Prop where
  bel : Below w.heap.size w W
  row : RowG W v gs
  errs : ErrsAt W
  tabs : TablesAt W
theorem LT.below {w W W' : World} {v : Value} {gs : List Seg} (h : LT w W v gs) (hb : Below W.heap.size W W') : LT w W' v gs :=
  ⟨h.bel.trans (hb.mono h.bel.size), h.row.below hb, h.errs.below hb, h.tabs.below hb rfl⟩
set_option maxHeartbeats 2000000 in
theorem walk (n : Int) (v : Value) (gs : List Seg) (w : World) (h : RowG w v gs) (hL : laidMetH Tryd.prog Rows.fnExactTableCheckRow.laid w) :
    Calls Tryd.prog 4 #[.int .i64 n, v] w fun e w' => e = .returned (.bool true) ∧ Below w.heap.size w w' := by
  have h0 : LT w w v gs := ⟨Below.refl _ _, h, (errs hL).1, (errs hL).2⟩
  clear hL
  obtain ⟨A, cap, rfl⟩ := h.val
  clear h
  go_enter Tryd.func4, Tryd.ntmps4
  go_wp2_with fail
  refine (szGs_any _ gs 1048576 _ h0.row (by omega)).mono ?_
  rintro e w1 ⟨r, rfl, hr, hb1⟩
  have h1 := h0.below hb1
  clear hb1 h0
  rcases hr with rfl | ⟨g0, g1, hG⟩
  · have H1 : Hid (Below w.heap.size w w1) := h1.bel
    clear h1
    go_wp2
    go_ret
    exact ⟨rfl, H1.out⟩
  · have g0' : ¬ r < 0 := by omega
    have HG : Hid (BdG 1048576 gs) := hG
    have hgl := hG.1
    clear hG
    go_wp2_with fail
    refine (toGs_any _ gs _ h1.row HG.out).mono ?_
    rintro e w2 ⟨v2, rfl, hO2, hb2⟩
    have h2 := h1.below hb2
    have r2 := hO2.row HG.out
    clear hb2 hO2 h1
    go_wp2_with fail
    refine (tableCheck_spec n v2 gs _ r2 HG.out).mono ?_
    rintro e w3 ⟨rfl, hb3⟩
    have h3 := h2.below hb3
    clear hb3 h2 r2
    generalize htv : tcV n gs = tv
    have HTV : Hid (tcV n gs = tv) := htv
    clear htv
    obtain ⟨ta, te, tc⟩ := tv
    unfold tcVal
    dsimp only
    have h4 := h3.below ((Below.refl _ w3).alloc (Nat.le_refl _) (.cells #[.int .i64 ta, .int .i64 te, .int .i64 tc] 27))
    have x0 : (w3.alloc (.cells #[.int .i64 ta, .int .i64 te, .int .i64 tc] 27)).cell? ⟨w3.heap.size, 0, none⟩ = some (.int .i64 ta) := by simp [go_sem]
    have x1 : (w3.alloc (.cells #[.int .i64 ta, .int .i64 te, .int .i64 tc] 27)).cell? ⟨w3.heap.size, 1, none⟩ = some (.int .i64 te) := by simp [go_sem]
    have x2 : (w3.alloc (.cells #[.int .i64 ta, .int .i64 te, .int .i64 tc] 27)).cell? ⟨w3.heap.size, 2, none⟩ = some (.int .i64 tc) := by simp [go_sem]
    clear h3
    go_wp2_with fail
    generalize w3.alloc (.cells #[.int .i64 ta, .int .i64 te, .int .i64 tc] 27) = w4 at *
    refine (toGs_any _ gs _ h4.row HG.out).mono ?_
    rintro e w5 ⟨v5, rfl, hO5, hb5⟩
    have h5 := h4.below hb5
    have r5 := hO5.row HG.out
    have y0 := (hb5.cell (cell_lt x0)).trans x0
    have y1 := (hb5.cell (cell_lt x1)).trans x1
    have y2 := (hb5.cell (cell_lt x2)).trans x2
    have hcv : ∃ A C, v5 = .slice A gs.length C ∧ gs.length ≤ C ∧ C ≤ maxLen := by
      obtain ⟨b, f, _, e, _⟩ := hO5
      exact ⟨_, _, e, Nat.le_refl _, by unfold maxLen; omega⟩
    clear hb5 hO5 h4 x0 x1 x2
    go_wp2_with fail
    refine (tableCheck_impl n v5 gs _ r5 HG.out hcv h5.tabs h5.errs).mono ?_
    rintro e w6 ⟨rfl, hb6⟩
    rw [HTV.out]
    unfold tcVal
    dsimp only
    have h6 := h5.below hb6
    have r6 := r5.below hb6
    have z0 := (hb6.cell (cell_lt y0)).trans y0
    have z1 := (hb6.cell (cell_lt y1)).trans y1
    have z2 := (hb6.cell (cell_lt y2)).trans y2
    have b7 := (Below.refl w6.heap.size w6).alloc (Nat.le_refl _) (.cells #[.int .i64 ta, .int .i64 te, .int .i64 tc] 27)
    have h7 := h6.below b7
    have r7 := r6.below b7
    have u0 := (b7.cell (cell_lt z0)).trans z0
    have u1 := (b7.cell (cell_lt z1)).trans z1
    have u2 := (b7.cell (cell_lt z2)).trans z2
    clear hb6 h5 r5 y0 y1 y2 z0 z1 z2 h6 r6 b7 hcv
    go_wp2_with fail
    refine (eqTc_any ta te tc _).mono ?_
    rintro e w8 ⟨rfl, hb8⟩
    have h8 := h7.below hb8
    have r8 := r7.below hb8
    clear hb8 h7 r7 u0 u1 u2
    go_wp2_with fail
    refine (toGs_any _ gs _ h8.row HG.out).mono ?_
    rintro e w9 ⟨v9, rfl, hO9, hb9⟩
    have h9 := h8.below hb9
    have r9 := r8.below hb9
    have r9' := hO9.row HG.out
    clear hb9 h8 r8 hO9
    go_wp2_with fail
    refine (eqGs_any v5 v9 gs _ r9 r9').mono ?_
    rintro e w10 ⟨rfl, hb10⟩
    have H10 : Hid (Below w.heap.size w w10) := (h9.below hb10).bel
    clear hb10 h9 r9 r9'
    go_wp2
    go_ret
    exact ⟨rfl, H10.out⟩
theorem own : ownKnob Tryd.prog.godebug = none := by kernel_rfl
theorem laidOut : laidOutB Tryd.prog = true := by kernel_rfl
set_option maxRecDepth 100000 in
theorem lifted (os : Os) (started : os.Started) (H : Type) (enc : TypeId × Value → H) :
    ReturnsInHanded {} Tryd.checked os 4 .any (fun w args => (Rows.fnExactTableCheckSpec.pre enc Tryd.prog Tryd.f4 [] false w args ∧ laidMetH Tryd.prog Rows.fnExactTableCheckRow.laid w) ∧ sizedMet enc Tryd.prog Tryd.f4 (OpenSpec.ofChange Rows.fnExactTableCheckSpec) false w args)
      (Rows.fnExactTableCheckSpec.post enc Tryd.prog Tryd.f4 false true false false) := by
  refine returnsInHanded_of_change_and (C := Tryd.checked) (X := fun w _ => laidMetH Tryd.prog Rows.fnExactTableCheckRow.laid w) (fun _ _ _ hh h => h.of_heap hh) own started (by kernel_rfl) Tryd.func4
    (ChangeSpec.witness_shaped (enc := enc) (C := Tryd.checked) (os := os) (X := fun w _ => laidMetH Tryd.prog Rows.fnExactTableCheckRow.laid w) false (World.laidAll Tryd.prog os Rows.fnExactTableCheckRow.laid) #[.int .i64 0, .slice none 0 0] 8 (World.laidAll_os _ _ _) (World.shaped_of_ZipB (by kernel_rfl) (by kernel_rfl)) (by kernel_rfl) (by kernel_rfl) (by kernel_rfl) (by rw [MakeChecks.laidMetH_plain _ _ _ (by kernel_rfl)]; exact laidMet_laidAll _ (by kernel_rfl) (by kernel_rfl))) ?_
  intro W base args ds gs before hval0 hW hcnd _ hL _
  have hval : ∀ (j : Nat) t v, Tryd.f4.params[j]? = some t → args[j]? = some v → Value.okWide Tryd.prog W .any base t v := hval0
  have hW' := hW
  obtain ⟨p, q, hA0, hV, rfl, hfz, hnd⟩ := hW
  have hA : DataW.TrodAll enc Tryd.prog W 0 (fun _ => true) true Tryd.f4.params.toList args.toList ds p := hA0
  rw [Tryd.params4] at hA hval
  obtain ⟨v0, vs0, d0, ds0, p0, q0, hargs, rfl, rfl, h0, r0⟩ := trodAll_cons hA
  obtain ⟨v1, vs1, d1, ds1, p1, q1, rfl, rfl, rfl, h1, r1⟩ := trodAll_cons r0
  obtain ⟨rfl, rfl, rfl⟩ := trodAll_nil r1
  obtain rfl : args = #[v0, v1] := by cases args; simp_all
  obtain ⟨_, _, _, _, gd, _, rfl, _⟩ := trodVars_one hV
  have k0 := h0
  have lt0 : ∀ x ∈ p0, x.block < W.heap.size := by obtain ⟨m, hm⟩ := k0; exact DataW.trod_lt m _ _ _ hm
  obtain ⟨n0, rfl⟩ : ∃ n : Int, v0 = .int .i64 n := by
    obtain ⟨n, rfl, _, _, _⟩ := open_int Tryd.underlying2 (hval 0 2 v0 rfl rfl) h0
    exact ⟨n, rfl⟩
  have k1 := h1
  have lt1 : ∀ x ∈ p1, x.block < W.heap.size := by obtain ⟨m, hm⟩ := k1; exact DataW.trod_lt m _ _ _ hm
  obtain ⟨gs1, hr1⟩ := openGs (hval 1 40 v1 rfl rfl) h1
  clear hA0 hval0
  refine (walk n0 v1 gs1 W hr1 hL).mono fun e W' ⟨he, bel⟩ => ?_
  subst he
  exact ⟨_, rfl, _, _, _, [], _, _, hW', trodAll_mk1 (shut_bool Tryd.underlying4 _), (trodAll_cons_mk (Below.trod laidOut (by kernel_rfl) (of_decide_eq_true (by kernel_rfl)) k0 bel lt0) (trodAll_cons_mk (Below.trod laidOut (by kernel_rfl) (of_decide_eq_true (by kernel_rfl)) k1 bel lt1) trodAll_mk0)), Below.trodVars laidOut bel (by kernel_rfl) hV, bel.frame _, fun h => by cases h⟩
theorem over : Rows.fnExactTableCheckRow.holds Tryd.pinned (OpenSpec.ofChange Rows.fnExactTableCheckSpec) :=
  OpenClaim.holds_of_wide 4 Tryd.f4 rfl rfl rfl rfl rfl rfl rfl ⟨rfl, rfl, rfl, rfl, rfl⟩ rfl rfl rfl rfl rfl (by kernel_rfl) Tryd.func4 (by kernel_rfl)
    (of_decide_eq_true (by kernel_rfl)) (by unfold Func.isWrapper; first | (rw [if_pos (by decide +kernel)]; kernel_rfl) | (rw [if_neg (by decide +kernel)]; exact ⟨rfl, rfl⟩))
    (fun os started H enc _ => lifted os started H enc)
theorem card : Rows.FnExactTableCheckCardSaid :=
  Claim7.holds_tied_plain_at .later [] [.data, .data, .data, .data, .sentinel, .sentinel, .widerDeep, .pinned] true (true, "fbdad5d868137b883fbdb5abb89a84fb22a9b50374cf0aed3aaf7e5d26605b3a") true
    over (fun _ h => by cases h) (by kernel_rfl) (fun _ h => by cases h) fnExactTableCheck_row_tie rfl ⟨rfl, rfl⟩ (by kernel_rfl) rfl
    (fun f fn hf hfn => by
      obtain rfl : f = 4 := Option.some.inj ((show Tryd.prog.funcNamed "loop.example/g00096/laws.FnExactTableCheck" = some 4 by kernel_rfl).symm.trans hf) |>.symm
      obtain rfl : fn = Tryd.f4 := (Option.some.inj (Tryd.func4.symm.trans hfn)).symm
      exact ⟨by kernel_rfl, fun j t ht => by
        rw [Tryd.params4] at ht
        have hj : Tryd.prog.wantsStandIn t = false := by
          rcases j with _ | j
          · have e : t = 2 := by simpa using ht.symm
            subst e
            exact (show Tryd.prog.wantsStandIn 2 = false by kernel_rfl)
          rcases j with _ | j
          · have e : t = 40 := by simpa using ht.symm
            subst e
            exact (show Tryd.prog.wantsStandIn 40 = false by kernel_rfl)
          simp at ht
        exact hj⟩)
    (by kernel_rfl)
end fnExactTableCheck
theorem fnExactTableCheck_holds : Rows.FnExactTableCheckCardSaid := fnExactTableCheck.card
#print axioms fnExactTableCheck_holds
end Go.Proofs.YtjhndkcnlemooaaDoor
