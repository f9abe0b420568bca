/- IxCount answers at every interchange as the model does, and writes into no argument. Conditions: none but what the card ties. -/
import Derived.Test.YtmnfijgmfedpmaaDoorSzIx
import Derived.Test.YtmnfijgmfedpmaaDoorToIx
import Derived.Test.YtmnfijgmfedpmaaDoorEqIx
import Derived.Test.YtmnfijgmfedpmaaDoorIxV
import Derived.Test.YtmnfijgmfedpmaaDoorOpenIx
import Derived.Deep.RegionHeld3
import Derived.LaidLaws
import Derived.Stop.LaidErr
import Derived.Test.YtmnfijgmfedpmaaDoorCards
import Derived.Test.YtmnfijgmfedpmaaDoorTie
import Derived.Lib.SmallJoins
import Derived.OpenVars
import Derived.Stop.Joined
import Derived.LaidMore
import Derived.SevenTiedAt
import Derived.Lay
import Derived.MakeChecks
namespace Go.Proofs.YtmnfijgmfedpmaaDoor
open Go.ChangeShapes Go.WideShapes Go.ChangeAt Go.RowKit Go.Joins
open Go.ChangeMaps (open_string shut_string)
set_option linter.unusedVariables false
namespace fnExactIxCount
/-- Block A holds the interchange. -/
structure LP (A t : Nat) (w W : World) (p : Ixc) (v : Value) : Prop where
  bel : Below w.heap.size w W
  blk : W.heap[A]? = some (.cells #[.string p.frm, .string p.to, .int .i64 p.num, v] t)
  row : RI W v p
theorem LP.below {A t : Nat} {w W W' : World} {p : Ixc} {v : Value} (h : LP A t w W p v) (hb : Below W.heap.size W W') : LP A t w W' p v :=
  ⟨h.bel.trans (hb.mono h.bel.size), (hb.block A (Array.getElem?_eq_some_iff.1 h.blk).1).trans h.blk, h.row.below hb⟩
theorem LP.drew {A t : Nat} {w W : World} {p : Ixc} {v : Value} (h : LP A t w W p v) : LP A t w W.drew p v := h.below (Below.refl _ _).drew
theorem LP.cells {A t : Nat} {w W : World} {p : Ixc} {v : Value} (h : LP A t w W p v) : W.cell? ⟨A, 0, none⟩ = some (.string p.frm) ∧ W.cell? ⟨A, 1, none⟩ = some (.string p.to) ∧ W.cell? ⟨A, 2, none⟩ = some (.int .i64 p.num) ∧ W.cell? ⟨A, 3, none⟩ = some (v) := by
  have h1 := h.blk
  refine ⟨?_, ?_, ?_, ?_⟩ <;> simp [World.cell?, h1]
theorem LP.made {A t : Nat} {w W : World} {p q : Ixc} {v : Value} (h : LP A t w W p v) (t' : Nat) {v' : Value} (h' : RI W v' q) :
    LP W.heap.size t' w (W.alloc (.cells #[.string q.frm, .string q.to, .int .i64 q.num, v'] t')) q v' :=
  ⟨h.bel.alloc h.bel.size _, World.alloc_heap_new W _, h'.below ((Below.refl _ _).alloc (Nat.le_refl _) _)⟩
theorem tPow : (Tryd.prog.globals[2]?).map (·.type) = some 158 := by kernel_rfl
theorem tab {W : World} (hL : laidMetH Tryd.prog Rows.fnExactIxCountRow.laid W) : TabOk W := by
  rw [MakeChecks.laidMetH_plain _ _ _ (by kernel_rfl)] at hL
  have h2 := laidMet.tail (laidMet.tail hL)
  exact Lib.tabIs_of_head gPow tPow Tryd.underlying158 Tryd.underlying139 (by kernel_rfl) (by kernel_rfl) h2
set_option maxHeartbeats 8000000 in
theorem walk (p : Ixc) (u : Value) (w : World) (h : RI w u p) (hL : laidMetH Tryd.prog Rows.fnExactIxCountRow.laid w) :
    Calls Tryd.prog 4 #[.agg #[.string p.frm, .string p.to, .int .i64 p.num, u]] w fun e w' => e = .returned (.bool true) ∧ Below w.heap.size w w' := by
  have T0 : Hid (TabOk w) := tab hL
  clear hL
  obtain ⟨A0, c0, rfl⟩ := h.ls.val
  have b1 : Below w.heap.size w (w.alloc (.cells #[.string p.frm, .string p.to, .int .i64 p.num, (.slice A0 p.buns.length c0)] 24)) := (Below.refl _ _).alloc (Nat.le_refl _) _
  have h0 : LP w.heap.size 24 w (w.alloc (.cells #[.string p.frm, .string p.to, .int .i64 p.num, (.slice A0 p.buns.length c0)] 24)) p (.slice A0 p.buns.length c0) := ⟨b1, World.alloc_heap_new w _, h.below b1⟩
  clear h b1
  go_enter Tryd.func4, Tryd.ntmps4
  go_wp2_with fail
  refine (szI_any p _ 1048576 _ h0.row (by omega)).mono ?_
  rintro e w1 ⟨r, rfl, hr, hb1⟩
  have h1 := h0.below hb1
  clear hb1 h0
  rcases hr with rfl | ⟨g0, g1, hP⟩
  · have H1 : Hid (Below w.heap.size w w1) := h1.bel
    clear h1
    go_wp2
    go_ret
    exact ⟨rfl, H1.out⟩
  · have g0' : ¬ r < 0 := by omega
    have HP : Hid (BdI 1048576 p) := hP
    clear hP
    obtain ⟨x0, x1, x2, x3⟩ := h1.cells
    go_wp2_with fail
    refine (toI_any p _ _ h1.row HP.out).mono ?_
    rintro e w2 ⟨v2, rfl, r2, hb2⟩
    have h2 := h1.below hb2
    clear hb2 h1 x0 x1 x2 x3
    go_wp2_with fail
    refine (ixCount_spec p _ _ r2 HP.out).mono ?_
    rintro e w3 ⟨rfl, hb3⟩
    have h3 := h2.below hb3
    clear hb3 h2 r2
    obtain ⟨x0, x1, x2, x3⟩ := h3.cells
    go_wp2_with fail
    refine (toI_any p _ _ h3.row HP.out).mono ?_
    rintro e w5 ⟨va5, rfl, r5, hb5⟩
    have h5 := h3.below hb5
    clear hb5 h3 x0 x1 x2 x3
    obtain ⟨E0, f0, rfl⟩ := r5.ls.val
    have m6 := h5.made 30 r5
    have h6 := h5.below ((Below.refl _ w5).alloc (Nat.le_refl _) (.cells #[.string p.frm, .string p.to, .int .i64 p.num, .slice E0 p.buns.length f0] 30))
    obtain ⟨z0, z1, z2, z3⟩ := m6.cells
    clear h5 r5
    go_wp2_with fail
    refine (ixCount_impl p _ _ m6.row HP.out (T0.out.below m6.bel)).mono ?_
    rintro e w9 ⟨rfl, hb9⟩
    have h9 := h6.below hb9
    have m9 := m6.below hb9
    clear hb9 h6 m6 z0 z1 z2 z3
    obtain ⟨x0, x1, x2, x3⟩ := h9.cells
    obtain ⟨z0, z1, z2, z3⟩ := m9.cells
    go_wp2_with fail
    go_region_held3 (fun W => W.cell? ⟨w.heap.size, 0, none⟩ = some (.string p.frm) ∧ W.cell? ⟨w.heap.size, 1, none⟩ = some (.string p.to) ∧ W.cell? ⟨w.heap.size, 2, none⟩ = some (.int .i64 p.num) ∧ W.cell? ⟨w.heap.size, 3, none⟩ = some ((.slice A0 p.buns.length c0)) ∧ W.cell? ⟨w5.heap.size, 0, none⟩ = some (.string p.frm) ∧ W.cell? ⟨w5.heap.size, 1, none⟩ = some (.string p.to) ∧ W.cell? ⟨w5.heap.size, 2, none⟩ = some (.int .i64 p.num) ∧ W.cell? ⟨w5.heap.size, 3, none⟩ = some ((.slice E0 p.buns.length f0))) (go_keep) (first | (go_at_call_of 8 (Value.agg #[.string p.frm, .string p.to, .int .i64 p.num, (.slice A0 p.buns.length c0)]); refine (toI_any p _ _ h9.drew.row HP.out).mono ?_; rintro e wj ⟨vaj, rfl, rj, hb⟩; have hj := h9.drew.below hb; have mj := m9.drew.below hb; clear hb; obtain ⟨xj0, xj1, xj2, xj3⟩ := hj.cells; obtain ⟨zj0, zj1, zj2, zj3⟩ := mj.cells) | (go_at_call 11; refine (eqI_any p _ _ _ mj.row rj).mono ?_; rintro e wg ⟨rfl, hb⟩; have hg := hj.below hb; have mg := mj.below hb; clear hb; obtain ⟨xg0, xg1, xg2, xg3⟩ := hg.cells; obtain ⟨zg0, zg1, zg2, zg3⟩ := mg.cells))
    rename_i hHeld
    clear hHeld
    have HE : Hid (Below w.heap.size w wg) := hg.bel
    clear hg mg h9 m9
    go_wp2
    go_ret
    exact ⟨rfl, HE.out⟩
theorem own : ownKnob Tryd.prog.godebug = none := by kernel_rfl
theorem laidOut : laidOutB Tryd.prog = true := by kernel_rfl
set_option maxRecDepth 100000 in
theorem lifted (os : Os) (started : os.Started) (H : Type) (enc : TypeId × Value → H) :
    ReturnsInHanded {} Tryd.checked os 4 .any (fun w args => (Rows.fnExactIxCountSpec.pre enc Tryd.prog Tryd.f4 [] false w args ∧ laidMetH Tryd.prog Rows.fnExactIxCountRow.laid w) ∧ sizedMet enc Tryd.prog Tryd.f4 (OpenSpec.ofChange Rows.fnExactIxCountSpec) false w args)
      (Rows.fnExactIxCountSpec.post enc Tryd.prog Tryd.f4 false true false false) := by
  refine returnsInHanded_of_change_and (C := Tryd.checked) (X := fun w _ => laidMetH Tryd.prog Rows.fnExactIxCountRow.laid w) (fun _ _ _ hh h => h.of_heap hh) own started (by kernel_rfl) Tryd.func4
    (ChangeSpec.witness_shaped (enc := enc) (C := Tryd.checked) (os := os) (X := fun w _ => laidMetH Tryd.prog Rows.fnExactIxCountRow.laid w) false (World.laidAll Tryd.prog os Rows.fnExactIxCountRow.laid) #[.agg #[.string ⟨#[]⟩, .string ⟨#[]⟩, .int .i64 0, .slice none 0 0]] 8 (World.laidAll_os _ _ _) (World.shaped_of_ZipB (by kernel_rfl) (by kernel_rfl)) (by kernel_rfl) (by kernel_rfl) (by kernel_rfl) (by rw [MakeChecks.laidMetH_plain _ _ _ (by kernel_rfl)]; exact laidMet_laidAll _ (by kernel_rfl) (by kernel_rfl))) ?_
  intro W base args ds gs before hval0 hW hcnd _ hL _
  have hval : ∀ (j : Nat) t v, Tryd.f4.params[j]? = some t → args[j]? = some v → Value.okWide Tryd.prog W .any base t v := hval0
  have hW' := hW
  obtain ⟨p, q, hA0, hV, rfl, hfz, hnd⟩ := hW
  have hA : DataW.TrodAll enc Tryd.prog W 0 (fun _ => true) true Tryd.f4.params.toList args.toList ds p := hA0
  rw [Tryd.params4] at hA hval
  obtain ⟨v0, vs0, d0, ds0, p0, q0, hargs, rfl, rfl, h0, r0⟩ := trodAll_cons hA
  obtain ⟨rfl, rfl, rfl⟩ := trodAll_nil r0
  obtain rfl : args = #[v0] := by cases args; simp_all
  obtain ⟨rfl, rfl⟩ := trodVars_none hV
  have k0 := h0
  have lt0 : ∀ x ∈ p0, x.block < W.heap.size := by obtain ⟨m, hm⟩ := k0; exact DataW.trod_lt m _ _ _ hm
  obtain ⟨q0, up0, rfl, hr0⟩ := openIa (hval 0 24 v0 rfl rfl) h0
  clear hA0 hval0
  refine (walk q0 up0 W hr0 hL).mono fun e W' ⟨he, bel⟩ => ?_
  subst he
  exact ⟨_, rfl, _, _, _, [], _, [], hW', trodAll_mk1 (shut_bool Tryd.underlying4 _), (trodAll_cons_mk (Below.trod laidOut (by kernel_rfl) (of_decide_eq_true (by kernel_rfl)) k0 bel lt0) trodAll_mk0), rfl, bel.frame _, fun h => by cases h⟩
theorem over : Rows.fnExactIxCountRow.holds Tryd.pinned (OpenSpec.ofChange Rows.fnExactIxCountSpec) :=
  OpenClaim.holds_of_wide 4 Tryd.f4 rfl rfl rfl rfl rfl rfl rfl ⟨rfl, rfl, rfl, rfl, rfl⟩ rfl rfl rfl rfl rfl (by kernel_rfl) Tryd.func4 (by kernel_rfl)
    (of_decide_eq_true (by kernel_rfl)) (by unfold Func.isWrapper; first | (rw [if_pos (by decide +kernel)]; kernel_rfl) | (rw [if_neg (by decide +kernel)]; exact ⟨rfl, rfl⟩))
    (fun os started H enc _ => lifted os started H enc)
theorem card : Rows.FnExactIxCountCardSaid :=
  Claim7.holds_tied_plain_at .later [] [.data, .data, .data] true (true, "0ca9dc16bd7be98d583f5c1b21e84bba6ec0020bf7abe73a3373c68b7285677e") true
    over (fun _ h => by cases h) (by kernel_rfl) (fun _ h => by cases h) fnExactIxCount_row_tie rfl ⟨rfl, rfl⟩ (by kernel_rfl) rfl
    (fun f fn hf hfn => by
      obtain rfl : f = 4 := Option.some.inj ((show Tryd.prog.funcNamed "loop.example/g00096/laws.FnExactIxCount" = some 4 by kernel_rfl).symm.trans hf) |>.symm
      obtain rfl : fn = Tryd.f4 := (Option.some.inj (Tryd.func4.symm.trans hfn)).symm
      exact ⟨by kernel_rfl, fun j t ht => by
        rw [Tryd.params4] at ht
        have hj : Tryd.prog.wantsStandIn t = false := by
          rcases j with _ | j
          · have e : t = 24 := by simpa using ht.symm
            subst e
            exact (show Tryd.prog.wantsStandIn 24 = false by kernel_rfl)
          simp at ht
        exact hj⟩)
    (by kernel_rfl)
end fnExactIxCount
theorem fnExactIxCount_holds : Rows.FnExactIxCountCardSaid := fnExactIxCount.card
#print axioms fnExactIxCount_holds
end Go.Proofs.YtmnfijgmfedpmaaDoor
