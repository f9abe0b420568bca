/- GateText answers at every gate as the model does, and writes into no argument. Conditions: none but what the card ties. -/
import Derived.Test.YtamlhbjcokkmeaaGreatDoorG05
import Derived.Test.YtamlhbjcokkmeaaGreatDoorG08
import Derived.Test.YtamlhbjcokkmeaaGreatDoorG10
import Derived.Test.YtamlhbjcokkmeaaGreatDoorG13
import Derived.Test.YtamlhbjcokkmeaaGreatDoorG41
import Derived.Test.YtamlhbjcokkmeaaGreatDoorG51
import Derived.Deep.RegionHeld3
import Derived.LaidLaws
import Derived.Stop.LaidErr
import Derived.Test.YtamlhbjcokkmeaaGreatDoorCards
import Derived.Test.YtamlhbjcokkmeaaGreatDoorTie
import Derived.Lib.SmallJoins
import Derived.OpenVars
import Derived.Stop.Joined
import Derived.LaidMore
import Derived.SevenTiedAt
import Derived.Lay
import Derived.MakeChecks
namespace Go.Proofs.YtamlhbjcokkmeaaGreatDoor
open Go.ChangeShapes Go.WideShapes Go.ChangeAt Go.RowKit Go.Joins
open Go.ChangeMaps (open_string shut_string)
set_option linter.unusedVariables false
namespace fnExactGateText
theorem tPow : (Tryz.prog.globals[0]?).map (·.type) = some 204 := by kernel_rfl
theorem tab {W : World} (hL : laidMetH Tryz.prog Rows.fnExactGateTextRow.laid W) : TabOk W := by
  rw [MakeChecks.laidMetH_plain _ _ _ (by kernel_rfl)] at hL
  have h2 := laidMet.tail (laidMet.tail hL)
  exact Lib.tabIs_of_head gPow tPow Tryz.underlying204 Tryz.underlying191 (by kernel_rfl) (by kernel_rfl) h2
/-- Block B holds the gate. -/
structure LP (B t : Nat) (w W : World) (p : Gat) (u0 u1 u2 u3 u4 u5 : Value) : Prop where
  bel : Below w.heap.size w W
  blk : W.heap[B]? = some (.cells #[.string p.name, .int .i64 p.day, u0, u1, u2, u3, u4, u5] t)
  row : RGt W u0 u1 u2 u3 u4 u5 p
theorem LP.below {B t : Nat} {w W W' : World} {p : Gat} {u0 u1 u2 u3 u4 u5 : Value} (h : LP B t w W p u0 u1 u2 u3 u4 u5) (hb : Below W.heap.size W W') : LP B t w W' p u0 u1 u2 u3 u4 u5 :=
  ⟨h.bel.trans (hb.mono h.bel.size), (hb.block B (Array.getElem?_eq_some_iff.1 h.blk).1).trans h.blk, h.row.below hb⟩
theorem LP.drew {B t : Nat} {w W : World} {p : Gat} {u0 u1 u2 u3 u4 u5 : Value} (h : LP B t w W p u0 u1 u2 u3 u4 u5) : LP B t w W.drew p u0 u1 u2 u3 u4 u5 := h.below (Below.refl _ _).drew
theorem LP.cells {B t : Nat} {w W : World} {p : Gat} {u0 u1 u2 u3 u4 u5 : Value} (h : LP B t w W p u0 u1 u2 u3 u4 u5) : W.cell? ⟨B, 0, none⟩ = some (.string p.name) ∧ W.cell? ⟨B, 1, none⟩ = some (.int .i64 p.day) ∧ W.cell? ⟨B, 2, none⟩ = some (u0) ∧ W.cell? ⟨B, 3, none⟩ = some (u1) ∧ W.cell? ⟨B, 4, none⟩ = some (u2) ∧ W.cell? ⟨B, 5, none⟩ = some (u3) ∧ W.cell? ⟨B, 6, none⟩ = some (u4) ∧ W.cell? ⟨B, 7, none⟩ = some (u5) := bx8 h.blk
theorem LP.made {B t : Nat} {w W : World} {p q : Gat} {u0 u1 u2 u3 u4 u5 : Value} (h : LP B t w W p u0 u1 u2 u3 u4 u5) (t' : Nat) {up uc us ul ud uo : Value} (h' : RGt W up uc us ul ud uo q) :
    LP W.heap.size t' w (W.alloc (.cells #[.string q.name, .int .i64 q.day, up, uc, us, ul, ud, uo] t')) q up uc us ul ud uo :=
  ⟨h.bel.alloc h.bel.size _, World.alloc_heap_new W _, h'.below ((Below.refl _ _).alloc (Nat.le_refl _) _)⟩
set_option maxHeartbeats 8000000 in
theorem walk (g : Gat) (up uc us ul ud uo : Value) (w : World) (h : RGt w up uc us ul ud uo g ∧ ∀ (i : Nat) (d : Dff), g.dffs[i]? = some d → DfZ d) (hL : laidMetH Tryz.prog Rows.fnExactGateTextRow.laid w) :
    Calls Tryz.prog 3 #[.agg #[.string g.name, .int .i64 g.day, up, uc, us, ul, ud, uo]] w fun e w' => e = .returned (.bool true) ∧ Below w.heap.size w w' := by
  obtain ⟨h, hzz⟩ := h
  have HZZ : Hid (∀ (i : Nat) (d : Dff), g.dffs[i]? = some d → DfZ d) := hzz
  have T0 : Hid (TabOk w) := tab hL
  clear hzz hL
  obtain ⟨a0, c0, a1, c1, a2, c2, a3, c3, a4, c4, a5, c5, rfl, rfl, rfl, rfl, rfl, rfl⟩ := h.val
  have b1 : Below w.heap.size w (w.alloc (.cells #[.string g.name, .int .i64 g.day, (.slice a0 g.ptns.length c0), (.slice a1 g.crss.length c1), (.slice a2 g.book.stocks.length c2), (.slice a3 g.book.lines.length c3), (.slice a4 g.dffs.length c4), (.slice a5 g.outs.length c5)] 31)) := (Below.refl _ _).alloc (Nat.le_refl _) _
  have H0 : Hid (LP w.heap.size 31 w (w.alloc (.cells #[.string g.name, .int .i64 g.day, (.slice a0 g.ptns.length c0), (.slice a1 g.crss.length c1), (.slice a2 g.book.stocks.length c2), (.slice a3 g.book.lines.length c3), (.slice a4 g.dffs.length c4), (.slice a5 g.outs.length c5)] 31)) g (.slice a0 g.ptns.length c0) (.slice a1 g.crss.length c1) (.slice a2 g.book.stocks.length c2) (.slice a3 g.book.lines.length c3) (.slice a4 g.dffs.length c4) (.slice a5 g.outs.length c5)) := ⟨b1, World.alloc_heap_new w _, h.below b1⟩
  clear h b1
  go_enter Tryz.func3, Tryz.ntmps3
  go_wp2_with fail
  refine (szGt_any g _ _ _ _ _ _ 1048576 _ H0.out.row (by omega)).mono ?_
  rintro e w1 ⟨r, rfl, hr, hb1⟩
  have h1 := H0.out.below hb1
  clear hb1 H0
  rcases hr with rfl | ⟨g0, g1, hP⟩
  · have H1 : Hid (Below w.heap.size w w1) := h1.bel
    clear h1
    go_wp2
    go_ret
    exact ⟨rfl, H1.out⟩
  have g0' : ¬ r < 0 := by omega
  have HP : Hid (BdGt 1048576 g) := hP.1
  have HSN : Hid (snP g.ptns ≤ 1048576) := hP.2
  clear hP
  obtain ⟨x0, x1, x2, x3, x4, x5, x6, x7⟩ := h1.cells
  go_wp2_with fail
  refine (toGt_any g _ _ _ _ _ _ _ h1.row HP.out).mono ?_
  rintro e w2 ⟨v20, v21, v22, v23, v24, v25, rfl, r2, hb2⟩
  have h2 := h1.below hb2
  clear hb2 h1 x0 x1 x2 x3 x4 x5 x6 x7
  go_wp2_with fail
  refine (gateText_spec g _ _ _ _ _ _ _ r2 (dfB_of HP.out.2.2.2.2.1 HZZ.out)).mono ?_
  rintro e w3 ⟨rfl, hb3⟩
  have h3 := h2.below hb3
  clear hb3 h2 r2
  obtain ⟨x0, x1, x2, x3, x4, x5, x6, x7⟩ := h3.cells
  go_wp2_with fail
  refine (toGt_any g _ _ _ _ _ _ _ h3.row HP.out).mono ?_
  rintro e w5 ⟨v50, v51, v52, v53, v54, v55, rfl, r5, hb5⟩
  have h5 := h3.below hb5
  clear hb5 h3 x0 x1 x2 x3 x4 x5 x6 x7
  obtain ⟨e0, f0, e1, f1, e2, f2, e3, f3, e4, f4, e5, f5, rfl, rfl, rfl, rfl, rfl, rfl⟩ := r5.val
  have m6 := h5.made 43 r5
  have h6 := h5.below ((Below.refl _ w5).alloc (Nat.le_refl _) (.cells #[.string g.name, .int .i64 g.day, (.slice e0 g.ptns.length f0), (.slice e1 g.crss.length f1), (.slice e2 g.book.stocks.length f2), (.slice e3 g.book.lines.length f3), (.slice e4 g.dffs.length f4), (.slice e5 g.outs.length f5)] 43))
  obtain ⟨z0, z1, z2, z3, z4, z5, z6, z7⟩ := m6.cells
  clear h5 r5
  go_wp2_with fail
  refine (gateText_impl g _ _ _ _ _ _ _ m6.row (dfB_of HP.out.2.2.2.2.1 HZZ.out) (T0.out.below h6.bel)).mono ?_
  rintro e w9 ⟨rfl, hb9⟩
  have h9 := h6.below hb9
  have m9 := m6.below hb9
  clear hb9 h6 m6 z0 z1 z2 z3 z4 z5 z6 z7
  obtain ⟨x0, x1, x2, x3, x4, x5, x6, x7⟩ := h9.cells
  obtain ⟨z0, z1, z2, z3, z4, z5, z6, z7⟩ := m9.cells
  go_wp2_with fail
  go_region_held3 (fun W => (W.cell? ⟨w.heap.size, 0, none⟩ = some (.string g.name) ∧ W.cell? ⟨w.heap.size, 1, none⟩ = some (.int .i64 g.day) ∧ W.cell? ⟨w.heap.size, 2, none⟩ = some ((.slice a0 g.ptns.length c0)) ∧ W.cell? ⟨w.heap.size, 3, none⟩ = some ((.slice a1 g.crss.length c1)) ∧ W.cell? ⟨w.heap.size, 4, none⟩ = some ((.slice a2 g.book.stocks.length c2)) ∧ W.cell? ⟨w.heap.size, 5, none⟩ = some ((.slice a3 g.book.lines.length c3)) ∧ W.cell? ⟨w.heap.size, 6, none⟩ = some ((.slice a4 g.dffs.length c4)) ∧ W.cell? ⟨w.heap.size, 7, none⟩ = some ((.slice a5 g.outs.length c5))) ∧ W.cell? ⟨w5.heap.size, 0, none⟩ = some (.string g.name) ∧ W.cell? ⟨w5.heap.size, 1, none⟩ = some (.int .i64 g.day) ∧ W.cell? ⟨w5.heap.size, 2, none⟩ = some ((.slice e0 g.ptns.length f0)) ∧ W.cell? ⟨w5.heap.size, 3, none⟩ = some ((.slice e1 g.crss.length f1)) ∧ W.cell? ⟨w5.heap.size, 4, none⟩ = some ((.slice e2 g.book.stocks.length f2)) ∧ W.cell? ⟨w5.heap.size, 5, none⟩ = some ((.slice e3 g.book.lines.length f3)) ∧ W.cell? ⟨w5.heap.size, 6, none⟩ = some ((.slice e4 g.dffs.length f4)) ∧ W.cell? ⟨w5.heap.size, 7, none⟩ = some ((.slice e5 g.outs.length f5))) (go_keep) (first | (go_at_call_of 6 (Value.agg #[.string g.name, .int .i64 g.day, (.slice a0 g.ptns.length c0), (.slice a1 g.crss.length c1), (.slice a2 g.book.stocks.length c2), (.slice a3 g.book.lines.length c3), (.slice a4 g.dffs.length c4), (.slice a5 g.outs.length c5)]); refine (toGt_any g _ _ _ _ _ _ _ h9.drew.row HP.out).mono ?_; rintro e wj ⟨vj0, vj1, vj2, vj3, vj4, vj5, rfl, rj, hb⟩; have hj := h9.drew.below hb; have mj := m9.drew.below hb; clear hb; obtain ⟨xj0, xj1, xj2, xj3, xj4, xj5, xj6, xj7⟩ := hj.cells; obtain ⟨zj0, zj1, zj2, zj3, zj4, zj5, zj6, zj7⟩ := mj.cells) | (go_at_call 8; refine (eqGt_any g _ _ _ _ _ _ _ _ _ _ _ _ _ mj.row rj).mono ?_; rintro e wg ⟨rfl, hb⟩; have hg := hj.below hb; have mg := mj.below hb; clear hb; obtain ⟨xg0, xg1, xg2, xg3, xg4, xg5, xg6, xg7⟩ := hg.cells; obtain ⟨zg0, zg1, zg2, zg3, zg4, zg5, zg6, zg7⟩ := mg.cells))
  rename_i hHeld
  clear hHeld
  have HE : Hid (Below w.heap.size w wg) := hg.bel
  clear hg mg h9 m9
  go_wp2
  go_ret
  exact ⟨rfl, HE.out⟩
theorem own : ownKnob Tryz.prog.godebug = none := by kernel_rfl
theorem laidOut : laidOutB Tryz.prog = true := by kernel_rfl
set_option maxRecDepth 100000 in
theorem lifted (os : Os) (started : os.Started) (H : Type) (enc : TypeId × Value → H) :
    ReturnsInHanded {} Tryz.checked os 3 .any (fun w args => (Rows.fnExactGateTextSpec.pre enc Tryz.prog Tryz.f3 [] false w args ∧ laidMetH Tryz.prog Rows.fnExactGateTextRow.laid w) ∧ sizedMet enc Tryz.prog Tryz.f3 (OpenSpec.ofChange Rows.fnExactGateTextSpec) false w args)
      (Rows.fnExactGateTextSpec.post enc Tryz.prog Tryz.f3 false true false false) := by
  refine returnsInHanded_of_change_and (C := Tryz.checked) (X := fun w _ => laidMetH Tryz.prog Rows.fnExactGateTextRow.laid w) (fun _ _ _ hh h => h.of_heap hh) own started (by kernel_rfl) Tryz.func3
    (ChangeSpec.witness_shaped (enc := enc) (C := Tryz.checked) (os := os) (X := fun w _ => laidMetH Tryz.prog Rows.fnExactGateTextRow.laid w) false (World.laidAll Tryz.prog os Rows.fnExactGateTextRow.laid) #[.agg #[.string ⟨#[]⟩, .int .i64 0, .slice none 0 0, .slice none 0 0, .slice none 0 0, .slice none 0 0, .slice none 0 0, .slice none 0 0]] 8 (World.laidAll_os _ _ _) (World.shaped_of_ZipB (by kernel_rfl) (by kernel_rfl)) (by kernel_rfl) (by kernel_rfl) (by kernel_rfl) (by rw [MakeChecks.laidMetH_plain _ _ _ (by kernel_rfl)]; exact laidMet_laidAll _ (by kernel_rfl) (by kernel_rfl))) ?_
  intro W base args ds gs before hval0 hW hcnd _ hL _
  have hval : ∀ (j : Nat) t v, Tryz.f3.params[j]? = some t → args[j]? = some v → Value.okWide Tryz.prog W .any base t v := hval0
  have hW' := hW
  obtain ⟨p, q, hA0, hV, rfl, hfz, hnd⟩ := hW
  have hA : DataW.TrodAll enc Tryz.prog W 0 (fun _ => true) true Tryz.f3.params.toList args.toList ds p := hA0
  rw [Tryz.params3] at hA hval
  obtain ⟨v0, vs0, d0, ds0, p0, q0, hargs, rfl, rfl, h0, r0⟩ := trodAll_cons hA
  obtain ⟨rfl, rfl, rfl⟩ := trodAll_nil r0
  obtain rfl : args = #[v0] := by cases args; simp_all
  obtain ⟨rfl, rfl⟩ := trodVars_none hV
  have k0 := h0
  have lt0 : ∀ x ∈ p0, x.block < W.heap.size := by obtain ⟨m, hm⟩ := k0; exact DataW.trod_lt m _ _ _ hm
  obtain ⟨q0, up0, uc0, us0, ul0, ud0, uo0, rfl, hr0⟩ := openGtaZ (hval 0 31 v0 rfl rfl) h0
  clear hA0 hval0
  refine (walk q0 up0 uc0 us0 ul0 ud0 uo0 W hr0 hL).mono fun e W' ⟨he, bel⟩ => ?_
  subst he
  exact ⟨_, rfl, _, _, _, [], _, [], hW', trodAll_mk1 (shut_bool Tryz.underlying4 _), (trodAll_cons_mk (Below.trod laidOut (by kernel_rfl) (of_decide_eq_true (by kernel_rfl)) k0 bel lt0) trodAll_mk0), rfl, bel.frame _, fun h => by cases h⟩
theorem over : Rows.fnExactGateTextRow.holds Tryz.pinned (OpenSpec.ofChange Rows.fnExactGateTextSpec) :=
  OpenClaim.holds_of_wide 3 Tryz.f3 rfl rfl rfl rfl rfl rfl rfl ⟨rfl, rfl, rfl, rfl, rfl⟩ rfl rfl rfl rfl rfl (by kernel_rfl) Tryz.func3 (by kernel_rfl)
    (of_decide_eq_true (by kernel_rfl)) (by unfold Func.isWrapper; first | (rw [if_pos (by decide +kernel)]; kernel_rfl) | (rw [if_neg (by decide +kernel)]; exact ⟨rfl, rfl⟩))
    (fun os started H enc _ => lifted os started H enc)
theorem card : Rows.FnExactGateTextCardSaid :=
  Claim7.holds_tied_plain_at .later [] [.data, .data, .data] true (true, "f0249641f86e4416b99d6351a1392e0558cf09c9ca9251dd3996ee4ed7a90501") false
    over (fun _ h => by cases h) (by kernel_rfl) (fun _ h => by cases h) fnExactGateText_row_tie rfl ⟨rfl, rfl⟩ (by kernel_rfl) rfl
    (fun f fn hf hfn => by
      obtain rfl : f = 3 := Option.some.inj ((show Tryz.prog.funcNamed "loop.example/g00096/laws.FnExactGateText" = some 3 by kernel_rfl).symm.trans hf) |>.symm
      obtain rfl : fn = Tryz.f3 := (Option.some.inj (Tryz.func3.symm.trans hfn)).symm
      exact ⟨by kernel_rfl, fun j t ht => by
        rw [Tryz.params3] at ht
        have hj : Tryz.prog.wantsStandIn t = false := by
          rcases j with _ | j
          · have e : t = 31 := by simpa using ht.symm
            subst e
            exact (show Tryz.prog.wantsStandIn 31 = false by kernel_rfl)
          simp at ht
        exact hj⟩)
    (by kernel_rfl)
end fnExactGateText
theorem fnExactGateText_holds : Rows.FnExactGateTextCardSaid := fnExactGateText.card
#print axioms fnExactGateText_holds
end Go.Proofs.YtamlhbjcokkmeaaGreatDoor
