/- StockText answers at every book as the model does, and writes into no argument. Conditions: none but what the card ties. -/
import Derived.Test.YtjmkdpnoihpfoaaGreatDoorG05
import Derived.Test.YtjmkdpnoihpfoaaGreatDoorG07
import Derived.Test.YtjmkdpnoihpfoaaGreatDoorG09
import Derived.Test.YtjmkdpnoihpfoaaGreatDoorG10
import Derived.Test.YtjmkdpnoihpfoaaGreatDoorG41
import Derived.Test.YtjmkdpnoihpfoaaGreatDoorG51
import Derived.Deep.RegionHeld3
import Derived.LaidLaws
import Derived.Stop.LaidErr
import Derived.Test.YtjmkdpnoihpfoaaGreatDoorCards
import Derived.Test.YtjmkdpnoihpfoaaGreatDoorTie
import Derived.Lib.SmallJoins
import Derived.OpenVars
import Derived.Stop.Joined
import Derived.LaidMore
import Derived.SevenTiedAt
import Derived.Lay
import Derived.MakeChecks
namespace Go.Proofs.YtjmkdpnoihpfoaaGreatDoor
open Go.ChangeShapes Go.WideShapes Go.ChangeAt Go.RowKit Go.Joins
open Go.ChangeMaps (open_string shut_string)
set_option linter.unusedVariables false
namespace fnExactStockText
theorem tPow : (Tryz.prog.globals[1]?).map (·.type) = some 132 := by kernel_rfl
theorem tab {W : World} (hL : laidMetH Tryz.prog Rows.fnExactStockTextRow.laid W) : TabOk W := by
  rw [MakeChecks.laidMetH_plain _ _ _ (by kernel_rfl)] at hL
  have h2 := laidMet.tail (laidMet.tail hL)
  exact Lib.tabIs_of_head gPow tPow Tryz.underlying132 Tryz.underlying117 (by kernel_rfl) (by kernel_rfl) h2
/-- Block B holds the book. -/
structure LP (B t : Nat) (w W : World) (p : Bk) (us ul : Value) : Prop where
  bel : Below w.heap.size w W
  blk : W.heap[B]? = some (.cells #[us, ul] t)
  row : RBk W us ul p
theorem LP.below {B t : Nat} {w W W' : World} {p : Bk} {us ul : Value} (h : LP B t w W p us ul) (hb : Below W.heap.size W W') : LP B t w W' p us ul :=
  ⟨h.bel.trans (hb.mono h.bel.size), (hb.block B (Array.getElem?_eq_some_iff.1 h.blk).1).trans h.blk, h.row.below hb⟩
theorem LP.drew {B t : Nat} {w W : World} {p : Bk} {us ul : Value} (h : LP B t w W p us ul) : LP B t w W.drew p us ul := h.below (Below.refl _ _).drew
theorem LP.cells {B t : Nat} {w W : World} {p : Bk} {us ul : Value} (h : LP B t w W p us ul) : W.cell? ⟨B, 0, none⟩ = some us ∧ W.cell? ⟨B, 1, none⟩ = some ul := box2 h.blk
theorem LP.made {B t : Nat} {w W : World} {p q : Bk} {us ul : Value} (h : LP B t w W p us ul) (t' : Nat) {us' ul' : Value} (h' : RBk W us' ul' q) :
    LP W.heap.size t' w (W.alloc (.cells #[us', ul'] t')) q us' ul' :=
  ⟨h.bel.alloc h.bel.size _, World.alloc_heap_new W _, h'.below ((Below.refl _ _).alloc (Nat.le_refl _) _)⟩
set_option maxHeartbeats 8000000 in
theorem walk (p : Bk) (us ul : Value) (w : World) (h : RBk w us ul p) (hL : laidMetH Tryz.prog Rows.fnExactStockTextRow.laid w) :
    Calls Tryz.prog 3 #[.agg #[us, ul]] w fun e w' => e = .returned (.bool true) ∧ Below w.heap.size w w' := by
  have T0 : Hid (TabOk w) := tab hL
  clear hL
  obtain ⟨A0, c0, A1, c1, rfl, rfl⟩ := h.val
  have b1 : Below w.heap.size w (w.alloc (.cells #[.slice A0 p.stocks.length c0, .slice A1 p.lines.length c1] 25)) := (Below.refl _ _).alloc (Nat.le_refl _) _
  have h0 : LP w.heap.size 25 w (w.alloc (.cells #[.slice A0 p.stocks.length c0, .slice A1 p.lines.length c1] 25)) p (.slice A0 p.stocks.length c0) (.slice A1 p.lines.length c1) := ⟨b1, World.alloc_heap_new w _, h.below b1⟩
  have H0 : Hid (LP w.heap.size 25 w (w.alloc (.cells #[.slice A0 p.stocks.length c0, .slice A1 p.lines.length c1] 25)) p (.slice A0 p.stocks.length c0) (.slice A1 p.lines.length c1)) := h0
  clear h b1 h0
  go_enter Tryz.func3, Tryz.ntmps3
  go_wp2_with fail
  refine (szBk_any p _ _ 1048576 _ H0.out.row (by omega)).mono ?_
  rintro e w1 ⟨r, rfl, hr, hb1⟩
  have h1 := H0.out.below hb1
  clear hb1 H0
  rcases hr with rfl | ⟨g0, g1, hP⟩
  · have H1 : Hid (Below w.heap.size w w1) := h1.bel
    clear h1
    go_wp2
    go_ret
    exact ⟨rfl, H1.out⟩
  have g0' : ¬ r < 0 := by omega
  have HP : Hid (BdBk 1048576 p) := hP
  clear hP
  obtain ⟨x0, x1⟩ := h1.cells
  go_wp2_with fail
  refine (toBk_any p _ _ _ h1.row HP.out).mono ?_
  rintro e w2 ⟨v2, v2', rfl, r2, hb2⟩
  have h2 := h1.below hb2
  clear hb2 h1 x0 x1
  go_wp2_with fail
  refine (stockText_spec p _ _ _ r2).mono ?_
  rintro e w3 ⟨rfl, hb3⟩
  have h3 := h2.below hb3
  clear hb3 h2 r2
  obtain ⟨x0, x1⟩ := h3.cells
  go_wp2_with fail
  refine (toBk_any p _ _ _ h3.row HP.out).mono ?_
  rintro e w5 ⟨va5, vb5, rfl, r5, hb5⟩
  have h5 := h3.below hb5
  clear hb5 h3 x0 x1
  obtain ⟨E0, f0, E1, f1, rfl, rfl⟩ := r5.val
  have m6 := h5.made 31 r5
  have h6 := h5.below ((Below.refl _ w5).alloc (Nat.le_refl _) (.cells #[.slice E0 p.stocks.length f0, .slice E1 p.lines.length f1] 31))
  obtain ⟨z0, z1⟩ := m6.cells
  clear h5 r5
  go_wp2_with fail
  refine (stockText_impl p _ _ _ m6.row (T0.out.below h6.bel)).mono ?_
  rintro e w9 ⟨rfl, hb9⟩
  have h9 := h6.below hb9
  have m9 := m6.below hb9
  clear hb9 h6 m6 z0 z1
  obtain ⟨x0, x1⟩ := h9.cells
  obtain ⟨z0, z1⟩ := m9.cells
  go_wp2_with fail
  go_region_held3 (fun W => W.cell? ⟨w.heap.size, 0, none⟩ = some (.slice A0 p.stocks.length c0) ∧ W.cell? ⟨w.heap.size, 1, none⟩ = some (.slice A1 p.lines.length c1) ∧ W.cell? ⟨w5.heap.size, 0, none⟩ = some (.slice E0 p.stocks.length f0) ∧ W.cell? ⟨w5.heap.size, 1, none⟩ = some (.slice E1 p.lines.length f1)) (go_keep) (first | (go_at_call_of 6 (Value.agg #[.slice A0 p.stocks.length c0, .slice A1 p.lines.length c1]); refine (toBk_any p _ _ _ h9.drew.row HP.out).mono ?_; rintro e wj ⟨vaj, vbj, rfl, rj, hb⟩; have hj := h9.drew.below hb; have mj := m9.drew.below hb; clear hb; obtain ⟨xj0, xj1⟩ := hj.cells; obtain ⟨zj0, zj1⟩ := mj.cells) | (go_at_call 8; refine (eqBk_any p _ _ _ _ _ mj.row rj).mono ?_; rintro e wg ⟨rfl, hb⟩; have hg := hj.below hb; have mg := mj.below hb; clear hb; obtain ⟨xg0, xg1⟩ := hg.cells; obtain ⟨zg0, zg1⟩ := mg.cells))
  rename_i hHeld
  clear hHeld
  have HE : Hid (Below w.heap.size w wg) := hg.bel
  clear hg mg h9 m9
  go_wp2
  go_ret
  exact ⟨rfl, HE.out⟩
theorem own : ownKnob Tryz.prog.godebug = none := by kernel_rfl
theorem laidOut : laidOutB Tryz.prog = true := by kernel_rfl
set_option maxRecDepth 100000 in
theorem lifted (os : Os) (started : os.Started) (H : Type) (enc : TypeId × Value → H) :
    ReturnsInHanded {} Tryz.checked os 3 .any (fun w args => (Rows.fnExactStockTextSpec.pre enc Tryz.prog Tryz.f3 [] false w args ∧ laidMetH Tryz.prog Rows.fnExactStockTextRow.laid w) ∧ sizedMet enc Tryz.prog Tryz.f3 (OpenSpec.ofChange Rows.fnExactStockTextSpec) false w args)
      (Rows.fnExactStockTextSpec.post enc Tryz.prog Tryz.f3 false true false false) := by
  refine returnsInHanded_of_change_and (C := Tryz.checked) (X := fun w _ => laidMetH Tryz.prog Rows.fnExactStockTextRow.laid w) (fun _ _ _ hh h => h.of_heap hh) own started (by kernel_rfl) Tryz.func3
    (ChangeSpec.witness_shaped (enc := enc) (C := Tryz.checked) (os := os) (X := fun w _ => laidMetH Tryz.prog Rows.fnExactStockTextRow.laid w) false (World.laidAll Tryz.prog os Rows.fnExactStockTextRow.laid) #[.agg #[.slice none 0 0, .slice none 0 0]] 8 (World.laidAll_os _ _ _) (World.shaped_of_ZipB (by kernel_rfl) (by kernel_rfl)) (by kernel_rfl) (by kernel_rfl) (by kernel_rfl) (by rw [MakeChecks.laidMetH_plain _ _ _ (by kernel_rfl)]; exact laidMet_laidAll _ (by kernel_rfl) (by kernel_rfl))) ?_
  intro W base args ds gs before hval0 hW hcnd _ hL _
  have hval : ∀ (j : Nat) t v, Tryz.f3.params[j]? = some t → args[j]? = some v → Value.okWide Tryz.prog W .any base t v := hval0
  have hW' := hW
  obtain ⟨p, q, hA0, hV, rfl, hfz, hnd⟩ := hW
  have hA : DataW.TrodAll enc Tryz.prog W 0 (fun _ => true) true Tryz.f3.params.toList args.toList ds p := hA0
  rw [Tryz.params3] at hA hval
  obtain ⟨v0, vs0, d0, ds0, p0, q0, hargs, rfl, rfl, h0, r0⟩ := trodAll_cons hA
  obtain ⟨rfl, rfl, rfl⟩ := trodAll_nil r0
  obtain rfl : args = #[v0] := by cases args; simp_all
  obtain ⟨rfl, rfl⟩ := trodVars_none hV
  have k0 := h0
  have lt0 : ∀ x ∈ p0, x.block < W.heap.size := by obtain ⟨m, hm⟩ := k0; exact DataW.trod_lt m _ _ _ hm
  obtain ⟨q0, us0, ul0, rfl, hr0⟩ := openBka (hval 0 25 v0 rfl rfl) h0
  clear hA0 hval0
  refine (walk q0 us0 ul0 W hr0 hL).mono fun e W' ⟨he, bel⟩ => ?_
  subst he
  exact ⟨_, rfl, _, _, _, [], _, [], hW', trodAll_mk1 (shut_bool Tryz.underlying4 _), (trodAll_cons_mk (Below.trod laidOut (by kernel_rfl) (of_decide_eq_true (by kernel_rfl)) k0 bel lt0) trodAll_mk0), rfl, bel.frame _, fun h => by cases h⟩
theorem over : Rows.fnExactStockTextRow.holds Tryz.pinned (OpenSpec.ofChange Rows.fnExactStockTextSpec) :=
  OpenClaim.holds_of_wide 3 Tryz.f3 rfl rfl rfl rfl rfl rfl rfl ⟨rfl, rfl, rfl, rfl, rfl⟩ rfl rfl rfl rfl rfl (by kernel_rfl) Tryz.func3 (by kernel_rfl)
    (of_decide_eq_true (by kernel_rfl)) (by unfold Func.isWrapper; first | (rw [if_pos (by decide +kernel)]; kernel_rfl) | (rw [if_neg (by decide +kernel)]; exact ⟨rfl, rfl⟩))
    (fun os started H enc _ => lifted os started H enc)
theorem card : Rows.FnExactStockTextCardSaid :=
  Claim7.holds_tied_plain_at .later [] [.data, .data, .data] true (true, "b7faf69b146f0e09679392d9c4eaf36e231ad33afa258c7f6c4e704a522b3f63") false
    over (fun _ h => by cases h) (by kernel_rfl) (fun _ h => by cases h) fnExactStockText_row_tie rfl ⟨rfl, rfl⟩ (by kernel_rfl) rfl
    (fun f fn hf hfn => by
      obtain rfl : f = 3 := Option.some.inj ((show Tryz.prog.funcNamed "loop.example/g00096/laws.FnExactStockText" = some 3 by kernel_rfl).symm.trans hf) |>.symm
      obtain rfl : fn = Tryz.f3 := (Option.some.inj (Tryz.func3.symm.trans hfn)).symm
      exact ⟨by kernel_rfl, fun j t ht => by
        rw [Tryz.params3] at ht
        have hj : Tryz.prog.wantsStandIn t = false := by
          rcases j with _ | j
          · have e : t = 25 := by simpa using ht.symm
            subst e
            exact (show Tryz.prog.wantsStandIn 25 = false by kernel_rfl)
          simp at ht
        exact hj⟩)
    (by kernel_rfl)
end fnExactStockText
theorem fnExactStockText_holds : Rows.FnExactStockTextCardSaid := fnExactStockText.card
#print axioms fnExactStockText_holds
end Go.Proofs.YtjmkdpnoihpfoaaGreatDoor
