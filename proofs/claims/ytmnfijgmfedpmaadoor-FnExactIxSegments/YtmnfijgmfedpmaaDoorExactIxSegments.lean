/- IxSegments answers at every interchange as the model does, writes into no argument, keeps nothing of one, and its answer owns its memory, behind another call too. Conditions: none but what the card ties. -/
import Derived.Test.YtmnfijgmfedpmaaDoorMarkW
import Derived.Test.YtmnfijgmfedpmaaDoorToIx
import Derived.Test.YtmnfijgmfedpmaaDoorEqIx
import Derived.Test.YtmnfijgmfedpmaaDoorIxV
import Derived.Test.YtmnfijgmfedpmaaDoorMarkL
import Derived.Test.YtmnfijgmfedpmaaDoorOpenIx
import Derived.Deep.RegionHeld3
import Derived.LaidLaws
import Derived.Stop.LaidErr
import Derived.Test.YtmnfijgmfedpmaaDoorCards
import Derived.Test.YtmnfijgmfedpmaaDoorTie
import Derived.Lib.SmallJoins
import Derived.OpenVars
import Derived.Stop.Joined
import Derived.LaidMore
import Derived.SevenTiedAt
import Derived.Lay
import Derived.MakeChecks
namespace Go.Proofs.YtmnfijgmfedpmaaDoor
open Go.ChangeShapes Go.WideShapes Go.ChangeAt Go.RowKit Go.Joins
open Go.ChangeMaps (open_string shut_string)
set_option linter.unusedVariables false
namespace fnExactIxSegments
/-- Block A holds the interchange. -/
structure LP (A t : Nat) (w W : World) (p : Ixc) (v : Value) : Prop where
  bel : Below w.heap.size w W
  blk : W.heap[A]? = some (.cells #[.string p.frm, .string p.to, .int .i64 p.num, v] t)
  row : RI W v p
theorem LP.below {A t : Nat} {w W W' : World} {p : Ixc} {v : Value} (h : LP A t w W p v) (hb : Below W.heap.size W W') : LP A t w W' p v :=
  ⟨h.bel.trans (hb.mono h.bel.size), (hb.block A (Array.getElem?_eq_some_iff.1 h.blk).1).trans h.blk, h.row.below hb⟩
theorem LP.drew {A t : Nat} {w W : World} {p : Ixc} {v : Value} (h : LP A t w W p v) : LP A t w W.drew p v := h.below (Below.refl _ _).drew
theorem LP.cells {A t : Nat} {w W : World} {p : Ixc} {v : Value} (h : LP A t w W p v) : W.cell? ⟨A, 0, none⟩ = some (.string p.frm) ∧ W.cell? ⟨A, 1, none⟩ = some (.string p.to) ∧ W.cell? ⟨A, 2, none⟩ = some (.int .i64 p.num) ∧ W.cell? ⟨A, 3, none⟩ = some (v) := by
  have h1 := h.blk
  refine ⟨?_, ?_, ?_, ?_⟩ <;> simp [World.cell?, h1]
theorem LP.made {A t : Nat} {w W : World} {p q : Ixc} {v : Value} (h : LP A t w W p v) (t' : Nat) {v' : Value} (h' : RI W v' q) :
    LP W.heap.size t' w (W.alloc (.cells #[.string q.frm, .string q.to, .int .i64 q.num, v'] t')) q v' :=
  ⟨h.bel.alloc h.bel.size _, World.alloc_heap_new W _, h'.below ((Below.refl _ _).alloc (Nat.le_refl _) _)⟩
/-- Of what was there in a nothing has changed. -/
structure Fr (a W : World) : Prop where
  bel : Below a.heap.size a W
theorem Fr.below {a W W' : World} (h : Fr a W) (hb : Below W.heap.size W W') : Fr a W' := ⟨h.bel.trans (hb.mono h.bel.size)⟩
theorem Fr.drew {a W : World} (h : Fr a W) : Fr a W.drew := h.below (Below.refl _ _).drew
theorem hdS_bd {tag : ByteArray} {ws : List ByteArray} (ht : tag.size = 3) (hl : ws.length ≤ 10) (hw : ∀ t ∈ ws, t.size ≤ 40) : BdX (hdS tag ws).2 ∧ (hdS tag ws).2.length ≤ 10 ∧ (hdS tag ws).1.size = 3 := by
  refine ⟨fun e he => ?_, by simpa [hdS] using hl, ht⟩
  simp only [hdS, List.mem_map] at he
  obtain ⟨t, h1, rfl⟩ := he
  exact ⟨by simp, fun s hs => by simp only [List.mem_cons, List.not_mem_nil, or_false] at hs; rw [hs]; exact hw t h1⟩
theorem msgSegs_bd {m : Msg} (h : msgB m = true) : BdL (msgSegs m) := by
  obtain ⟨h1, h2, h3, h4⟩ := msgB_facts h
  intro g hg
  simp only [msgSegs, List.mem_cons, List.mem_append, List.not_mem_nil, or_false] at hg
  rcases hg with rfl | hg | rfl
  · exact hdS_bd (by decide) (by simp) (fun t ht => by simp only [List.mem_cons, List.not_mem_nil, or_false] at ht; rw [ht]; exact Nat.le_trans (decS_size (m.num) (by omega) (by omega)) (by decide))
  · obtain ⟨k1, k2, k3⟩ := right_bounds (h4 g hg)
    exact ⟨fun e he => ⟨(k3 e he).2.1, (k3 e he).2.2⟩, k2, k1⟩
  · refine hdS_bd (by decide) (by simp) (fun t ht => ?_)
    simp only [List.mem_cons, List.not_mem_nil, or_false] at ht
    rcases ht with rfl | rfl
    · exact Nat.le_trans (decS_size (m.body.length) (by omega) (by omega)) (by decide)
    · exact Nat.le_trans (decS_size (m.num) (by omega) (by omega)) (by decide)
theorem bunSegs_bd {m : Bun} (h : bunB m = true) : BdL (bunSegs m) := by
  obtain ⟨i1, i2, i3, i4, i5, i6, i7⟩ := bunB_facts h
  intro g hg
  simp only [bunSegs, List.mem_cons, List.mem_append, List.mem_flatMap, List.not_mem_nil, or_false] at hg
  rcases hg with rfl | ⟨x, hx, hg⟩ | rfl
  · refine hdS_bd (by decide) (by simp) (fun t ht => ?_)
    simp only [List.mem_cons, List.not_mem_nil, or_false] at ht
    rcases ht with rfl | rfl
    · exact Nat.le_trans (decS_size (m.kind) (by omega) (by omega)) (by decide)
    · exact Nat.le_trans (decS_size (m.num) (by omega) (by omega)) (by decide)
  · exact msgSegs_bd (i7 x hx) g hg
  · refine hdS_bd (by decide) (by simp) (fun t ht => ?_)
    simp only [List.mem_cons, List.not_mem_nil, or_false] at ht
    rcases ht with rfl | rfl
    · exact Nat.le_trans (decS_size (m.msgs.length) (by omega) (by omega)) (by decide)
    · exact Nat.le_trans (decS_size (m.num) (by omega) (by omega)) (by decide)
theorem ixSegsR_bd (m : Ixc) : BdL (ixSegsR m) ∧ (ixSegsR m).length ≤ 2400 := by
  unfold ixSegsR
  cases h : ixB m
  · exact ⟨fun g hg => by simp at hg, by simp⟩
  · obtain ⟨h1, h2, h3, h4, h5, h6, h7⟩ := ixB_facts h
    simp only [cond_true]
    refine ⟨fun g hg => ?_, ?_⟩
    · simp only [ixSegs, List.mem_cons, List.mem_append, List.mem_flatMap, List.not_mem_nil, or_false] at hg
      rcases hg with rfl | ⟨x, hx, hg⟩ | rfl
      · refine hdS_bd (by decide) (by simp) (fun t ht => ?_)
        simp only [List.mem_cons, List.not_mem_nil, or_false] at ht
        rcases ht with rfl | rfl | rfl
        · omega
        · omega
        · exact Nat.le_trans (decS_size (m.num) (by omega) (by omega)) (by decide)
      · exact bunSegs_bd (h7 x hx) g hg
      · refine hdS_bd (by decide) (by simp) (fun t ht => ?_)
        simp only [List.mem_cons, List.not_mem_nil, or_false] at ht
        rcases ht with rfl | rfl
        · exact Nat.le_trans (decS_size (m.buns.length) (by omega) (by omega)) (by decide)
        · exact Nat.le_trans (decS_size (m.num) (by omega) (by omega)) (by decide)
    · have := flat_len2 h7
      simp only [ixSegs, List.length_cons, List.length_append, List.length_nil]
      omega
theorem tPow : (Tryd.prog.globals[2]?).map (·.type) = some 158 := by kernel_rfl
theorem tab {W : World} (hL : laidMetH Tryd.prog Rows.fnExactIxSegmentsRow.laid W) : TabOk W := by
  rw [MakeChecks.laidMetH_plain _ _ _ (by kernel_rfl)] at hL
  have h2 := laidMet.tail (laidMet.tail hL)
  exact Lib.tabIs_of_head gPow tPow Tryd.underlying158 Tryd.underlying139 (by kernel_rfl) (by kernel_rfl) h2
set_option maxHeartbeats 8000000 in
theorem walk (p : Ixc) (u : Value) (w : World) (h : RI w u p) (hL : laidMetH Tryd.prog Rows.fnExactIxSegmentsRow.laid w) :
    Calls Tryd.prog 3 #[.agg #[.string p.frm, .string p.to, .int .i64 p.num, u]] w fun e w' => e = .returned (.bool true) ∧ Below w.heap.size w w' := by
  have T0 : Hid (TabOk w) := tab hL
  clear hL
  obtain ⟨hX, hl⟩ := ixSegsR_bd p
  have hS0 : ∀ W v, RI W v p → BdI 1048576 p → Calls Tryd.prog 7 #[.agg #[.string p.frm, .string p.to, .int .i64 p.num, v]] W fun e w' => ∃ u ps, e = .returned u ∧ OwnL W.heap.size w' u ps (ixSegsR p) ∧ Below W.heap.size W w' := fun W v h1 h2 => ixSegments_spec p v W h1 h2
  have hI0 : ∀ W v, RI W v p → BdI 1048576 p → TabOk W → Calls Tryd.prog 9 #[.agg #[.string p.frm, .string p.to, .int .i64 p.num, v]] W fun e w' => ∃ u ps, e = .returned u ∧ OwnL W.heap.size w' u ps (ixSegsR p) ∧ Below W.heap.size W w' := fun W v h1 h2 h3 => ixSegments_impl p v W h1 h2 h3
  obtain ⟨gs, hgs⟩ : ∃ gs, ixSegsR p = gs := ⟨_, rfl⟩
  rw [hgs] at hX hl hS0 hI0
  have HX : Hid (BdL gs) := hX
  have HS : Hid (∀ W v, RI W v p → BdI 1048576 p → Calls Tryd.prog 7 #[.agg #[.string p.frm, .string p.to, .int .i64 p.num, v]] W fun e w' => ∃ u ps, e = .returned u ∧ OwnL W.heap.size w' u ps gs ∧ Below W.heap.size W w') := hS0
  have HI : Hid (∀ W v, RI W v p → BdI 1048576 p → TabOk W → Calls Tryd.prog 9 #[.agg #[.string p.frm, .string p.to, .int .i64 p.num, v]] W fun e w' => ∃ u ps, e = .returned u ∧ OwnL W.heap.size w' u ps gs ∧ Below W.heap.size W w') := hI0
  clear hX hS0 hI0 hgs
  have hof := offL_le HX.out gs.length (Nat.le_refl _)
  obtain ⟨A0, c0, rfl⟩ := h.ls.val
  have b1 : Below w.heap.size w (w.alloc (.cells #[.string p.frm, .string p.to, .int .i64 p.num, (.slice A0 p.buns.length c0)] 24)) := (Below.refl _ _).alloc (Nat.le_refl _) _
  have h0 : LP w.heap.size 24 w (w.alloc (.cells #[.string p.frm, .string p.to, .int .i64 p.num, (.slice A0 p.buns.length c0)] 24)) p (.slice A0 p.buns.length c0) := ⟨b1, World.alloc_heap_new w _, h.below b1⟩
  clear h b1
  go_enter Tryd.func3, Tryd.ntmps3
  go_wp2_with fail
  refine (szI_c p _ 1048576 _ h0.row (by omega)).mono ?_
  rintro e w1 ⟨r, rfl, hr, hb1⟩
  have h1 := h0.below hb1
  clear hb1 h0
  rcases hr with rfl | ⟨g0, g1, hP⟩
  · have H1 : Hid (Below w.heap.size w w1) := h1.bel
    clear h1
    go_wp2
    go_ret
    exact ⟨rfl, H1.out⟩
  · have g0' : ¬ r < 0 := by omega
    have hcb : cB p.buns ≤ 2097152 := by omega
    have HP : Hid (BdI 1048576 p) := hP
    clear hP g1
    obtain ⟨x0, x1, x2, x3⟩ := h1.cells
    go_wp2_with fail
    refine (toI_any p _ _ h1.row HP.out).mono ?_
    rintro e w2 ⟨v2, rfl, r2, hb2⟩
    have h2 := h1.below hb2
    clear hb2 h1 x0 x1 x2 x3
    go_wp2_with fail
    refine (HS.out _ _ r2 HP.out).mono ?_
    rintro e w3 ⟨u3, ps3, rfl, hO3, hb3⟩
    have h3 := h2.below hb3
    have r3 : RowG w3 u3 gs := hO3.rowG HX.out hl
    clear hb3 h2 r2 hO3
    obtain ⟨A3, C3, rfl⟩ := r3.val
    have H3 : Hid (LP w.heap.size 24 w w3 p (.slice A0 p.buns.length c0) ∧ RowG w3 (.slice A3 gs.length C3) gs) := ⟨h3, r3⟩
    clear r3
    obtain ⟨x0, x1, x2, x3⟩ := h3.cells
    go_wp2_with fail
    refine (toI_own p _ _ h3.row HP.out).mono ?_
    rintro e w5 ⟨va5, rfl, o5, hb5⟩
    have h5 := h3.below hb5
    have r5 : RI w5 va5 p := ⟨o5.row HP.out.2.2, H3.out.1.row.z_frm, H3.out.1.row.z_to⟩
    have s35 := hb5.size
    have S5 : Hid (ShB w3.heap.size w5.heap.size w5 va5 p.buns ∧ Below w3.heap.size w3 w5) := ⟨o5.sh (Nat.le_refl _) (Nat.le_refl _), hb5⟩
    clear hb5 h3 o5 x0 x1 x2 x3
    obtain ⟨E0, f0, rfl⟩ := r5.ls.val
    have b6 : Below w5.heap.size w5 (w5.alloc (.cells #[.string p.frm, .string p.to, .int .i64 p.num, .slice E0 p.buns.length f0] 30)) := (Below.refl _ w5).alloc (Nat.le_refl _) _
    have m6 : LP w5.heap.size 30 w5 (w5.alloc (.cells #[.string p.frm, .string p.to, .int .i64 p.num, .slice E0 p.buns.length f0] 30)) p (.slice E0 p.buns.length f0) := ⟨b6, World.alloc_heap_new w5 _, r5.below b6⟩
    have h6 := h5.below b6
    have s6 : (w5.alloc (.cells #[.string p.frm, .string p.to, .int .i64 p.num, .slice E0 p.buns.length f0] 30)).heap.size = w5.heap.size + 1 := by simp
    obtain ⟨z0, z1, z2, z3⟩ := m6.cells
    clear h5 r5 b6
    go_wp2_with fail
    refine (HI.out _ _ m6.row HP.out (T0.out.below h6.bel)).mono ?_
    rintro e w9 ⟨u9, ps9, rfl, hO9, hb9⟩
    rw [s6] at hO9
    have h9 := h6.below hb9
    have m9 := m6.below hb9
    have s9 := hb9.size
    rw [s6] at s9
    clear hb9 h6 m6 z0 z1 z2 z3 s6
    obtain ⟨A9, C9, rfl⟩ := hO9.slice
    have O9 : Hid (OwnL (w5.heap.size + 1) w9 (.slice A9 gs.length C9) ps9 gs) := hO9
    clear hO9
    go_wp2_with fail
    refine (eqGs_any _ _ gs _ (O9.out.rowG HX.out hl) (H3.out.2.below (S5.out.2.trans (m9.bel.mono s35)))).mono ?_
    rintro e w10 ⟨rfl, hb10⟩
    have h10 := h9.below hb10
    have m10 := m9.below hb10
    have s10 := hb10.size
    have O10 : Hid (OwnL (w5.heap.size + 1) w10 (.slice A9 gs.length C9) ps9 gs) := O9.out.below hb10
    clear hb10 h9 m9 O9
    have f10 : Fr w10 w10 := ⟨Below.refl _ _⟩
    obtain ⟨x0, x1, x2, x3⟩ := h10.cells
    obtain ⟨z0, z1, z2, z3⟩ := m10.cells
    go_wp2_with fail
    go_region_held3 (fun W => W.cell? ⟨w.heap.size, 0, none⟩ = some (.string p.frm) ∧ W.cell? ⟨w.heap.size, 1, none⟩ = some (.string p.to) ∧ W.cell? ⟨w.heap.size, 2, none⟩ = some (.int .i64 p.num) ∧ W.cell? ⟨w.heap.size, 3, none⟩ = some ((.slice A0 p.buns.length c0)) ∧ W.cell? ⟨w5.heap.size, 0, none⟩ = some (.string p.frm) ∧ W.cell? ⟨w5.heap.size, 1, none⟩ = some (.string p.to) ∧ W.cell? ⟨w5.heap.size, 2, none⟩ = some (.int .i64 p.num) ∧ W.cell? ⟨w5.heap.size, 3, none⟩ = some ((.slice E0 p.buns.length f0))) (go_keep) (first | (go_at_call_of 8 (Value.agg #[.string p.frm, .string p.to, .int .i64 p.num, (.slice A0 p.buns.length c0)]); refine (toI_any p _ _ h10.drew.row HP.out).mono ?_; rintro e wj ⟨vaj, rfl, rj, hb⟩; have hj := h10.drew.below hb; have mj := m10.drew.below hb; have fj := f10.drew.below hb; clear hb; obtain ⟨xj0, xj1, xj2, xj3⟩ := hj.cells; obtain ⟨zj0, zj1, zj2, zj3⟩ := mj.cells) | (go_at_call 11; refine (eqI_any p _ _ _ mj.row rj).mono ?_; rintro e wg ⟨rfl, hb⟩; have hg := hj.below hb; have mg := mj.below hb; have fg := fj.below hb; clear hb; obtain ⟨xg0, xg1, xg2, xg3⟩ := hg.cells; obtain ⟨zg0, zg1, zg2, zg3⟩ := mg.cells))
    rename_i hHeld
    clear hHeld
    have SG : Hid (ShB w3.heap.size w5.heap.size wg (.slice E0 p.buns.length f0) p.buns ∧ Below w3.heap.size w3 wg ∧ OwnL (w5.heap.size + 1) wg (.slice A9 gs.length C9) ps9 gs) := ⟨S5.out.1.tame (Tame.of_below mg.bel), S5.out.2.trans (mg.bel.mono s35), O10.out.below fg.bel⟩
    have sg := fg.bel.size
    clear hg mg fg h10 m10 O10 f10 S5
    go_wp2_with fail
    refine (markI_w p.frm p.to p.num _ p.buns w3.heap.size w5.heap.size 1 _ SG.out.1 HP.out.2.2 (by omega) (by omega)).mono ?_
    rintro e w11 ⟨rfl, hT⟩
    have hk : ¬ (((1 + cB p.buns : Nat) : Int) < 0) := by omega
    have s11 := hT.size
    have H11 : Hid (Below w3.heap.size w3 w11 ∧ OwnL (w5.heap.size + 1) w11 (.slice A9 gs.length C9) ps9 gs) := ⟨SG.out.2.1.trans ⟨hT.os, hT.tape, hT.output, hT.size, fun k hk => hT.block k (by omega) (.inl hk)⟩, SG.out.2.2.keepB fun g q1 q2 => hT.block g q2 (.inr (by omega))⟩
    clear hT SG
    go_wp2_with fail
    refine (eqGs_any _ _ gs _ (H11.out.2.rowG HX.out hl) (H3.out.2.below H11.out.1)).mono ?_
    rintro e w12 ⟨rfl, hb12⟩
    have s12 := hb12.size
    have H12 : Hid (Below w3.heap.size w3 w12 ∧ OwnL (w5.heap.size + 1) w12 (.slice A9 gs.length C9) ps9 gs) := ⟨H11.out.1.trans (hb12.mono (by omega)), H11.out.2.below hb12⟩
    clear hb12 H11
    go_wp2_with fail
    refine (markL_any _ ps9 gs (w5.heap.size + 1) 1 _ H12.out.2 HX.out hl (by omega) (by omega) (by omega)).mono ?_
    rintro e w13 ⟨rfl, hm13, hb13, _⟩
    have s13 := hb13.size
    have H13 : Hid (Below w3.heap.size w3 w13 ∧ MkL 1 w13 (.slice A9 gs.length C9) ps9 gs) := ⟨H12.out.1.trans (hb13.mono (by omega)), hm13⟩
    clear hm13 hb13 H12
    go_wp2_with fail
    refine (heldL_any _ ps9 gs 1 _ H13.out.2 HX.out hl (by omega) (by omega)).mono ?_
    rintro e w14 ⟨rfl, hb14⟩
    have s14 := hb14.size
    have H14 : Hid (Below w3.heap.size w3 w14 ∧ MkL 1 w14 (.slice A9 gs.length C9) ps9 gs) := ⟨H13.out.1.trans (hb14.mono (by omega)), H13.out.2.below hb14⟩
    clear hb14 H13
    have h14 := H3.out.1.below H14.out.1
    obtain ⟨y0, y1, y2, y3⟩ := h14.cells
    go_wp2_with fail
    refine (toI_any p _ _ h14.row HP.out).mono ?_
    rintro e w15 ⟨v15, rfl, r15, hb15⟩
    have h15 := h14.below hb15
    have s15 := hb15.size
    have H15 : Hid (Below w3.heap.size w3 w15 ∧ MkL 1 w15 (.slice A9 gs.length C9) ps9 gs) := ⟨H14.out.1.trans (hb15.mono (by omega)), H14.out.2.below hb15⟩
    clear hb15 h14 H14 y0 y1 y2 y3
    go_wp2_with fail
    refine (HI.out _ _ r15 HP.out (T0.out.below h15.bel)).mono ?_
    rintro e w16 ⟨u16, ps16, rfl, hO16, hb16⟩
    have s16 := hb16.size
    obtain ⟨A6, C6, rfl⟩ := hO16.slice
    have H16 : Hid (Below w3.heap.size w3 w16 ∧ MkL 1 w16 (.slice A9 gs.length C9) ps9 gs ∧ RowG w16 (.slice A6 gs.length C6) gs) := ⟨H15.out.1.trans (hb16.mono (by omega)), H15.out.2.below hb16, hO16.rowG HX.out hl⟩
    clear hb16 h15 r15 hO16 H15
    go_wp2_with fail
    refine (eqGs_any _ _ gs _ H16.out.2.2 (H3.out.2.below H16.out.1)).mono ?_
    rintro e w17 ⟨rfl, hb17⟩
    have s17 := hb17.size
    have H17 : Hid (Below w3.heap.size w3 w17 ∧ MkL 1 w17 (.slice A9 gs.length C9) ps9 gs) := ⟨H16.out.1.trans (hb17.mono (by omega)), H16.out.2.1.below hb17⟩
    clear hb17 H16
    go_wp2_with fail
    refine (heldL_any _ ps9 gs 1 _ H17.out.2 HX.out hl (by omega) (by omega)).mono ?_
    rintro e w18 ⟨rfl, hb18⟩
    have H18 : Hid (Below w.heap.size w w18) := H3.out.1.bel.trans ((H17.out.1.trans (hb18.mono (by omega))).mono H3.out.1.bel.size)
    clear hb18 H17
    go_wp2
    go_ret
    exact ⟨rfl, H18.out⟩
theorem own : ownKnob Tryd.prog.godebug = none := by kernel_rfl
theorem laidOut : laidOutB Tryd.prog = true := by kernel_rfl
set_option maxRecDepth 100000 in
theorem lifted (os : Os) (started : os.Started) (H : Type) (enc : TypeId × Value → H) :
    ReturnsInHanded {} Tryd.checked os 3 .any (fun w args => (Rows.fnExactIxSegmentsSpec.pre enc Tryd.prog Tryd.f3 [] false w args ∧ laidMetH Tryd.prog Rows.fnExactIxSegmentsRow.laid w) ∧ sizedMet enc Tryd.prog Tryd.f3 (OpenSpec.ofChange Rows.fnExactIxSegmentsSpec) false w args)
      (Rows.fnExactIxSegmentsSpec.post enc Tryd.prog Tryd.f3 false true false false) := by
  refine returnsInHanded_of_change_and (C := Tryd.checked) (X := fun w _ => laidMetH Tryd.prog Rows.fnExactIxSegmentsRow.laid w) (fun _ _ _ hh h => h.of_heap hh) own started (by kernel_rfl) Tryd.func3
    (ChangeSpec.witness_shaped (enc := enc) (C := Tryd.checked) (os := os) (X := fun w _ => laidMetH Tryd.prog Rows.fnExactIxSegmentsRow.laid w) false (World.laidAll Tryd.prog os Rows.fnExactIxSegmentsRow.laid) #[.agg #[.string ⟨#[]⟩, .string ⟨#[]⟩, .int .i64 0, .slice none 0 0]] 8 (World.laidAll_os _ _ _) (World.shaped_of_ZipB (by kernel_rfl) (by kernel_rfl)) (by kernel_rfl) (by kernel_rfl) (by kernel_rfl) (by rw [MakeChecks.laidMetH_plain _ _ _ (by kernel_rfl)]; exact laidMet_laidAll _ (by kernel_rfl) (by kernel_rfl))) ?_
  intro W base args ds gs before hval0 hW hcnd _ hL _
  have hval : ∀ (j : Nat) t v, Tryd.f3.params[j]? = some t → args[j]? = some v → Value.okWide Tryd.prog W .any base t v := hval0
  have hW' := hW
  obtain ⟨p, q, hA0, hV, rfl, hfz, hnd⟩ := hW
  have hA : DataW.TrodAll enc Tryd.prog W 0 (fun _ => true) true Tryd.f3.params.toList args.toList ds p := hA0
  rw [Tryd.params3] at hA hval
  obtain ⟨v0, vs0, d0, ds0, p0, q0, hargs, rfl, rfl, h0, r0⟩ := trodAll_cons hA
  obtain ⟨rfl, rfl, rfl⟩ := trodAll_nil r0
  obtain rfl : args = #[v0] := by cases args; simp_all
  obtain ⟨rfl, rfl⟩ := trodVars_none hV
  have k0 := h0
  have lt0 : ∀ x ∈ p0, x.block < W.heap.size := by obtain ⟨m, hm⟩ := k0; exact DataW.trod_lt m _ _ _ hm
  obtain ⟨q0, up0, rfl, hr0⟩ := openIa (hval 0 24 v0 rfl rfl) h0
  clear hA0 hval0
  refine (walk q0 up0 W hr0 hL).mono fun e W' ⟨he, bel⟩ => ?_
  subst he
  exact ⟨_, rfl, _, _, _, [], _, [], hW', trodAll_mk1 (shut_bool Tryd.underlying4 _), (trodAll_cons_mk (Below.trod laidOut (by kernel_rfl) (of_decide_eq_true (by kernel_rfl)) k0 bel lt0) trodAll_mk0), rfl, bel.frame _, fun h => by cases h⟩
theorem over : Rows.fnExactIxSegmentsRow.holds Tryd.pinned (OpenSpec.ofChange Rows.fnExactIxSegmentsSpec) :=
  OpenClaim.holds_of_wide 3 Tryd.f3 rfl rfl rfl rfl rfl rfl rfl ⟨rfl, rfl, rfl, rfl, rfl⟩ rfl rfl rfl rfl rfl (by kernel_rfl) Tryd.func3 (by kernel_rfl)
    (of_decide_eq_true (by kernel_rfl)) (by unfold Func.isWrapper; first | (rw [if_pos (by decide +kernel)]; kernel_rfl) | (rw [if_neg (by decide +kernel)]; exact ⟨rfl, rfl⟩))
    (fun os started H enc _ => lifted os started H enc)
theorem card : Rows.FnExactIxSegmentsCardSaid :=
  Claim7.holds_tied_plain_at .later [] [.data, .data, .data] true (true, "0ca9dc16bd7be98d583f5c1b21e84bba6ec0020bf7abe73a3373c68b7285677e") true
    over (fun _ h => by cases h) (by kernel_rfl) (fun _ h => by cases h) fnExactIxSegments_row_tie rfl ⟨rfl, rfl⟩ (by kernel_rfl) rfl
    (fun f fn hf hfn => by
      obtain rfl : f = 3 := Option.some.inj ((show Tryd.prog.funcNamed "loop.example/g00096/laws.FnExactIxSegments" = some 3 by kernel_rfl).symm.trans hf) |>.symm
      obtain rfl : fn = Tryd.f3 := (Option.some.inj (Tryd.func3.symm.trans hfn)).symm
      exact ⟨by kernel_rfl, fun j t ht => by
        rw [Tryd.params3] at ht
        have hj : Tryd.prog.wantsStandIn t = false := by
          rcases j with _ | j
          · have e : t = 24 := by simpa using ht.symm
            subst e
            exact (show Tryd.prog.wantsStandIn 24 = false by kernel_rfl)
          simp at ht
        exact hj⟩)
    (by kernel_rfl)
end fnExactIxSegments
theorem fnExactIxSegments_holds : Rows.FnExactIxSegmentsCardSaid := fnExactIxSegments.card
#print axioms fnExactIxSegments_holds
end Go.Proofs.YtmnfijgmfedpmaaDoor
