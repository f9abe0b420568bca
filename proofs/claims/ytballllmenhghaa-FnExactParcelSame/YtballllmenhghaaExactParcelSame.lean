/- FnExactParcelSame returns true at every two parcels and leaves them as they were: ParcelSame answers as its model and writes into no argument; no condition. -/
import Derived.Test.YtballllmenhghaaSzPs
import Derived.Test.YtballllmenhghaaToPs
import Derived.Test.YtballllmenhghaaEqPs
import Derived.Test.YtballllmenhghaaPclSame
import Derived.Test.YtballllmenhghaaOpenPs
import Derived.Deep.RegionHeld3
import Derived.Lib.SmallJoins
namespace Go.Proofs.Ytballllmenhghaa
open Go.ChangeShapes Go.WideShapes Go.ChangeAt Go.RowKit Go.Joins
open Go.ChangeMaps (open_string shut_string)
set_option linter.unusedVariables false
namespace fnExactParcelSame
/-- Block A holds the parcel. -/
structure LP (A t : Nat) (w W : World) (p : Pcl) (v : Value) : Prop where
  bel : Below w.heap.size w W
  blk : W.heap[A]? = some (.cells #[.string p.frm, .string p.to, .int .i64 p.num, v] t)
  row : PclR W v p
theorem LP.below {A t : Nat} {w W W' : World} {p : Pcl} {v : Value} (h : LP A t w W p v) (hb : Below W.heap.size W W') : LP A t w W' p v :=
  ⟨h.bel.trans (hb.mono h.bel.size), (hb.block A (Array.getElem?_eq_some_iff.1 h.blk).1).trans h.blk, h.row.below hb⟩
theorem LP.drew {A t : Nat} {w W : World} {p : Pcl} {v : Value} (h : LP A t w W p v) : LP A t w W.drew p v := h.below (Below.refl _ _).drew
theorem LP.cells {A t : Nat} {w W : World} {p : Pcl} {v : Value} (h : LP A t w W p v) : W.cell? ⟨A, 0, none⟩ = some (.string p.frm) ∧ W.cell? ⟨A, 1, none⟩ = some (.string p.to) ∧ W.cell? ⟨A, 2, none⟩ = some (.int .i64 p.num) ∧ W.cell? ⟨A, 3, none⟩ = some (v) := by
  have h1 := h.blk
  refine ⟨?_, ?_, ?_, ?_⟩ <;> simp [World.cell?, h1]
theorem LP.made {A t : Nat} {w W : World} {p q : Pcl} {v : Value} (h : LP A t w W p v) (t' : Nat) {v' : Value} (h' : PclR W v' q) :
    LP W.heap.size t' w (W.alloc (.cells #[.string q.frm, .string q.to, .int .i64 q.num, v'] t')) q v' :=
  ⟨h.bel.alloc h.bel.size _, World.alloc_heap_new W _, h'.below ((Below.refl _ _).alloc (Nat.le_refl _) _)⟩
set_option maxHeartbeats 8000000 in
theorem walk (p : Pcl) (u : Value) (q : Pcl) (v : Value) (w : World) (h : PclR w u p) (k : PclR w v q) :
    Calls Try.prog 3 #[.agg #[.string p.frm, .string p.to, .int .i64 p.num, u], .agg #[.string q.frm, .string q.to, .int .i64 q.num, v]] w fun e w' => e = .returned (.bool true) ∧ Below w.heap.size w w' := by
  obtain ⟨A0, c0, rfl⟩ := h.ps.val
  obtain ⟨B0, d0, rfl⟩ := k.ps.val
  generalize hU0 : Value.slice A0 p.papers.length c0 = U0 at *
  generalize hV0 : Value.slice B0 q.papers.length d0 = V0 at *
  have b1 : Below w.heap.size w (w.alloc (.cells #[.string p.frm, .string p.to, .int .i64 p.num, U0] 24)) := (Below.refl _ _).alloc (Nat.le_refl _) _
  have h0 : LP w.heap.size 24 w ((w.alloc (.cells #[.string p.frm, .string p.to, .int .i64 p.num, U0] 24)).alloc (.cells #[.string q.frm, .string q.to, .int .i64 q.num, V0] 24)) p U0 := (⟨b1, World.alloc_heap_new w _, h.below b1⟩ : LP w.heap.size 24 w (w.alloc (.cells #[.string p.frm, .string p.to, .int .i64 p.num, U0] 24)) p U0).below ((Below.refl _ _).alloc (Nat.le_refl _) _)
  have k0 : LP (w.heap.size + 1) 24 w ((w.alloc (.cells #[.string p.frm, .string p.to, .int .i64 p.num, U0] 24)).alloc (.cells #[.string q.frm, .string q.to, .int .i64 q.num, V0] 24)) q V0 := by
    have := (⟨b1, World.alloc_heap_new w _, h.below b1⟩ : LP w.heap.size 24 w (w.alloc (.cells #[.string p.frm, .string p.to, .int .i64 p.num, U0] 24)) p U0).made 24 (k.below b1)
    simpa using this
  clear h k b1
  subst hU0 hV0
  go_enter Try.func3, Try.ntmps3
  go_wp2_with fail
  refine (szPc_any p _ 1048576 _ h0.row (by omega)).mono ?_
  rintro e w1 ⟨r, rfl, hr, hb1⟩
  have h1 := h0.below hb1
  have k1 := k0.below hb1
  clear hb1 h0 k0
  rcases hr with rfl | ⟨g0, g1, hP⟩
  · have H1 : Hid (Below w.heap.size w w1) := h1.bel
    clear h1 k1
    go_wp2
    go_ret
    exact ⟨rfl, H1.out⟩
  · have g0' : ¬ r < 0 := by omega
    have HP : Hid (BdPc 1048576 p) := hP
    clear hP
    obtain ⟨x0, x1, x2, x3⟩ := h1.cells
    obtain ⟨y0, y1, y2, y3⟩ := k1.cells
    go_wp2_with fail
    refine (szPc_any q _ r _ k1.row (by omega)).mono ?_
    rintro e w2 ⟨r2, rfl, hr2, hb2⟩
    have h2 := h1.below hb2
    have k2 := k1.below hb2
    clear hb2 h1 k1 x0 x1 x2 x3 y0 y1 y2 y3
    rcases hr2 with rfl | ⟨g2, g3, hQ⟩
    · have H1 : Hid (Below w.heap.size w w2) := h2.bel
      clear h2 k2
      go_wp2
      go_ret
      exact ⟨rfl, H1.out⟩
    · have g2' : ¬ r2 < 0 := by omega
      have HQ : Hid (BdPc 1048576 q) := hQ.mono (by omega)
      clear hQ
      obtain ⟨x0, x1, x2, x3⟩ := h2.cells
      obtain ⟨y0, y1, y2, y3⟩ := k2.cells
      go_wp2_with fail
      go_region_held3 (fun W => W.cell? ⟨w.heap.size, 0, none⟩ = some (.string p.frm) ∧ W.cell? ⟨w.heap.size, 1, none⟩ = some (.string p.to) ∧ W.cell? ⟨w.heap.size, 2, none⟩ = some (.int .i64 p.num) ∧ W.cell? ⟨w.heap.size, 3, none⟩ = some ((.slice A0 p.papers.length c0)) ∧ W.cell? ⟨w.heap.size + 1, 0, none⟩ = some (.string q.frm) ∧ W.cell? ⟨w.heap.size + 1, 1, none⟩ = some (.string q.to) ∧ W.cell? ⟨w.heap.size + 1, 2, none⟩ = some (.int .i64 q.num) ∧ W.cell? ⟨w.heap.size + 1, 3, none⟩ = some ((.slice B0 q.papers.length d0))) (go_keep) (first | (go_at_call_of 6 (Value.agg #[.string p.frm, .string p.to, .int .i64 p.num, (.slice A0 p.papers.length c0)]); have _g := hbb; refine (toPc_any p _ _ hbb.row HP.out).mono ?_; rintro e wc ⟨va, rfl, rA, hb⟩; have hc := hbb.below hb; have kc := kb.below hb; have rB := rb.below hb; clear hb; obtain ⟨xc0, xc1, xc2, xc3⟩ := hc.cells; obtain ⟨yc0, yc1, yc2, yc3⟩ := kc.cells) | (go_at_call_of 6 (Value.agg #[.string q.frm, .string q.to, .int .i64 q.num, (.slice B0 q.papers.length d0)]); have _g := ka; refine (toPc_any q _ _ ka.row HQ.out).mono ?_; rintro e wc ⟨vb, rfl, rB, hb⟩; have hc := ha.below hb; have kc := ka.below hb; have rA := ra.below hb; clear hb; obtain ⟨xc0, xc1, xc2, xc3⟩ := hc.cells; obtain ⟨yc0, yc1, yc2, yc3⟩ := kc.cells) | (go_at_call_of 6 (Value.agg #[.string p.frm, .string p.to, .int .i64 p.num, (.slice A0 p.papers.length c0)]); refine (toPc_any p _ _ h2.drew.row HP.out).mono ?_; rintro e wa ⟨va, rfl, ra, hb⟩; have ha := h2.drew.below hb; have ka := k2.drew.below hb; clear hb; obtain ⟨xa0, xa1, xa2, xa3⟩ := ha.cells; obtain ⟨ya0, ya1, ya2, ya3⟩ := ka.cells) | (go_at_call_of 6 (Value.agg #[.string q.frm, .string q.to, .int .i64 q.num, (.slice B0 q.papers.length d0)]); refine (toPc_any q _ _ k2.drew.row HQ.out).mono ?_; rintro e wb ⟨vb, rfl, rb, hb⟩; have hbb := h2.drew.below hb; have kb := k2.drew.below hb; clear hb; obtain ⟨xb0, xb1, xb2, xb3⟩ := hbb.cells; obtain ⟨yb0, yb1, yb2, yb3⟩ := kb.cells) | (go_at_call 5; refine (parcelSame_spec p q _ _ _ rA rB).mono ?_; rintro e w4 ⟨⟨Bs, rfl, hBs⟩, hb⟩; have h4 := hc.below hb; have k4 := kc.below hb; clear hb; obtain ⟨xd0, xd1, xd2, xd3⟩ := h4.cells; obtain ⟨yd0, yd1, yd2, yd3⟩ := k4.cells))
      all_goals
        rename_i hHeld
        clear hHeld
        have HBs : Hid (Bs = true ↔ p = q) := hBs
        clear hBs
        obtain ⟨x0, x1, x2, x3⟩ := h4.cells
        obtain ⟨y0, y1, y2, y3⟩ := k4.cells
        go_wp2_with fail
        refine (toPc_any p _ _ h4.row HP.out).mono ?_
        rintro e w5 ⟨va5, rfl, r5, hb5⟩
        have h5 := h4.below hb5
        have k5 := k4.below hb5
        clear hb5 h4 k4 x0 x1 x2 x3 y0 y1 y2 y3
        obtain ⟨E0, f0, rfl⟩ := r5.ps.val
        have m6 := h5.made 29 r5
        have h6 := h5.below ((Below.refl _ w5).alloc (Nat.le_refl _) (.cells #[.string p.frm, .string p.to, .int .i64 p.num, .slice E0 p.papers.length f0] 29))
        have k6 := k5.below ((Below.refl _ w5).alloc (Nat.le_refl _) (.cells #[.string p.frm, .string p.to, .int .i64 p.num, .slice E0 p.papers.length f0] 29))
        obtain ⟨x0, x1, x2, x3⟩ := h6.cells
        obtain ⟨y0, y1, y2, y3⟩ := k6.cells
        clear h5 k5 r5
        go_wp2_with fail
        refine (toPc_any q _ _ k6.row HQ.out).mono ?_
        rintro e w7 ⟨vb7, rfl, r7, hb7⟩
        have h7 := h6.below hb7
        have k7 := k6.below hb7
        have m7 := m6.below hb7
        clear hb7 h6 k6 m6 x0 x1 x2 x3 y0 y1 y2 y3
        obtain ⟨G0, i0, rfl⟩ := r7.ps.val
        have n8 := h7.made 29 r7
        have h8 := h7.below ((Below.refl _ w7).alloc (Nat.le_refl _) (.cells #[.string q.frm, .string q.to, .int .i64 q.num, .slice G0 q.papers.length i0] 29))
        have k8 := k7.below ((Below.refl _ w7).alloc (Nat.le_refl _) (.cells #[.string q.frm, .string q.to, .int .i64 q.num, .slice G0 q.papers.length i0] 29))
        have m8 := m7.below ((Below.refl _ w7).alloc (Nat.le_refl _) (.cells #[.string q.frm, .string q.to, .int .i64 q.num, .slice G0 q.papers.length i0] 29))
        obtain ⟨z0, z1, z2, z3⟩ := m8.cells
        obtain ⟨t0, t1, t2, t3⟩ := n8.cells
        clear h7 k7 m7 r7
        go_wp2_with fail
        refine (parcelSame_impl p q _ _ _ m8.row n8.row).mono ?_
        rintro e w9 ⟨⟨Bi, rfl, hBi⟩, hb9⟩
        obtain rfl : Bi = Bs := by
          have := HBs.out
          cases Bi <;> cases Bs <;> simp_all
        have h9 := h8.below hb9
        have k9 := k8.below hb9
        have m9 := m8.below hb9
        have n9 := n8.below hb9
        clear hb9 h8 k8 m8 n8 hBi z0 z1 z2 z3 t0 t1 t2 t3
        obtain ⟨x0, x1, x2, x3⟩ := h9.cells
        obtain ⟨y0, y1, y2, y3⟩ := k9.cells
        obtain ⟨z0, z1, z2, z3⟩ := m9.cells
        obtain ⟨t0, t1, t2, t3⟩ := n9.cells
        go_wp2_with fail
        go_region_held3 (fun W => W.cell? ⟨w.heap.size, 0, none⟩ = some (.string p.frm) ∧ W.cell? ⟨w.heap.size, 1, none⟩ = some (.string p.to) ∧ W.cell? ⟨w.heap.size, 2, none⟩ = some (.int .i64 p.num) ∧ W.cell? ⟨w.heap.size, 3, none⟩ = some ((.slice A0 p.papers.length c0)) ∧ W.cell? ⟨w5.heap.size, 0, none⟩ = some (.string p.frm) ∧ W.cell? ⟨w5.heap.size, 1, none⟩ = some (.string p.to) ∧ W.cell? ⟨w5.heap.size, 2, none⟩ = some (.int .i64 p.num) ∧ W.cell? ⟨w5.heap.size, 3, none⟩ = some ((.slice E0 p.papers.length f0))) (go_keep) (first | (go_at_call_of 6 (Value.agg #[.string p.frm, .string p.to, .int .i64 p.num, (.slice A0 p.papers.length c0)]); refine (toPc_any p _ _ h9.drew.row HP.out).mono ?_; rintro e wja ⟨vaja, rfl, rja, hb⟩; have hja := h9.drew.below hb; have kja := k9.drew.below hb; have mja := m9.drew.below hb; have nja := n9.drew.below hb; clear hb; obtain ⟨xja0, xja1, xja2, xja3⟩ := hja.cells; obtain ⟨yja0, yja1, yja2, yja3⟩ := kja.cells; obtain ⟨zja0, zja1, zja2, zja3⟩ := mja.cells; obtain ⟨tja0, tja1, tja2, tja3⟩ := nja.cells) | (go_at_call 8; refine (eqPc_any p _ _ _ mja.row rja).mono ?_; rintro e wg ⟨rfl, hb⟩; have hg := hja.below hb; have kg := kja.below hb; have mg := mja.below hb; have ng := nja.below hb; clear hb; obtain ⟨xg0, xg1, xg2, xg3⟩ := hg.cells; obtain ⟨yg0, yg1, yg2, yg3⟩ := kg.cells; obtain ⟨zg0, zg1, zg2, zg3⟩ := mg.cells; obtain ⟨tg0, tg1, tg2, tg3⟩ := ng.cells))
        rename_i hHeld
        clear hHeld
        clear x0 x1 x2 x3 y0 y1 y2 y3 z0 z1 z2 z3 t0 t1 t2 t3
        obtain ⟨x0, x1, x2, x3⟩ := hg.cells
        obtain ⟨y0, y1, y2, y3⟩ := kg.cells
        obtain ⟨z0, z1, z2, z3⟩ := mg.cells
        obtain ⟨t0, t1, t2, t3⟩ := ng.cells
        go_wp2_with fail
        go_region_held3 (fun W => W.cell? ⟨w.heap.size + 1, 0, none⟩ = some (.string q.frm) ∧ W.cell? ⟨w.heap.size + 1, 1, none⟩ = some (.string q.to) ∧ W.cell? ⟨w.heap.size + 1, 2, none⟩ = some (.int .i64 q.num) ∧ W.cell? ⟨w.heap.size + 1, 3, none⟩ = some ((.slice B0 q.papers.length d0)) ∧ W.cell? ⟨w7.heap.size, 0, none⟩ = some (.string q.frm) ∧ W.cell? ⟨w7.heap.size, 1, none⟩ = some (.string q.to) ∧ W.cell? ⟨w7.heap.size, 2, none⟩ = some (.int .i64 q.num) ∧ W.cell? ⟨w7.heap.size, 3, none⟩ = some ((.slice G0 q.papers.length i0))) (go_keep) (first | (go_at_call_of 6 (Value.agg #[.string q.frm, .string q.to, .int .i64 q.num, (.slice B0 q.papers.length d0)]); refine (toPc_any q _ _ kg.drew.row HQ.out).mono ?_; rintro e wjb ⟨vajb, rfl, rjb, hb⟩; have hjb := hg.drew.below hb; have kjb := kg.drew.below hb; have mjb := mg.drew.below hb; have njb := ng.drew.below hb; clear hb; obtain ⟨xjb0, xjb1, xjb2, xjb3⟩ := hjb.cells; obtain ⟨yjb0, yjb1, yjb2, yjb3⟩ := kjb.cells; obtain ⟨zjb0, zjb1, zjb2, zjb3⟩ := mjb.cells; obtain ⟨tjb0, tjb1, tjb2, tjb3⟩ := njb.cells) | (go_at_call 8; refine (eqPc_any q _ _ _ njb.row rjb).mono ?_; rintro e wk ⟨rfl, hb⟩; have hk := hjb.below hb; have kk := kjb.below hb; have mk := mjb.below hb; have nk := njb.below hb; clear hb; obtain ⟨xk0, xk1, xk2, xk3⟩ := hk.cells; obtain ⟨yk0, yk1, yk2, yk3⟩ := kk.cells; obtain ⟨zk0, zk1, zk2, zk3⟩ := mk.cells; obtain ⟨tk0, tk1, tk2, tk3⟩ := nk.cells))
        rename_i hHeld
        clear hHeld
        have HE : Hid (Below w.heap.size w wk) := hk.bel
        clear hk kk mk nk hg kg mg ng h9 k9 m9 n9
        go_wp2
        go_ret
        exact ⟨rfl, HE.out⟩
theorem own : ownKnob Try.prog.godebug = none := by kernel_rfl
theorem laidOut : laidOutB Try.prog = true := by kernel_rfl
set_option maxRecDepth 100000 in
theorem lifted (os : Os) (started : os.Started) (H : Type) (enc : TypeId × Value → H) :
    ReturnsInHanded {} Try.checked os 3 .any (Rows.fnExactParcelSameSpec.pre6 enc Try.prog Try.f3 Rows.fnExactParcelSameRow.domain false) (Rows.fnExactParcelSameSpec.post enc Try.prog Try.f3 false true false false) := by
  refine returnsInHanded_of_change (C := Try.checked) own started (by kernel_rfl) Try.func3
    (ChangeSpec.witness6 (enc := enc) (C := Try.checked) false ⟨#[], #[.agg #[.string ⟨#[]⟩, .string ⟨#[]⟩, .int .i64 0, .slice none 0 0], .agg #[.string ⟨#[]⟩, .string ⟨#[]⟩, .int .i64 0, .slice none 0 0]], []⟩ 8 (by kernel_rfl) (by kernel_rfl) (by kernel_rfl) (by kernel_rfl)) ?_
  intro W base args ds gs before hval0 hW hcnd _
  have hval : ∀ (j : Nat) t v, Try.f3.params[j]? = some t → args[j]? = some v → Value.okWide Try.prog W .any base t v := hval0
  have hW' := hW
  obtain ⟨p, q, hA0, hV, rfl, hfz, hnd⟩ := hW
  have hA : DataW.TrodAll enc Try.prog W 0 (fun _ => true) true Try.f3.params.toList args.toList ds p := hA0
  rw [Try.params3] at hA hval
  obtain ⟨v0, vs0, d0, ds0, p0, q0, hargs, rfl, rfl, h0, r0⟩ := trodAll_cons hA
  obtain ⟨v1, vs1, d1, ds1, p1, q1, rfl, rfl, rfl, h1, r1⟩ := trodAll_cons r0
  obtain ⟨rfl, rfl, rfl⟩ := trodAll_nil r1
  obtain rfl : args = #[v0, v1] := by cases args; simp_all
  obtain ⟨rfl, rfl⟩ := trodVars_none hV
  have k0 := h0
  have lt0 : ∀ x ∈ p0, x.block < W.heap.size := by obtain ⟨m, hm⟩ := k0; exact DataW.trod_lt m _ _ _ hm
  obtain ⟨q0, up0, rfl, hr0⟩ := openPc (hval 0 24 v0 rfl rfl) h0
  have k1 := h1
  have lt1 : ∀ x ∈ p1, x.block < W.heap.size := by obtain ⟨m, hm⟩ := k1; exact DataW.trod_lt m _ _ _ hm
  obtain ⟨q1, up1, rfl, hr1⟩ := openPc (hval 1 24 v1 rfl rfl) h1
  clear hA0 hval0
  refine (walk q0 up0 q1 up1 W hr0 hr1).mono fun e W' ⟨he, bel⟩ => ?_
  subst he
  exact ⟨_, rfl, _, _, _, [], _, [], hW', trodAll_mk1 (shut_bool Try.underlying4 _), (trodAll_cons_mk (Below.trod laidOut (by kernel_rfl) (of_decide_eq_true (by kernel_rfl)) k0 bel lt0) (trodAll_cons_mk (Below.trod laidOut (by kernel_rfl) (of_decide_eq_true (by kernel_rfl)) k1 bel lt1) trodAll_mk0)), rfl, bel.frame _, fun h => by cases h⟩
theorem over : Rows.fnExactParcelSameRow.holds Try.pinned (OpenSpec.ofChange Rows.fnExactParcelSameSpec) :=
  OpenClaim.holds_of_wide 3 Try.f3 rfl rfl rfl rfl rfl rfl rfl ⟨rfl, rfl, rfl, rfl, rfl⟩ rfl rfl rfl rfl rfl (by kernel_rfl) Try.func3 (by kernel_rfl)
    (of_decide_eq_true (by kernel_rfl)) (by unfold Func.isWrapper; first | (rw [if_pos (by decide +kernel)]; kernel_rfl) | (rw [if_neg (by decide +kernel)]; exact ⟨rfl, rfl⟩))
    (fun os started H enc _ => lifted os started H enc)
end fnExactParcelSame
theorem fnExactParcelSame_holds : Rows.FnExactParcelSameSaid := fnExactParcelSame.over
#print axioms fnExactParcelSame_holds
end Go.Proofs.Ytballllmenhghaa
