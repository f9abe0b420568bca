/- Contract of spec.HeadOf. -/
import Derived.Test.YthjddnhdfnhalaaDoorHdQ
import Derived.Test.YthjddnhdfnhalaaDoorSameSeg
import Derived.Test.YthjddnhdfnhalaaDoorIxVa
import Derived.Test.YthjddnhdfnhalaaDoorHdJ
import Derived.BigQuiet
import Derived.Deep.QuietTactic
import Derived.BigRegion
namespace Go.Proofs.YthjddnhdfnhalaaDoor
open Go.ChangeShapes Go.WideShapes Go.ChangeAt Go.RowKit
set_option maxRecDepth 20000 in
set_option maxHeartbeats 16000000 in
theorem headOf_spec (v : Value) (gs : List Seg) (w : World) (h : RowG w v gs) (hE : ∀ g ∈ gs, BdE 1048576 g.2) :
    Calls Tryd.prog 5 #[v] w fun e w' => e = .returned (hdV (hdO gs)) ∧ Below w.heap.size w w' := by
  obtain ⟨A, C, rfl⟩ := h.val
  have hn : gs.length ≤ 9223372036854775807 := h.len
  obtain ⟨W0, hW0⟩ : ∃ W0, w.alloc (.cells #[.string ⟨#[]⟩, .string ⟨#[]⟩, .int .i64 0, .slice none 0 0, .bool false, .int .i64 0, .int .i64 0] 28) = W0 := ⟨_, rfl⟩
  have hR : RH w W0 := by rw [← hW0]; exact ⟨World.alloc_heap_new w _, (Below.refl _ _).alloc (Nat.le_refl _) _⟩
  have HR0 : Hid (RH w W0) := hR
  obtain ⟨t, ht⟩ : ∃ t, t = hdO gs := ⟨_, rfl⟩
  rw [← ht]
  have HT : Hid (t = hdO gs) := ht
  clear ht hR
  have HW0 : Hid (w.alloc (.cells #[.string ⟨#[]⟩, .string ⟨#[]⟩, .int .i64 0, .slice none 0 0, .bool false, .int .i64 0, .int .i64 0] 28) = W0) := hW0
  clear hW0
  by_cases h4 : 400 < gs.length
  · have h4' : (400 : Int) < gs.length := by omega
    have HF : Hid (t = (⟨#[]⟩, ⟨#[]⟩, 0, false, 2)) := by
      show t = _
      rw [HT.out]
      cases gs with
      | nil => simp at h4
      | cons g r => exact if_pos (by simpa using h4)
    clear h
    go_enter Tryd.func5, Tryd.ntmps5
    go_upto_region 1 with fail
    try rw [HW0.out]
    clear HW0
    obtain ⟨r0, r1, r2, r3, r4, r5, r6, rz⟩ := HR0.out.cells
    go_wp2
    exact bodyPost_ret (v := .agg #[.string ⟨#[]⟩, .string ⟨#[]⟩, .int .i64 0, .slice none 0 0, .bool false, .int .i64 0, .int .i64 2]) (by simp [results, Tryd.results5, go_sem, r0, r1, r2, r3, r4, r5, r6]) rfl ⟨by rw [HF.out]; rfl, (((((((HR0.out.bel.setCell (Nat.le_refl _) _).setCell (Nat.le_refl _) _).setCell (Nat.le_refl _) _).setCell (Nat.le_refl _) _).setCell (Nat.le_refl _) _).setCell (Nat.le_refl _) _).setCell (Nat.le_refl _) _)⟩
  have h4' : ¬ (400 : Int) < gs.length := by omega
  cases gs with
  | nil =>
    have HF : Hid (t = (⟨#[]⟩, ⟨#[]⟩, 0, false, 6)) := HT.out
    clear h
    go_enter Tryd.func5, Tryd.ntmps5
    go_upto_region 1 with fail
    try rw [HW0.out]
    clear HW0
    obtain ⟨r0, r1, r2, r3, r4, r5, r6, rz⟩ := HR0.out.cells
    go_wp2
    exact bodyPost_ret (v := .agg #[.string ⟨#[]⟩, .string ⟨#[]⟩, .int .i64 0, .slice none 0 0, .bool false, .int .i64 0, .int .i64 6]) (by simp [results, Tryd.results5, go_sem, r0, r1, r2, r3, r4, r5, r6]) rfl ⟨by rw [HF.out]; rfl, (((((((HR0.out.bel.setCell (Nat.le_refl _) _).setCell (Nat.le_refl _) _).setCell (Nat.le_refl _) _).setCell (Nat.le_refl _) _).setCell (Nat.le_refl _) _).setCell (Nat.le_refl _) _).setCell (Nat.le_refl _) _)⟩
  | cons g r =>
    obtain ⟨tag, es⟩ := g
    have hl : 0 < ((tag, es) :: r).length := by simp
    have hbd : BdE 1048576 es := hE (tag, es) (by simp)
    generalize hgs : (tag, es) :: r = gs at *
    have hO : t = match hdT tag es with
      | some (a, b, n) => (a, b, n, true, 0)
      | none => (⟨#[]⟩, ⟨#[]⟩, 0, false, 3) := by rw [HT.out, ← hgs]; exact if_neg (by rw [← hgs] at h4; simpa using h4)
    obtain ⟨b, o, cap, g, u, e, hg, c0, c1, hEs, htz⟩ := (h.below HR0.out.bel).at hl
    rw [← hgs] at hg
    simp only [List.getElem?_cons_zero, Option.some.injEq] at hg
    subst hg
    simp only [Value.slice.injEq, true_and] at e
    obtain ⟨rfl, rfl⟩ := e
    obtain ⟨Au, Cu, rfl⟩ := hEs.val
    rw [Nat.zero_mul, Nat.add_zero] at c0 c1
    dsimp only at c0 c1 hEs
    have hl0 : ¬ (gs.length : Int) = 0 := by omega
    have hl1 : (0 : Int) < (gs.length : Int) := by omega
    have HO : Hid (t = match hdT tag es with
      | some (a, b, n) => (a, b, n, true, 0)
      | none => (⟨#[]⟩, ⟨#[]⟩, 0, false, 3)) := hO
    have HE : Hid (RowE W0 (.slice Au es.length Cu) es ∧ BdE 1048576 es) := ⟨hEs, hbd⟩
    have s0 := partF_size hbd 0 0
    have s1 := partF_size hbd 1 0
    have s2 := partF_size hbd 2 0
    obtain ⟨p0, hp0⟩ : ∃ p, p = partF es 0 0 := ⟨_, rfl⟩
    obtain ⟨p1, hp1⟩ : ∃ p, p = partF es 1 0 := ⟨_, rfl⟩
    obtain ⟨p2, hp2⟩ : ∃ p, p = partF es 2 0 := ⟨_, rfl⟩
    have Q0 : Hid (∀ W, RowE W (.slice Au es.length Cu) es → Calls Tryd.prog 15 #[.agg #[.string tag, .slice Au es.length Cu], .int .i64 0, .int .i64 0] W fun e w' => e = .returned (.string p0) ∧ Below W.heap.size W w') := fun W hW => by rw [hp0]; exact part_spec tag _ es 0 0 W hW hbd
    have Q1 : Hid (∀ W, RowE W (.slice Au es.length Cu) es → Calls Tryd.prog 15 #[.agg #[.string tag, .slice Au es.length Cu], .int .i64 1, .int .i64 0] W fun e w' => e = .returned (.string p1) ∧ Below W.heap.size W w') := fun W hW => by rw [hp1]; exact part_spec tag _ es 1 0 W hW hbd
    have Q2 : Hid (∀ W, RowE W (.slice Au es.length Cu) es → Calls Tryd.prog 15 #[.agg #[.string tag, .slice Au es.length Cu], .int .i64 2, .int .i64 0] W fun e w' => e = .returned (.string p2) ∧ Below W.heap.size W w') := fun W hW => by rw [hp2]; exact part_spec tag _ es 2 0 W hW hbd
    have HP : Hid (∀ n, L1N p2 n → hdT tag es = if (nameB p0 && (nameB p1 && (ctlB n && decide (tag = tIXH ∧ es = [[p0], [p1], [decS n]])))) = true then some (p0, p1, n) else none) := fun n hn => by
      have := hdT_model tag es n (by rw [← hp2]; exact hn)
      rw [← hp0, ← hp1] at this
      exact this
    rw [← hp0] at s0
    rw [← hp1] at s1
    rw [← hp2] at s2
    clear h hO hgs hE hEs hbd hp0 hp1 hp2 HT
    go_enter Tryd.func5, Tryd.ntmps5
    go_upto_region 1 with fail
    try rw [HW0.out]
    clear HW0
    go_upto_region 6 with fail
    obtain ⟨W1, hW1⟩ : ∃ W1, W0.alloc (.cells #[.string tag, .slice Au es.length Cu] 43) = W1 := ⟨_, rfl⟩
    have hb1 : Below W0.heap.size W0 W1 := by rw [← hW1]; exact (Below.refl _ _).alloc (Nat.le_refl _) _
    have i1 : W1.heap[W0.heap.size]? = some (.cells #[.string tag, .slice Au es.length Cu] 43) := by rw [← hW1]; exact World.alloc_heap_new _ _
    obtain ⟨GB, hGB⟩ : ∃ X, X = W0.heap.size := ⟨_, rfl⟩
    rw [← hGB] at i1
    have H1 : Hid (∀ W, Below W1.heap.size W1 W → RH w W ∧ RowE W (.slice Au es.length Cu) es ∧ W.cell? ⟨GB, 0, none⟩ = some (.string tag) ∧ W.cell? ⟨GB, 1, none⟩ = some (.slice Au es.length Cu)) := fun W hW => by
      have hi := (hW.block GB (Array.getElem?_eq_some_iff.1 i1).1).trans i1
      exact ⟨(HR0.out.below hb1).below hW, (HE.out.1.below hb1).below hW, by simp [World.cell?, hi], by simp [World.cell?, hi]⟩
    try rw [hW1]
    try rw [← hGB]
    clear hW1 hb1 i1 hGB c0 c1 HR0
    obtain ⟨_, _, c0, c1⟩ := H1.out W1 (Below.refl _ _)
    go_wp2_with fail
    refine (Q2.out _ (H1.out W1 (Below.refl _ _)).2.1).mono ?_
    rintro e w2 ⟨rfl, hb2⟩
    have H2 : Hid (Below W1.heap.size W1 w2) := hb2
    clear hb2 c0 c1
    go_wp2_with fail
    refine (l01Num_any p2 _ (by omega)).mono ?_
    rintro e w3 ⟨n, bn, rfl, hnb, hb3⟩
    have H3 : Hid (Below W1.heap.size W1 w3) := H2.out.trans (hb3.mono H2.out.size)
    have HN : Hid (hdT tag es = if (nameB p0 && (nameB p1 && (ctlB n && decide (tag = tIXH ∧ es = [[p0], [p1], [decS n]])))) = true then some (p0, p1, n) else none) := HP.out n (by
      rcases hnb with ⟨_, h⟩ | ⟨_, h⟩
      · exact .inl h
      · exact .inr h)
    clear hb3 hnb HP H2
    go_upto_region 7 with fail
    have HK : Hid (∀ W, Below w3.heap.size w3 W → W.cell? ⟨GB, 0, none⟩ = some (.string tag) ∧ W.cell? ⟨GB, 1, none⟩ = some (.slice Au es.length Cu)) := fun W hW => (H1.out W (H3.out.trans (hW.mono H3.out.size))).2.2
    have HKr : Hid (∀ W, Below w3.heap.size w3 W → RowE W (.slice Au es.length Cu) es) := fun W hW => (H1.out W (H3.out.trans (hW.mono H3.out.size))).2.1
    obtain ⟨g0, g1⟩ := HK.out w3 (Below.refl _ _)
    go_cut [6] from 24 to 29 (fun s6 wx => ∃ XX, s6 = .pointer (some ⟨XX, 0, none⟩) ∧ wx.heap[XX]? = some (.cells #[.string p0, .string p1, .int .i64 n, .slice none 0 0] 26) ∧ Below W1.heap.size W1 wx)
    case first =>
      have qn0 : GB ≠ w3.heap.size := Nat.ne_of_lt (cell_lt g0)
      have qm0 : w3.heap.size ≠ GB := Ne.symm qn0
      obtain ⟨_, _⟩ := HK.out w3.drew (Below.refl _ _).drew
      obtain ⟨_, _⟩ := HK.out (w3.alloc (.cells #[.string ⟨#[]⟩, .string ⟨#[]⟩, .int .i64 0, .slice none 0 0] 26)) ((Below.refl _ _).alloc (Nat.le_refl _) _)
      have Qa := Q0.out
      have Qb := Q1.out
      go_region_held3 (fun W => W.cell? ⟨GB, 0, none⟩ = some (.string tag) ∧ W.cell? ⟨GB, 1, none⟩ = some (.slice Au es.length Cu)) (go_keep) (first | (go_at_call_of 15 (Value.int .i64 1); refine (Qb _ (by first | exact HKr.out _ ba | exact HKr.out _ ba.drew | exact HKr.out _ (ba.alloc ba.size _) | exact HKr.out _ (ba.alloc ba.size _).drew)).mono ?_; rintro e wb ⟨rfl, hbb⟩; have bb : Below w3.heap.size w3 wb := ba.trans (((by with_reducible first | exact hbb | exact undrewH hbb | exact unallocH hbb | exact unallocH (undrewH hbb)) : Below wa.heap.size wa wb).mono ba.size); obtain ⟨b0, b1⟩ := HK.out wb bb; have qn2 : GB ≠ wb.heap.size := Nat.ne_of_lt (cell_lt b0); have qm2 : wb.heap.size ≠ GB := Ne.symm qn2; obtain ⟨_, _⟩ := HK.out wb.drew bb.drew; (try (have kx2 := (((by with_reducible first | exact hbb | exact undrewH hbb | exact unallocH hbb | exact unallocH (undrewH hbb)) : Below wa.heap.size wa wb).block _ (Array.getElem?_eq_some_iff.1 kx1).1).trans kx1)); (try (with_reducible have kx2 := boxNewH hbb)); (try (with_reducible have kx2 := boxNewH2 hbb)); (try (have xx := xcells kx2; obtain ⟨x0, x1, x2, x3, xz⟩ := xx)); (try clear hbb); try dsimp only) | (go_at_call 15; refine (Qa _ (by first | exact HKr.out _ (Below.refl _ _) | exact HKr.out _ (Below.refl _ _).drew | exact HKr.out _ ((Below.refl _ _).alloc (Nat.le_refl _) _) | exact HKr.out _ ((Below.refl _ _).alloc (Nat.le_refl _) _).drew)).mono ?_; rintro e wa ⟨rfl, hba⟩; have ba : Below w3.heap.size w3 wa := (by with_reducible first | exact hba | exact undrewH hba | exact unallocH hba | exact unallocH (undrewH hba)); obtain ⟨a0, a1⟩ := HK.out wa ba; have qn1 : GB ≠ wa.heap.size := Nat.ne_of_lt (cell_lt a0); have qm1 : wa.heap.size ≠ GB := Ne.symm qn1; obtain ⟨_, _⟩ := HK.out wa.drew ba.drew; obtain ⟨_, _⟩ := HK.out (wa.alloc (.cells #[.string ⟨#[]⟩, .string ⟨#[]⟩, .int .i64 0, .slice none 0 0] 26)) (ba.alloc ba.size _); (try (with_reducible have kx1 := boxNewH hba)); (try (with_reducible have kx1 := boxNewH2 hba)); (try clear hba); try dsimp only))
      all_goals rename_i hHeld
      all_goals clear hHeld
      all_goals go_wp2_with fail
      all_goals go_meet
      · exact ⟨_, rfl, World.alloc_heap_new wb _, (H3.out.trans (bb.mono H3.out.size)).alloc (Nat.le_trans H3.out.size bb.size) _⟩
      · exact ⟨_, rfl, xset kx2 p0 p1 _, ((((H3.out.trans (bb.mono H3.out.size)).setCell (Nat.le_trans H3.out.size ba.size) _).setCell (Nat.le_trans H3.out.size ba.size) _).setCell (Nat.le_trans H3.out.size ba.size) _).setCell (Nat.le_trans H3.out.size ba.size) _⟩
      · exact ⟨_, rfl, xset kx2 p0 p1 _, ((((H3.out.trans (bb.mono H3.out.size)).setCell H3.out.size _).setCell H3.out.size _).setCell H3.out.size _).setCell H3.out.size _⟩
    case rest =>
      obtain ⟨XX, rfl, hX, hbx⟩ := hcut
      rename World => wx
      have H4 : Hid (∀ W, Below wx.heap.size wx W → RH w W ∧ RowE W (.slice Au es.length Cu) es ∧ W.cell? ⟨GB, 0, none⟩ = some (.string tag) ∧ W.cell? ⟨GB, 1, none⟩ = some (.slice Au es.length Cu) ∧ W.cell? ⟨XX, 0, none⟩ = some (.string p0) ∧ W.cell? ⟨XX, 1, none⟩ = some (.string p1) ∧ W.cell? ⟨XX, 2, none⟩ = some (.int .i64 n) ∧ W.cell? ⟨XX, 3, none⟩ = some (.slice none 0 0)) := fun W hW => by
        have hi := (hW.block XX (Array.getElem?_eq_some_iff.1 hX).1).trans hX
        obtain ⟨k1, k2, k3, k4⟩ := H1.out W (hbx.trans (hW.mono hbx.size))
        exact ⟨k1, k2, k3, k4, by simp [World.cell?, hi], by simp [World.cell?, hi], by simp [World.cell?, hi], by simp [World.cell?, hi]⟩
      clear hX hbx HK HKr H3 H1 g0 g1 Q0 Q1 Q2
      obtain ⟨dc, hdc⟩ : ∃ dc : Bool, (dc = true ↔ tag = tIXH ∧ es = [[p0], [p1], [decS n]]) := by
        by_cases hh : tag = tIXH ∧ es = [[p0], [p1], [decS n]]
        · exact ⟨true, by simp [hh]⟩
        · exact ⟨false, by simp only [Bool.false_eq_true, false_iff]; exact hh⟩
      have HD : Hid (dc = true ↔ tag = tIXH ∧ es = [[p0], [p1], [decS n]]) := hdc
      have HM : Hid (hdT tag es = if (nameB p0 && (nameB p1 && (ctlB n && dc))) = true then some (p0, p1, n) else none) := by
        show _ = _
        rw [HN.out]
        have e : decide (tag = tIXH ∧ es = [[p0], [p1], [decS n]]) = dc := by
          rw [Bool.eq_iff_iff, decide_eq_true_eq]
          exact hdc.symm
        first | rw [e] | (congr 1; simp only [Bool.and_eq_true, decide_eq_true_eq, hdc])
      clear hdc HN
      go_upto_region 8 with fail
      go_cut [51] from 30 to 51 (fun s51 wy => s51 = .bool (!(nameB p0 && (nameB p1 && (ctlB n && dc)))) ∧ Below wx.heap.size wx wy)
      case first =>
        obtain ⟨_, _, k0, k1, y0, y1, y2, y3⟩ := H4.out wx (Below.refl _ _)
        have QN0 := l01Name_any p0
        have QN1 := l01Name_any p1
        have QCt := l01Control_any n
        cases a0 : nameB p0 with
        | false =>
          rw [a0] at QN0
          go_quiet (first | (go_at_call_of 16 (Value.string p0); exact Calls.quiet_of_same (QN0 _)))
          go_wp2_with fail
          go_meet
          exact ⟨by simp [a0], below_drewN (Below.refl _ _) _⟩
        | true =>
          rw [a0] at QN0
          cases a1 : nameB p1 with
          | false =>
            rw [a1] at QN1
            go_quiet (first | (go_at_call_of 16 (Value.string p0); exact Calls.quiet_of_same (QN0 _)) | (go_at_call_of 16 (Value.string p1); exact Calls.quiet_of_same (QN1 _)))
            go_wp2_with fail
            go_meet
            exact ⟨by simp [a0, a1], below_drewN (Below.refl _ _) _⟩
          | true =>
            rw [a1] at QN1
            cases a2 : ctlB n with
            | false =>
              rw [a2] at QCt
              go_quiet (first | (go_at_call_of 16 (Value.string p0); exact Calls.quiet_of_same (QN0 _)) | (go_at_call_of 16 (Value.string p1); exact Calls.quiet_of_same (QN1 _)) | (go_at_call 17; exact Calls.quiet_of_same (QCt _)))
              go_wp2_with fail
              go_meet
              exact ⟨by simp [a0, a1, a2], below_drewN (Below.refl _ _) _⟩
            | true =>
              rw [a2] at QCt
              obtain ⟨n1, n9⟩ := ctlB_iff.1 a2
              have z0 : p0.size ≤ 12 := by
                by_cases hz : 1 ≤ p0.size ∧ p0.size ≤ 12
                · exact hz.2
                · rw [nameB_size hz] at a0; cases a0
              have z1 : p1.size ≤ 12 := by
                by_cases hz : 1 ≤ p1.size ∧ p1.size ≤ 12
                · exact hz.2
                · rw [nameB_size hz] at a1; cases a1
              have zn := decS_size7 n1 n9
              have HX : Hid (BdX ([p0, p1, decS n].map fun t => [t])) := by
                intro e he
                simp only [List.map_cons, List.map_nil, List.mem_cons, List.not_mem_nil, or_false] at he
                rcases he with rfl | rfl | rfl
                · exact ⟨by simp, fun t ht => by simp only [List.mem_cons, List.not_mem_nil, or_false] at ht; subst ht; omega⟩
                · exact ⟨by simp, fun t ht => by simp only [List.mem_cons, List.not_mem_nil, or_false] at ht; subst ht; omega⟩
                · exact ⟨by simp, fun t ht => by simp only [List.mem_cons, List.not_mem_nil, or_false] at ht; subst ht; omega⟩
              have QH : Hid (∀ W, Calls Tryd.prog 19 #[.agg #[.string p0, .string p1, .int .i64 n, .slice none 0 0]] W fun e w' => ∃ u vals, e = .returned (.agg #[.string tIXH, u]) ∧ OwnV W.heap.size w' u vals ([p0, p1, decS n].map fun t => [t]) ∧ Below W.heap.size W w') := fun W => l03Head_any ⟨p0, p1, n, []⟩ (.slice none 0 0) W ⟨_, _, _, rfl⟩ (by show 0 ≤ n; omega) (by show n ≤ 1000000; omega) (by show p0.size ≤ 1048576; omega) (by show p1.size ≤ 1048576; omega)
              have HS : Hid (∀ W u, RowE W (.slice Au es.length Cu) es → RowE W u ([p0, p1, decS n].map fun t => [t]) → Calls Tryd.prog 18 #[.agg #[.string tag, .slice Au es.length Cu], .agg #[.string tIXH, u]] W fun e w' => e = .returned (.bool dc) ∧ Below W.heap.size W w') := fun W u h1 h2 => by
                have := sameSeg_any tag tIXH _ u es _ W h1 h2
                have e : decide (tag = tIXH ∧ es = [p0, p1, decS n].map fun t => [t]) = dc := by
                  rw [Bool.eq_iff_iff, decide_eq_true_eq]
                  exact HD.out.symm
                rw [e] at this
                exact this
              clear n1 n9 zn z0 z1
              go_region_held3 (fun W => W.cell? ⟨GB, 0, none⟩ = some (.string tag) ∧ W.cell? ⟨GB, 1, none⟩ = some (.slice Au es.length Cu) ∧ W.cell? ⟨XX, 0, none⟩ = some (.string p0) ∧ W.cell? ⟨XX, 1, none⟩ = some (.string p1) ∧ W.cell? ⟨XX, 2, none⟩ = some (.int .i64 n) ∧ W.cell? ⟨XX, 3, none⟩ = some (.slice none 0 0)) (go_keep) (first | (go_at_call_of 16 (Value.string p0); refine (QN0 _).mono ?_; rintro e w' ⟨rfl, rfl⟩) | (go_at_call_of 16 (Value.string p1); refine (QN1 _).mono ?_; rintro e w' ⟨rfl, rfl⟩) | (go_at_call 17; refine (QCt _).mono ?_; rintro e w' ⟨rfl, rfl⟩) | (go_at_call 19; refine (QH.out _).mono ?_; rintro e wd ⟨u, vals, rfl, hOV, hbd⟩; have bd : Below wx.heap.size wx wd := (by with_reducible first | exact hbd | exact undrewH hbd); obtain ⟨_, HRd, _, _, _, _, _, _⟩ := H4.out wd bd; obtain ⟨_, HRe, _, _, _, _, _, _⟩ := H4.out wd.drew bd.drew; have HRu : Hid (RowE wd u ([p0, p1, decS n].map fun t => [t])) := hOV.rowE HX.out (by simp); have HRd : Hid (RowE wd (.slice Au es.length Cu) es ∧ RowE wd.drew (.slice Au es.length Cu) es) := ⟨HRd, HRe⟩; clear hOV hbd HRe; try dsimp only) | (go_at_call 18; refine (HS.out _ _ (by first | exact HRd.out.1 | exact HRd.out.2) (by first | exact HRu.out | exact HRu.out.below (Below.refl _ _).drew)).mono ?_; rintro e we ⟨rfl, hbe⟩; have be : Below wx.heap.size wx we := bd.trans (((by with_reducible first | exact hbe | exact undrewH hbe) : Below wd.heap.size wd we).mono bd.size); obtain ⟨_, _, _, _, _, _, _, _⟩ := H4.out we be; obtain ⟨_, _, _, _, _, _, _, _⟩ := H4.out we.drew be.drew; clear hbe; try dsimp only))
              all_goals rename_i hHeld
              all_goals clear hHeld
              all_goals go_wp2_with fail
              all_goals go_meet
              all_goals exact ⟨by simp [a0, a1, a2], be⟩
      case rest =>
        obtain ⟨rfl, hby⟩ := hcut
        rename World => wy
        obtain ⟨hRy, _, _, _, y0, y1, y2, y3⟩ := H4.out wy hby
        have H5 : Hid (RH w wy) := hRy
        obtain ⟨r0, r1, r2, r3, r4, r5, r6, rz⟩ := hRy.cells
        clear hby hRy H4
        cases hc : (nameB p0 && (nameB p1 && (ctlB n && dc)))
        · have HG : Hid (t = (⟨#[]⟩, ⟨#[]⟩, 0, false, 3)) := by
            show t = _
            rw [HO.out, HM.out, hc]
            rfl
          clear hc HM HO
          go_wp2
          exact bodyPost_ret (v := .agg #[.string ⟨#[]⟩, .string ⟨#[]⟩, .int .i64 0, .slice none 0 0, .bool false, .int .i64 0, .int .i64 3]) (by simp [results, Tryd.results5, go_sem, r0, r1, r2, r3, r4, r5, r6]) rfl ⟨by rw [HG.out]; rfl, (((((((H5.out.bel.setCell (Nat.le_refl _) _).setCell (Nat.le_refl _) _).setCell (Nat.le_refl _) _).setCell (Nat.le_refl _) _).setCell (Nat.le_refl _) _).setCell (Nat.le_refl _) _).setCell (Nat.le_refl _) _)⟩
        · have HG : Hid (t = (p0, p1, n, true, 0)) := by
            show t = _
            rw [HO.out, HM.out, hc]
            rfl
          clear hc HM HO
          go_wp2
          exact bodyPost_ret (v := .agg #[.string p0, .string p1, .int .i64 n, .slice none 0 0, .bool true, .int .i64 0, .int .i64 0]) (by simp [results, Tryd.results5, go_sem, r0, r1, r2, r3, r4, r5, r6]) rfl ⟨by rw [HG.out]; rfl, (((((((H5.out.bel.setCell (Nat.le_refl _) _).setCell (Nat.le_refl _) _).setCell (Nat.le_refl _) _).setCell (Nat.le_refl _) _).setCell (Nat.le_refl _) _).setCell (Nat.le_refl _) _).setCell (Nat.le_refl _) _)⟩
end Go.Proofs.YthjddnhdfnhalaaDoor
