/- Texts of ours put together: IxN. -/
import Derived.Test.YtkaolpnbddjdpaaGreatDoorG07
import Derived.Test.YtkaolpnbddjdpaaGreatDoorG39
namespace Go.Proofs.YtkaolpnbddjdpaaGreatDoor
open Go.ChangeShapes Go.WideShapes Go.ChangeAt Go.RowKit
theorem nameB_le {t : ByteArray} (h : nameB t = true) : t.size ≤ 12 := by
  apply Classical.byContradiction
  intro q
  rw [nameB_size (by omega)] at h
  cases h
theorem ixB_facts {m : Ixc} (h : ixB m = true) : 1 ≤ m.num ∧ m.num ≤ 999999 ∧ m.frm.size ≤ 12 ∧ m.to.size ≤ 12 ∧ 1 ≤ m.buns.length ∧ m.buns.length ≤ 5 ∧ ∀ g ∈ m.buns, bunB g = true := by
  unfold ixB ctlB at h
  simp only [Bool.and_eq_true, decide_eq_true_eq, List.all_eq_true] at h
  exact ⟨h.1.1, h.1.2, nameB_le h.2.1, nameB_le h.2.2.1, h.2.2.2.1, h.2.2.2.2.1, h.2.2.2.2.2⟩
theorem bunSegs_len {m : Bun} (h : bunB m = true) : 2 ≤ (bunSegs m).length ∧ (bunSegs m).length ≤ 422 := by
  obtain ⟨_, _, _, _, _, h6, h7⟩ := bunB_facts h
  have := flat_len h7
  unfold bunSegs
  simp only [List.length_cons, List.length_append, List.length_nil]
  omega
theorem flat_len2 {l : List Bun} (h : ∀ g ∈ l, bunB g = true) : (l.flatMap bunSegs).length ≤ l.length * 422 := by
  induction l with
  | nil => simp
  | cons m l ih =>
    have h1 := (bunSegs_len (h m (by simp))).2
    have h2 := ih fun g hg => h g (by simp [hg])
    rw [List.flatMap_cons, List.length_append, List.length_cons]
    omega
set_option maxRecDepth 20000 in
set_option maxHeartbeats 4000000 in
theorem ixTell_any (m : Ixc) (v : Value) (w : World) (h : RI w v m) (hR : ixB m = true) (ht : TabOk w) :
    Calls Tryz.prog 73 #[.agg #[.int .i64 m.num, .string m.frm, .string m.to, v]] w fun e w' => ∃ u ps, e = .returned u ∧ OwnL w.heap.size w' u ps (ixSegs m) ∧ Below w.heap.size w w' := by
  obtain ⟨frm, tt, num, buns⟩ := m
  obtain ⟨hn0, hn1, hfz, htz, hml0, hml, hmr⟩ := ixB_facts hR
  obtain ⟨A, C, rfl⟩ := h.ls.val
  dsimp only at h hn0 hn1 hfz htz hml0 hml hmr ⊢
  have b0 : Below w.heap.size w (w.alloc (.cells #[.int .i64 num, .string frm, .string tt, .slice A buns.length C] 115)) := (Below.refl _ _).alloc (Nat.le_refl _) _
  have HR : Hid (RowB (w.alloc (.cells #[.int .i64 num, .string frm, .string tt, .slice A buns.length C] 115)) (.slice A buns.length C) buns ∧ Below w.heap.size w (w.alloc (.cells #[.int .i64 num, .string frm, .string tt, .slice A buns.length C] 115)) ∧ TabOk w) := ⟨h.ls.below b0, b0, ht⟩
  have x0 : (w.alloc (.cells #[.int .i64 num, .string frm, .string tt, .slice A buns.length C] 115)).cell? ⟨w.heap.size, 0, none⟩ = some (.int .i64 num) := by simp [go_sem]
  have x1 : (w.alloc (.cells #[.int .i64 num, .string frm, .string tt, .slice A buns.length C] 115)).cell? ⟨w.heap.size, 1, none⟩ = some (.string frm) := by simp [go_sem]
  have x2 : (w.alloc (.cells #[.int .i64 num, .string frm, .string tt, .slice A buns.length C] 115)).cell? ⟨w.heap.size, 2, none⟩ = some (.string tt) := by simp [go_sem]
  have x3 : (w.alloc (.cells #[.int .i64 num, .string frm, .string tt, .slice A buns.length C] 115)).cell? ⟨w.heap.size, 3, none⟩ = some (.slice A buns.length C) := by simp [go_sem]
  clear h b0 ht
  have sn := decS_size num (by omega) (by omega)
  have hdn : Hid (ixSegs ⟨frm, tt, num, buns⟩ = hdS tIXH [frm, tt, decS num] :: (buns.flatMap bunSegs ++ [hdS tIXT [decS buns.length, decS num]])) := rfl
  go_enter Tryz.func73, Tryz.ntmps73
  go_upto_region 1 with fail
  generalize (w.alloc (.cells #[.int .i64 num, .string frm, .string tt, .slice A buns.length C] 115)) = W0 at *
  go_cut [3] from 6 to 15 (fun l wc => ∃ ps, OwnL W0.heap.size wc l ps [hdS tIXH [frm, tt, decS num]] ∧ Below W0.heap.size W0 wc)
  case first =>
    have T0 : Hid (TabOk W0) := HR.out.2.2.below HR.out.2.1
    generalize hDn : decS num = Dn at *
    have HD : Hid (decS num = Dn) := hDn
    clear hDn
    go_wp2_with fail
    go_region_law (first | (go_simp; go_at_call 109; refine (digits_any num _ (by omega) (by omega) (by first | exact T0.out | exact T0.out.drew)).mono ?_; rintro e w2 ⟨rfl, hb⟩; rw [HD.out]; have hb2 : Below W0.heap.size W0 w2 := (by first | exact hb | exact (Below.refl _ _).drew.trans hb); clear hb; have y1 := (hb2.cell (cell_lt x1)).trans x1; have y2 := (hb2.cell (cell_lt x2)).trans x2; have H2 : Hid (Below W0.heap.size W0 w2) := hb2; clear hb2; try dsimp only) | (go_simp; go_at_call 108; refine (segmentBy_any tIXH _ [frm, tt, Dn] _ (by first | exact row3s w2 frm tt Dn (by omega) (by omega) (by omega) | exact (row3s w2 frm tt Dn (by omega) (by omega) (by omega)).below (Below.refl _ _).drew) (by simp) (by intro t ht; simp at ht; rcases ht with rfl | rfl | rfl <;> omega)).mono ?_; rintro e w3 ⟨u3, vals3, rfl, hO3, hb⟩; obtain ⟨A3, N3, C3, hu3⟩ := row_slice hO3.row; subst hu3; have hb3 : Below w2.heap.size w2 w3 := (((Below.refl _ w2).alloc (Nat.le_refl _) (.cells #[.string frm, .string tt, .string Dn] 9)).trans ((by first | exact hb | exact (Below.refl _ _).drew.trans hb : Below (w2.alloc (.cells #[.string frm, .string tt, .string Dn] 9)).heap.size (w2.alloc (.cells #[.string frm, .string tt, .string Dn] 9)) w3).mono (by simp))); have hw3 : Below W0.heap.size W0 w3 := H2.out.trans (hb3.mono H2.out.size); have H3 : Hid (OwnL W0.heap.size (w3.alloc (.cells #[.string tIXH, .slice A3 N3 C3] 90)) (.slice (some ⟨w3.heap.size, 0, none⟩) 1 1) [(.slice A3 N3 C3, vals3)] [hdS tIXH [frm, tt, Dn]] ∧ Below W0.heap.size W0 (w3.alloc (.cells #[.string tIXH, .slice A3 N3 C3] 90))) := ⟨OwnL.one (hO3.mono (by have := H2.out.size; simp; omega)) hw3.size, hw3.trans (((Below.refl _ w3).alloc (Nat.le_refl _) _).mono hw3.size)⟩; clear hb hb3 hO3 hw3; try dsimp only))
    all_goals
      go_wp2_with fail
      go_meet
      case rel => exact ⟨_, H3.out⟩
  case rest =>
    obtain ⟨ps0, hL0, hb0⟩ := hcut
    obtain ⟨Al0, Cl0, hl0⟩ := hL0.slice
    subst hl0
    have x3a := (hb0.cell (cell_lt x3)).trans x3
    have HL0 : Hid (OwnL W0.heap.size wc (.slice Al0 1 Cl0) ps0 [hdS tIXH [frm, tt, decS num]] ∧ Below W0.heap.size W0 wc) := ⟨hL0, hb0⟩
    clear hL0 hb0
    generalize hDk : hdS tIXH [frm, tt, decS num] = H0 at *
    have HH0 : Hid (hdS tIXH [frm, tt, decS num] = H0) := hDk
    clear hDk
    go_wp2_with fail
    go_loopw [3, 19] (fun l i wr => ∃ (k : Nat) (ps : List (Value × List Value)), i = .int .i64 (k : Int) ∧ k ≤ buns.length ∧ OwnL W0.heap.size wr l ps (H0 :: (buns.take k).flatMap bunSegs) ∧ Below W0.heap.size W0 wr) (fun _ i _ => buns.length - (intOf i).toNat)
    case atStart => exact ⟨0, _, rfl, by omega, HL0.out.1, HL0.out.2⟩
    case round =>
      obtain ⟨k, ps, rfl, hk, hL, hb⟩ := hrel
      obtain ⟨Al, Cl, hlv⟩ := hL.slice
      have hfl := flat_len2 (l := buns.take k) fun g hg => hmr g (List.mem_of_mem_take hg)
      have htk : (buns.take k).length ≤ 5 := by rw [List.length_take]; omega
      obtain ⟨N, hN⟩ : ∃ N, (H0 :: (buns.take k).flatMap bunSegs).length = N := ⟨_, rfl⟩
      have hNl : N ≤ 2111 := by rw [← hN, List.length_cons]; omega
      rw [hN] at hlv
      subst hlv
      by_cases hlt : k < buns.length
      · have hlt' : (k : Int) < (buns.length : Int) := by omega
        obtain ⟨b, o, cap', g, u, e, hs, ⟨q0, q1, q2⟩, hM⟩ := (HR.out.1.below hb).at hlt
        simp only [Value.slice.injEq, true_and] at e
        obtain ⟨rfl, rfl⟩ := e
        obtain ⟨ne, ce, rfl⟩ := hM.ls.val
        have hgr := hmr g (List.mem_of_getElem? hs)
        obtain ⟨gl0, gl1⟩ := bunSegs_len hgr
        have bE : Below wr.heap.size wr (wr.alloc (.cells #[.int .i64 g.kind, .int .i64 g.num, .slice ne g.msgs.length ce] 95)) := (Below.refl _ _).alloc (Nat.le_refl _) _
        have HS : Hid (OwnL W0.heap.size wr (.slice Al N Cl) ps (H0 :: (buns.take k).flatMap bunSegs) ∧ Below W0.heap.size W0 wr ∧ buns[k]? = some g ∧ RB (wr.alloc (.cells #[.int .i64 g.kind, .int .i64 g.num, .slice ne g.msgs.length ce] 95)) (.slice ne g.msgs.length ce) g ∧ Below wr.heap.size wr (wr.alloc (.cells #[.int .i64 g.kind, .int .i64 g.num, .slice ne g.msgs.length ce] 95)) ∧ TabOk wr) := ⟨hL, hb, hs, hM.below bE, bE, HR.out.2.2.below (HR.out.2.1.trans (hb.mono HR.out.2.1.size))⟩
        have zb := hb.size
        clear hL hb hs hM bE
        go_wp2_with fail
        refine (bunAround_any _ _ _ _ _ _).mono ?_
        rintro e w2 ⟨rfl, hb2⟩
        have H2 : Hid (Below wr.heap.size wr w2 ∧ RB w2 (.slice ne g.msgs.length ce) g) := ⟨HS.out.2.2.2.2.1.trans (hb2.mono (by simp)), HS.out.2.2.2.1.below hb2⟩
        clear hb2
        go_wp2_with fail
        refine (bunTell_any g _ _ H2.out.2 hgr (HS.out.2.2.2.2.2.below H2.out.1)).mono ?_
        rintro e w3 ⟨u3, qs, rfl, hO3, hb3⟩
        obtain ⟨A3, C3, hu3⟩ := hO3.slice
        subst hu3
        have H3 : Hid (OwnL wr.heap.size w3 (.slice A3 (bunSegs g).length C3) qs (bunSegs g) ∧ Below wr.heap.size wr w3) := ⟨hO3.mono H2.out.1.size, H2.out.1.trans (hb3.mono H2.out.1.size)⟩
        clear hO3 hb3
        have tok1 : True := trivial
        go_wp2_with (at_builtin; have _t := tok1; refine wpList_app rfl _ _ rfl rfl rfl HS.out.1 zb H3.out.2 H3.out.1 (by rw [hN]; omega) (by omega) ?_; intro A4 C4 w4 hO4 hb4; have H4 : Hid (OwnL W0.heap.size w4 (.slice A4 ((H0 :: (buns.take k).flatMap bunSegs).length + (bunSegs g).length) C4) (ps ++ qs) ((H0 :: (buns.take k).flatMap bunSegs) ++ bunSegs g) ∧ Below W0.heap.size W0 w4) := ⟨hO4, (HS.out.2.1.trans (H3.out.2.mono zb)).trans hb4⟩; clear tok1 hO4 hb4)
        go_roundw
        case rel =>
          refine ⟨k + 1, ps ++ qs, by go_num, by omega, ?_, H4.out.2⟩
          have e1 : H0 :: (buns.take (k + 1)).flatMap bunSegs = (H0 :: (buns.take k).flatMap bunSegs) ++ bunSegs g := by
            rw [List.take_add_one, HS.out.2.2.1, List.flatMap_append]
            simp
          rw [e1]
          have hH := H4.out.1
          rw [hN] at hH
          exact hH
        case measure => simp [intOf]; omega
      · obtain rfl : k = buns.length := by omega
        rw [List.take_length] at hL hN
        have y0 := (hb.cell (cell_lt x0)).trans x0
        have y3 := (hb.cell (cell_lt x3)).trans x3
        have HS : Hid (OwnL W0.heap.size wr (.slice Al N Cl) ps (H0 :: buns.flatMap bunSegs) ∧ Below W0.heap.size W0 wr ∧ TabOk wr) := ⟨hL, hb, HR.out.2.2.below (HR.out.2.1.trans (hb.mono HR.out.2.1.size))⟩
        have zb := hb.size
        clear hL hb
        go_wp2_with fail
        refine (trailer_any num (buns.length : Int) tIXT _ (by omega) (by omega) (by omega) (by omega) HS.out.2.2).mono ?_
        rintro e w3 ⟨u3, vals3, rfl, hO3, hb3⟩
        obtain ⟨A3, N3, C3, hu3⟩ := row_slice hO3.row
        subst hu3
        have z3 := hb3.size
        have hL3 : OwnL wr.heap.size (w3.alloc (.cells #[.string tIXT, .slice A3 N3 C3] 90)) (.slice (some ⟨w3.heap.size, 0, none⟩) 1 1) [(.slice A3 N3 C3, vals3)] [hdS tIXT [decS buns.length, decS num]] := OwnL.one hO3 z3
        have H3 : Hid (OwnL wr.heap.size (w3.alloc (.cells #[.string tIXT, .slice A3 N3 C3] 90)) (.slice (some ⟨w3.heap.size, 0, none⟩) 1 1) [(.slice A3 N3 C3, vals3)] [hdS tIXT [decS buns.length, decS num]] ∧ Below wr.heap.size wr (w3.alloc (.cells #[.string tIXT, .slice A3 N3 C3] 90))) := ⟨hL3, hb3.trans (((Below.refl _ w3).alloc (Nat.le_refl _) _).mono z3)⟩
        clear hb3 hO3 hL3
        have tok1 : True := trivial
        go_wp2_with (at_builtin; have _t := tok1; refine wpList_app rfl _ _ rfl rfl rfl HS.out.1 zb H3.out.2 H3.out.1 (by rw [hN]; simp; omega) (by simp) ?_; intro A4 C4 w4 hO4 hb4; have H4 : Hid (OwnL W0.heap.size w4 (.slice A4 ((H0 :: buns.flatMap bunSegs).length + [hdS tIXT [decS buns.length, decS num]].length) C4) (ps ++ [(.slice A3 N3 C3, vals3)]) ((H0 :: buns.flatMap bunSegs) ++ [hdS tIXT [decS buns.length, decS num]]) ∧ Below W0.heap.size W0 w4) := ⟨hO4, (HS.out.2.1.trans (H3.out.2.mono zb)).trans hb4⟩; clear tok1 hO4 hb4)
        go_ret
        refine ⟨_, ps ++ [(.slice A3 N3 C3, vals3)], rfl, ?_, HR.out.2.1.trans (H4.out.2.mono HR.out.2.1.size)⟩
        rw [hdn.out]
        have hH := H4.out.1
        rw [hN] at hH
        exact hH.mono HR.out.2.1.size
/-- The segments of a right interchange, none of another. -/
def ixSegsR (x : Ixc) : List Seg := bif ixB x then ixSegs x else []
set_option maxHeartbeats 2000000 in
theorem ixSegments_impl (m : Ixc) (v : Value) (w : World) (h : RI w v m) (hB : BdI 1048576 m) (ht : TabOk w) :
    Calls Tryz.prog 37 #[.agg #[.string m.frm, .string m.to, .int .i64 m.num, v]] w fun e w' => ∃ u ps, e = .returned u ∧ OwnL w.heap.size w' u ps (ixSegsR m) ∧ Below w.heap.size w w' := by
  obtain ⟨A, C, rfl⟩ := h.ls.val
  have b0 : Below w.heap.size w (w.alloc (.cells #[.string m.frm, .string m.to, .int .i64 m.num, .slice A m.buns.length C] 44)) := (Below.refl _ _).alloc (Nat.le_refl _) _
  have HR : Hid (RI (w.alloc (.cells #[.string m.frm, .string m.to, .int .i64 m.num, .slice A m.buns.length C] 44)) (.slice A m.buns.length C) m ∧ Below w.heap.size w (w.alloc (.cells #[.string m.frm, .string m.to, .int .i64 m.num, .slice A m.buns.length C] 44)) ∧ TabOk w) := ⟨h.below b0, b0, ht⟩
  have x0 : (w.alloc (.cells #[.string m.frm, .string m.to, .int .i64 m.num, .slice A m.buns.length C] 44)).cell? ⟨w.heap.size, 0, none⟩ = some (.string m.frm) := by simp [go_sem]
  have x1 : (w.alloc (.cells #[.string m.frm, .string m.to, .int .i64 m.num, .slice A m.buns.length C] 44)).cell? ⟨w.heap.size, 1, none⟩ = some (.string m.to) := by simp [go_sem]
  have x2 : (w.alloc (.cells #[.string m.frm, .string m.to, .int .i64 m.num, .slice A m.buns.length C] 44)).cell? ⟨w.heap.size, 2, none⟩ = some (.int .i64 m.num) := by simp [go_sem]
  have x3 : (w.alloc (.cells #[.string m.frm, .string m.to, .int .i64 m.num, .slice A m.buns.length C] 44)).cell? ⟨w.heap.size, 3, none⟩ = some (.slice A m.buns.length C) := by simp [go_sem]
  clear h b0 ht
  go_enter Tryz.func37, Tryz.ntmps37
  go_wp2_with fail
  generalize (w.alloc (.cells #[.string m.frm, .string m.to, .int .i64 m.num, .slice A m.buns.length C] 44)) = W0 at *
  refine (ixRight_impl m _ _ HR.out.1 hB).mono ?_
  rintro e w1 ⟨rfl, hb1⟩
  have y0 := (hb1.cell (cell_lt x0)).trans x0
  have y1 := (hb1.cell (cell_lt x1)).trans x1
  have y2 := (hb1.cell (cell_lt x2)).trans x2
  have y3 := (hb1.cell (cell_lt x3)).trans x3
  have H1 : Hid (Below w.heap.size w w1 ∧ RI w1 (.slice A m.buns.length C) m) := ⟨HR.out.2.1.trans (hb1.mono HR.out.2.1.size), HR.out.1.below hb1⟩
  clear hb1
  cases hx : ixB m
  · go_wp2
    go_ret
    refine ⟨_, [], rfl, ?_, H1.out.1⟩
    have e : ixSegsR m = [] := by simp [ixSegsR, hx]
    rw [e]
    exact OwnL.nil _ _
  · go_wp2_with fail
    refine (ixAround_any _ _ _ _ _ _ _).mono ?_
    rintro e w2 ⟨rfl, hb2⟩
    have H2 : Hid (Below w.heap.size w w2 ∧ RI w2 (.slice A m.buns.length C) m) := ⟨H1.out.1.trans (hb2.mono H1.out.1.size), H1.out.2.below hb2⟩
    clear hb2
    go_wp2_with fail
    refine (ixTell_any m _ _ H2.out.2 hx (HR.out.2.2.below H2.out.1)).mono ?_
    rintro e w3 ⟨u3, ps, rfl, hO, hb3⟩
    obtain ⟨A3, C3, hu⟩ := hO.slice
    subst hu
    have e : ixSegsR m = ixSegs m := by simp [ixSegsR, hx]
    have H3 : Hid (OwnL w.heap.size w3 (.slice A3 (ixSegs m).length C3) ps (ixSegsR m) ∧ Below w.heap.size w w3) := ⟨by rw [e]; exact hO.mono H2.out.1.size, H2.out.1.trans (hb3.mono H2.out.1.size)⟩
    clear hO hb3
    go_wp2
    go_ret
    exact ⟨_, ps, rfl, H3.out.1, H3.out.2⟩
end Go.Proofs.YtkaolpnbddjdpaaGreatDoor
