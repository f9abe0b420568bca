/- Texts of ours put together: GtS. -/
import Derived.Test.YtkgkahlhekecmaaGreatG28
import Derived.Test.YtkgkahlhekecmaaGreatG38
import Derived.Test.YtkgkahlhekecmaaGreatG39
import Derived.Test.YtkgkahlhekecmaaGreatG41
import Derived.Test.YtkgkahlhekecmaaGreatG42
import Derived.Laws.Cover1
namespace Go.Proofs.YtkgkahlhekecmaaGreat
open Go.ChangeShapes Go.WideShapes Go.ChangeAt Go.RowKit
open Go.Sort
set_option maxHeartbeats 16000000 in
theorem gateRight_spec (g : Gat) (up uc us ul ud uo : Value) (w : World) (h : RGt w up uc us ul ud uo g) : Calls Tryz.prog 18 #[.agg #[.string g.name, .int .i64 g.day, up, uc, us, ul, ud, uo]] w fun e w' => e = .returned (.bool (gtB g)) ∧ Below w.heap.size w w' := by
  obtain ⟨a0, c0, a1, c1, a2, c2, a3, c3, a4, c4, a5, c5, rfl, rfl, rfl, rfl, rfl, rfl⟩ := h.val
  have hld := h.df.len
  have hlp := h.pt.len
  obtain ⟨W0, hW0⟩ : ∃ W0, w.alloc (.cells #[.string g.name, .int .i64 g.day, (.slice a0 g.ptns.length c0), (.slice a1 g.crss.length c1), (.slice a2 g.book.stocks.length c2), (.slice a3 g.book.lines.length c3), (.slice a4 g.dffs.length c4), (.slice a5 g.outs.length c5)] 42) = W0 := ⟨_, rfl⟩
  have hb0 : Below w.heap.size w W0 := by rw [← hW0]; exact (Below.refl _ _).alloc (Nat.le_refl _) _
  have hx0 : W0.heap[w.heap.size]? = some (.cells #[.string g.name, .int .i64 g.day, (.slice a0 g.ptns.length c0), (.slice a1 g.crss.length c1), (.slice a2 g.book.stocks.length c2), (.slice a3 g.book.lines.length c3), (.slice a4 g.dffs.length c4), (.slice a5 g.outs.length c5)] 42) := by rw [← hW0]; exact World.alloc_heap_new _ _
  have H0 : Hid (Below w.heap.size w W0 ∧ RGt W0 (.slice a0 g.ptns.length c0) (.slice a1 g.crss.length c1) (.slice a2 g.book.stocks.length c2) (.slice a3 g.book.lines.length c3) (.slice a4 g.dffs.length c4) (.slice a5 g.outs.length c5) g ∧ W0.heap[w.heap.size]? = some (.cells #[.string g.name, .int .i64 g.day, (.slice a0 g.ptns.length c0), (.slice a1 g.crss.length c1), (.slice a2 g.book.stocks.length c2), (.slice a3 g.book.lines.length c3), (.slice a4 g.dffs.length c4), (.slice a5 g.outs.length c5)] 42)) := ⟨hb0, h.below hb0, hx0⟩
  clear h hb0 hx0
  obtain ⟨y1, h1⟩ : ∃ y, y = nameB g.name := ⟨_, rfl⟩
  obtain ⟨y2, h2⟩ : ∃ y, y = dayB g.day := ⟨_, rfl⟩
  obtain ⟨y4, h4⟩ : ∃ y, y = rightB g.crss := ⟨_, rfl⟩
  obtain ⟨y5, h5⟩ : ∃ y, y = bkB g.book := ⟨_, rfl⟩
  obtain ⟨y7, h7⟩ : ∃ y, y = ousB g.outs := ⟨_, rfl⟩
  have HZ : Hid (gtB g = (y1 && (y2 && (ptsB g.ptns && (y4 && (y5 && (dfB g && y7))))))) := by rw [h1, h2, h4, h5, h7]; rfl
  have Q1 := l01Name_any g.name
  have Q2 := l01Day_any g.day
  have Q4 := fun W h => crossRight_spec (.slice a1 g.crss.length c1) g.crss W h
  have Q5 := fun W h => bookRight_spec g.book (.slice a2 g.book.stocks.length c2) (.slice a3 g.book.lines.length c3) W h
  have Q7 := fun W h => outboxRight_spec (.slice a5 g.outs.length c5) g.outs W h
  rw [← h1] at Q1
  rw [← h2] at Q2
  rw [← h4] at Q4
  rw [← h5] at Q5
  rw [← h7] at Q7
  clear h1 h2 h4 h5 h7
  go_enter Tryz.func18, Tryz.ntmps18
  go_upto_region 1 with fail
  try rw [hW0]
  clear hW0
  obtain ⟨x0, x1, x2, x3, x4, x5, x6, x7⟩ := bx8 H0.out.2.2
  go_wp2_with fail
  refine (Q1 _).mono ?_
  rintro e w1 ⟨rfl, rfl⟩
  cases y1
  · go_wp2
    go_ret
    exact ⟨by rw [HZ.out]; simp, H0.out.1⟩
  go_wp2_with fail
  refine (Q2 _).mono ?_
  rintro e w1 ⟨rfl, rfl⟩
  cases y2
  · go_wp2
    go_ret
    exact ⟨by rw [HZ.out]; simp, H0.out.1⟩
  by_cases hp : 20 < g.ptns.length
  · have hp' : (20 : Int) < (g.ptns.length : Int) := by omega
    have HN : Hid (ptsB g.ptns = false) := ptsB_no fun h => by have := h.len; omega
    go_wp2
    go_ret
    exact ⟨by rw [HZ.out, HN.out]; simp, H0.out.1⟩
  have hp' : ¬ (20 : Int) < (g.ptns.length : Int) := by omega
  go_wp2_with fail
  refine (Q4 _ H0.out.2.1.cs).mono ?_
  rintro e w4 ⟨rfl, hb⟩
  have H4 : Hid (Below w.heap.size w w4 ∧ RGt w4 (.slice a0 g.ptns.length c0) (.slice a1 g.crss.length c1) (.slice a2 g.book.stocks.length c2) (.slice a3 g.book.lines.length c3) (.slice a4 g.dffs.length c4) (.slice a5 g.outs.length c5) g ∧ w4.heap[w.heap.size]? = some (.cells #[.string g.name, .int .i64 g.day, (.slice a0 g.ptns.length c0), (.slice a1 g.crss.length c1), (.slice a2 g.book.stocks.length c2), (.slice a3 g.book.lines.length c3), (.slice a4 g.dffs.length c4), (.slice a5 g.outs.length c5)] 42)) := ⟨H0.out.1.trans (hb.mono H0.out.1.size), H0.out.2.1.below hb, (hb.block _ (Array.getElem?_eq_some_iff.1 H0.out.2.2).1).trans H0.out.2.2⟩
  clear hb x0 x1 x2 x3 x4 x5 x6 x7 H0
  obtain ⟨x0, x1, x2, x3, x4, x5, x6, x7⟩ := bx8 H4.out.2.2
  cases y4
  · go_wp2
    go_ret
    exact ⟨by rw [HZ.out]; simp, H4.out.1⟩
  go_wp2_with fail
  refine (Q5 _ H4.out.2.1.bk).mono ?_
  rintro e w5 ⟨rfl, hb⟩
  have H5 : Hid (Below w.heap.size w w5 ∧ RGt w5 (.slice a0 g.ptns.length c0) (.slice a1 g.crss.length c1) (.slice a2 g.book.stocks.length c2) (.slice a3 g.book.lines.length c3) (.slice a4 g.dffs.length c4) (.slice a5 g.outs.length c5) g ∧ w5.heap[w.heap.size]? = some (.cells #[.string g.name, .int .i64 g.day, (.slice a0 g.ptns.length c0), (.slice a1 g.crss.length c1), (.slice a2 g.book.stocks.length c2), (.slice a3 g.book.lines.length c3), (.slice a4 g.dffs.length c4), (.slice a5 g.outs.length c5)] 42)) := ⟨H4.out.1.trans (hb.mono H4.out.1.size), H4.out.2.1.below hb, (hb.block _ (Array.getElem?_eq_some_iff.1 H4.out.2.2).1).trans H4.out.2.2⟩
  clear hb x0 x1 x2 x3 x4 x5 x6 x7 H4
  obtain ⟨x0, x1, x2, x3, x4, x5, x6, x7⟩ := bx8 H5.out.2.2
  cases y5
  · go_wp2
    go_ret
    exact ⟨by rw [HZ.out]; simp, H5.out.1⟩
  by_cases hd : 200 < g.dffs.length
  case pos =>
    have hd' : (200 : Int) < (g.dffs.length : Int) := by omega
    have HD : Hid (dfB g = false) := decide_eq_false (by omega)
    go_wp2
    go_ret
    exact ⟨by rw [HZ.out, HD.out]; simp, H5.out.1⟩
  have hd' : ¬ (200 : Int) < (g.dffs.length : Int) := by omega
  have HD : Hid (dfB g = true) := decide_eq_true (by omega)
  go_wp2_with fail
  refine (Q7 _ H5.out.2.1.ou).mono ?_
  rintro e w7 ⟨rfl, hb⟩
  have H7 : Hid (Below w.heap.size w w7 ∧ RGt w7 (.slice a0 g.ptns.length c0) (.slice a1 g.crss.length c1) (.slice a2 g.book.stocks.length c2) (.slice a3 g.book.lines.length c3) (.slice a4 g.dffs.length c4) (.slice a5 g.outs.length c5) g ∧ w7.heap[w.heap.size]? = some (.cells #[.string g.name, .int .i64 g.day, (.slice a0 g.ptns.length c0), (.slice a1 g.crss.length c1), (.slice a2 g.book.stocks.length c2), (.slice a3 g.book.lines.length c3), (.slice a4 g.dffs.length c4), (.slice a5 g.outs.length c5)] 42)) := ⟨H5.out.1.trans (hb.mono H5.out.1.size), H5.out.2.1.below hb, (hb.block _ (Array.getElem?_eq_some_iff.1 H5.out.2.2).1).trans H5.out.2.2⟩
  clear hb x0 x1 x2 x3 x4 x5 x6 x7 H5
  obtain ⟨x0, x1, x2, x3, x4, x5, x6, x7⟩ := bx8 H7.out.2.2
  cases y7
  · go_wp2
    go_ret
    exact ⟨by rw [HZ.out]; simp, H7.out.1⟩
  have HY : Hid (gtB g = ptsB g.ptns) := by show gtB g = ptsB g.ptns; rw [HZ.out, HD.out]; simp
  clear HZ HD Q1 Q2 Q4 Q5 Q7
  obtain ⟨rs, hrs⟩ : ∃ rs, rs = g.ptns := ⟨_, rfl⟩
  rw [← hrs] at hlp hp hp' x2
  have HR : Hid (rs = g.ptns) := hrs
  try rw [← hrs]
  clear hrs
  have HRow : Hid (RowPt w7 (.slice a0 rs.length c0) rs) := by rw [HR.out]; exact H7.out.2.1.pt
  have HX : Hid (Below w.heap.size w w7 ∧ w7.heap[w.heap.size]? = some (.cells #[.string g.name, .int .i64 g.day, .slice a0 rs.length c0, (.slice a1 g.crss.length c1), (.slice a2 g.book.stocks.length c2), (.slice a3 g.book.lines.length c3), (.slice a4 g.dffs.length c4), (.slice a5 g.outs.length c5)] 42)) := by rw [HR.out]; exact ⟨H7.out.1, H7.out.2.2⟩
  clear x0 x1 x2 x3 x4 x5 x6 x7 H7
  go_wp2_with fail
  try rw [← HR.out]
  go_loopw [3] (fun i wr => ∃ k : Nat, i = .int .i64 (k : Int) ∧ k ≤ rs.length ∧ Below w7.heap.size w7 wr ∧ ∀ i c, i < k → rs[i]? = some c → OkP rs i c) (fun i _ => rs.length - (intOf i).toNat)
  case atStart => exact ⟨0, rfl, by omega, Below.refl _ _, fun i c hi => by omega⟩
  case round =>
    obtain ⟨k, rfl, hk, hb, hok⟩ := hrel
    have HI : Hid (Below w7.heap.size w7 wr ∧ ∀ i c, i < k → rs[i]? = some c → OkP rs i c) := ⟨hb, hok⟩
    have hbk := (hb.block _ (Array.getElem?_eq_some_iff.1 HX.out.2).1).trans HX.out.2
    have l2 := (Array.getElem?_eq_some_iff.1 hbk).1
    obtain ⟨x0, x1, x2, x3, x4, x5, x6, x7⟩ := bx8 hbk
    clear hok hb hbk x0 x1 x3 x4 x5 x6 x7
    by_cases hlt : k < rs.length
    · have hlt' : (k : Int) < (rs.length : Int) := by omega
      obtain ⟨b, o, cap', p, u, e, hs, ⟨q0, q1, q2, q3⟩, hRp⟩ := (HRow.out.below HI.out.1).at hlt
      simp only [Value.slice.injEq, true_and] at e
      obtain ⟨rfl, rfl⟩ := e
      obtain ⟨n0, m0, rfl⟩ := hRp.ls.val
      have HS : Hid (rs[k]? = some p) := hs
      have HRW : Hid (RowPt wr (.slice (some ⟨b, o, none⟩) rs.length c0) rs) := HRow.out.below HI.out.1
      clear hs
      go_upto_region 6 with fail
      have l0 : b < wr.heap.size := cell_lt q0
      have f0 := cell_grown (a := ⟨b, o + k * 4, none⟩) l0 q0
      have f1 := cell_grown (a := ⟨b, o + k * 4 + 1, none⟩) l0 q1
      have f2 := cell_grown (a := ⟨b, o + k * 4 + 2, none⟩) l0 q2
      have f3 := cell_grown (a := ⟨b, o + k * 4 + 3, none⟩) l0 q3
      have f4 := cell_grown (a := ⟨w.heap.size, 2, none⟩) l2 x2
      clear q0 q1 q2 q3 x2
      obtain ⟨x, hx⟩ : ∃ x, x = ptnB p := ⟨_, rfl⟩
      have Q1 : ∀ n os, Calls Tryz.prog 54 #[.agg #[.string p.name, .int .i64 p.low, .int .i64 p.next, .slice n0 p.seen.length m0]] (grow (wr.drewN n) os) fun e w' => e = .returned (.bool (ptnB p)) ∧ Grw (grow (wr.drewN n) os) w' := fun n os => ptRight_grows p _ _ (hRp.below (Grw.below ⟨n, os, rfl⟩))
      rw [← hx] at Q1
      have HXX : Hid (x = ptnB p) := hx
      clear hx hRp
      have mixed : Tryz.prog.follows .mixedOrders = true := by kernel_rfl
      obtain ⟨bad, hbad⟩ : ∃ bad : Bool, (bad = true ↔ ¬ OkP rs k p) := by
        by_cases h : OkP rs k p
        · exact ⟨false, by simp [h]⟩
        · exact ⟨true, by simp [h]⟩
      have HD : Hid (bad = true ↔ ¬ OkP rs k p) := hbad
      have HF : Hid (OkP rs k p → bad = false) := fun h => by
        cases bad with
        | false => rfl
        | true => exact absurd h (hbad.1 rfl)
      clear hbad
      go_cut [77] from 44 to 76 (fun t wx => t = .bool bad ∧ Below w7.heap.size w7 wx)
      case first =>
        cases x with
        | false =>
          obtain rfl : bad = true := HD.out.2 fun h => by have h1 := h.ok; have h2 := HXX.out; rw [h1] at h2; cases h2
          refine wp_region_quiet_grown mixed (by kernel_rfl) ?_
          repeat (go_big_quiet_step (first | (go_at_call 54; refine Calls.grown_of (Q1 _ _))))
          refine wpQuiet_nil ?_
          intro _ hw'
          obtain ⟨⟨nq, osq⟩, hw''⟩ := hw'
          subst hw''
          go_wp2_with fail
          go_meet
          exact ⟨rfl, HI.out.1.trans ((Grw.below ⟨nq, osq, rfl⟩).mono HI.out.1.size)⟩
        | true =>
          rcases Nat.eq_zero_or_pos k with k0 | k0
          · obtain rfl : bad = false := HF.out ⟨HXX.out.symm, fun d h => by omega⟩
            have d4 : decide (0 < (k : Int)) = false := by simp; omega
            have d4' : decide (0 < k) = false := by simp; omega
            clear k0
            refine wp_region_quiet_grown mixed (by kernel_rfl) ?_
            repeat (go_big_quiet_step (first | (go_at_call 54; refine Calls.grown_of (Q1 _ _))))
            refine wpQuiet_nil ?_
            intro _ hw'
            obtain ⟨⟨nq, osq⟩, hw''⟩ := hw'
            subst hw''
            go_wp2_with fail
            go_meet
            exact ⟨rfl, HI.out.1.trans ((Grw.below ⟨nq, osq, rfl⟩).mono HI.out.1.size)⟩
          · obtain ⟨j, rfl⟩ : ∃ j, k = j + 1 := ⟨k - 1, by omega⟩
            have d4 : (0 : Int) < ((j + 1 : Nat) : Int) := by omega
            have d5 : (0 : Int) < (j : Int) + 1 := by omega
            have i0 : (0 : Int) ≤ (j : Int) := by omega
            have i2 : (j : Int) < (rs.length : Int) := by omega
            have i3 : IntKind.i64.wrap ((j : Int) + 1 - 1) = (j : Int) := by rw [show (j : Int) + 1 - 1 = (j : Int) by omega]; simp [IntKind.wrap, IntKind.bits, IntKind.signed]; omega
            have i4 : IntKind.i64.wrap (j : Int) = (j : Int) := by simp [IntKind.wrap, IntKind.bits, IntKind.signed]; omega
            obtain ⟨b2, o2, cap2, d, u2, e, hs, ⟨r0, r1, r2, r3⟩, _⟩ := HRW.out.at (k := j) (by omega)
            simp only [Value.slice.injEq, Option.some.injEq, Addr.mk.injEq, true_and, and_true] at e
            obtain ⟨⟨rfl, rfl⟩, rfl⟩ := e
            have g0 := cell_grown (a := ⟨b, o + j * 4, none⟩) l0 r0
            have HJ : Hid (rs[j]? = some d) := hs
            clear hs r0 r1 r2 r3
            have HR2 : Hid (OkP rs (j + 1) p → Op.bytesLess d.name.toList p.name.toList = true) := fun h => h.rise d (by omega) (by simpa using HJ.out)
            cases xx : Op.bytesLess p.name.toList d.name.toList with
            | true =>
              obtain rfl : bad = true := HD.out.2 fun h => by have := bl_asymm (HR2.out h); rw [xx] at this; cases this
              refine wp_region_quiet_grown mixed (by kernel_rfl) ?_
              repeat (go_big_quiet_step (first | (go_at_call 54; refine Calls.grown_of (Q1 _ _))))
              refine wpQuiet_nil ?_
              intro _ hw'
              obtain ⟨⟨nq, osq⟩, hw''⟩ := hw'
              subst hw''
              go_wp2_with fail
              go_meet
              exact ⟨rfl, HI.out.1.trans ((Grw.below ⟨nq, osq, rfl⟩).mono HI.out.1.size)⟩
            | false =>
              cases yy : (p.name.toList == d.name.toList) with
              | true =>
                obtain rfl : bad = true := HD.out.2 fun h => by have := bl_neG (HR2.out h); rw [yy] at this; cases this
                refine wp_region_quiet_grown mixed (by kernel_rfl) ?_
                repeat (go_big_quiet_step (first | (go_at_call 54; refine Calls.grown_of (Q1 _ _))))
                refine wpQuiet_nil ?_
                intro _ hw'
                obtain ⟨⟨nq, osq⟩, hw''⟩ := hw'
                subst hw''
                go_wp2_with fail
                go_meet
                exact ⟨rfl, HI.out.1.trans ((Grw.below ⟨nq, osq, rfl⟩).mono HI.out.1.size)⟩
              | false =>
                obtain rfl : bad = false := HF.out (ptp_ok HXX.out.symm xx yy fun d2 _ hd => by rw [show j + 1 - 1 = j by omega, HJ.out] at hd; cases hd; rfl)
                refine wp_region_quiet_grown mixed (by kernel_rfl) ?_
                repeat (go_big_quiet_step (first | (go_at_call 54; refine Calls.grown_of (Q1 _ _))))
                refine wpQuiet_nil ?_
                intro _ hw'
                obtain ⟨⟨nq, osq⟩, hw''⟩ := hw'
                subst hw''
                go_wp2_with fail
                go_meet
                exact ⟨rfl, HI.out.1.trans ((Grw.below ⟨nq, osq, rfl⟩).mono HI.out.1.size)⟩
      case rest =>
        obtain ⟨rfl, hb5⟩ := hcut
        rename World => w5
        have H5 : Hid (Below w7.heap.size w7 w5) := hb5
        clear hb5
        cases bad with
        | true =>
          have HN : Hid (gtB g = false) := by rw [HY.out, ← HR.out]; exact ptsB_no fun h => HD.out.1 rfl (h.at_ k _ HS.out)
          go_wp2
          go_ret
          exact ⟨by rw [HN.out]; rfl, HX.out.1.trans (H5.out.mono HX.out.1.size)⟩
        | false =>
          have HN : Hid (OkP rs k p) := by
            by_cases h : OkP rs k p
            · exact h
            · have := HD.out.2 h
              cases this
          go_wp2
          go_roundw
          case rel =>
            refine ⟨k + 1, by go_num, by omega, H5.out, fun i y hi hy => ?_⟩
            rcases Nat.lt_or_ge i k with g | g
            · exact HI.out.2 i y g hy
            · obtain rfl : i = k := by omega
              rw [HS.out] at hy
              cases hy
              exact HN.out
          case measure => simp [intOf]; omega
    · obtain rfl : k = rs.length := by omega
      have HN : Hid (gtB g = true) := by
        rw [HY.out, ← HR.out]
        exact ptsB_yes ⟨by omega, fun i c hc => HI.out.2 i c (List.getElem?_eq_some_iff.1 hc).1 hc⟩
      go_wp2
      go_ret
      exact ⟨by rw [HN.out]; rfl, HX.out.1.trans (HI.out.1.mono HX.out.1.size)⟩
end Go.Proofs.YtkgkahlhekecmaaGreat
