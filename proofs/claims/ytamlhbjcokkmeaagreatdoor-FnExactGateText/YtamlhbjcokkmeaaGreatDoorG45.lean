/- Texts of ours put together: GtS, BiQ. -/
import Derived.Test.YtamlhbjcokkmeaaGreatDoorG16
import Derived.Test.YtamlhbjcokkmeaaGreatDoorG42
import Derived.Test.YtamlhbjcokkmeaaGreatDoorG43
import Derived.Test.YtamlhbjcokkmeaaGreatDoorG44
import Derived.Laws.Cover1
import Derived.Test.YtamlhbjcokkmeaaGreatDoorG22
import Derived.Deep.AppendLies
import Derived.BigFrame
namespace Go.Proofs.YtamlhbjcokkmeaaGreatDoor
open Go.ChangeShapes Go.WideShapes Go.ChangeAt Go.RowKit
open Go.Sort
set_option maxHeartbeats 16000000 in
theorem gateRight_spec (g : Gat) (up uc us ul ud uo : Value) (w : World) (h : RGt w up uc us ul ud uo g) : Calls Tryz.prog 14 #[.agg #[.string g.name, .int .i64 g.day, up, uc, us, ul, ud, uo]] w fun e w' => e = .returned (.bool (gtB g)) ∧ Below w.heap.size w w' := by
  obtain ⟨a0, c0, a1, c1, a2, c2, a3, c3, a4, c4, a5, c5, rfl, rfl, rfl, rfl, rfl, rfl⟩ := h.val
  have hld := h.df.len
  have hlp := h.pt.len
  obtain ⟨W0, hW0⟩ : ∃ W0, w.alloc (.cells #[.string g.name, .int .i64 g.day, (.slice a0 g.ptns.length c0), (.slice a1 g.crss.length c1), (.slice a2 g.book.stocks.length c2), (.slice a3 g.book.lines.length c3), (.slice a4 g.dffs.length c4), (.slice a5 g.outs.length c5)] 43) = W0 := ⟨_, rfl⟩
  have hb0 : Below w.heap.size w W0 := by rw [← hW0]; exact (Below.refl _ _).alloc (Nat.le_refl _) _
  have hx0 : W0.heap[w.heap.size]? = some (.cells #[.string g.name, .int .i64 g.day, (.slice a0 g.ptns.length c0), (.slice a1 g.crss.length c1), (.slice a2 g.book.stocks.length c2), (.slice a3 g.book.lines.length c3), (.slice a4 g.dffs.length c4), (.slice a5 g.outs.length c5)] 43) := by rw [← hW0]; exact World.alloc_heap_new _ _
  have H0 : Hid (Below w.heap.size w W0 ∧ RGt W0 (.slice a0 g.ptns.length c0) (.slice a1 g.crss.length c1) (.slice a2 g.book.stocks.length c2) (.slice a3 g.book.lines.length c3) (.slice a4 g.dffs.length c4) (.slice a5 g.outs.length c5) g ∧ W0.heap[w.heap.size]? = some (.cells #[.string g.name, .int .i64 g.day, (.slice a0 g.ptns.length c0), (.slice a1 g.crss.length c1), (.slice a2 g.book.stocks.length c2), (.slice a3 g.book.lines.length c3), (.slice a4 g.dffs.length c4), (.slice a5 g.outs.length c5)] 43)) := ⟨hb0, h.below hb0, hx0⟩
  clear h hb0 hx0
  obtain ⟨y1, h1⟩ : ∃ y, y = nameB g.name := ⟨_, rfl⟩
  obtain ⟨y2, h2⟩ : ∃ y, y = dayB g.day := ⟨_, rfl⟩
  obtain ⟨y4, h4⟩ : ∃ y, y = rightB g.crss := ⟨_, rfl⟩
  obtain ⟨y5, h5⟩ : ∃ y, y = bkB g.book := ⟨_, rfl⟩
  obtain ⟨y7, h7⟩ : ∃ y, y = ousB g.outs := ⟨_, rfl⟩
  have HZ : Hid (gtB g = (y1 && (y2 && (ptsB g.ptns && (y4 && (y5 && (dfB g && y7))))))) := by rw [h1, h2, h4, h5, h7]; rfl
  have Q1 := l01Name_any g.name
  have Q2 := l01Day_any g.day
  have Q4 := fun W h => crossRight_spec (.slice a1 g.crss.length c1) g.crss W h
  have Q5 := fun W h => bookRight_spec g.book (.slice a2 g.book.stocks.length c2) (.slice a3 g.book.lines.length c3) W h
  have Q7 := fun W h => outboxRight_spec (.slice a5 g.outs.length c5) g.outs W h
  rw [← h1] at Q1
  rw [← h2] at Q2
  rw [← h4] at Q4
  rw [← h5] at Q5
  rw [← h7] at Q7
  clear h1 h2 h4 h5 h7
  go_enter Tryz.func14, Tryz.ntmps14
  go_upto_region 1 with fail
  try rw [hW0]
  clear hW0
  obtain ⟨x0, x1, x2, x3, x4, x5, x6, x7⟩ := bx8 H0.out.2.2
  go_wp2_with fail
  refine (Q1 _).mono ?_
  rintro e w1 ⟨rfl, rfl⟩
  cases y1
  · go_wp2
    go_ret
    exact ⟨by rw [HZ.out]; simp, H0.out.1⟩
  go_wp2_with fail
  refine (Q2 _).mono ?_
  rintro e w1 ⟨rfl, rfl⟩
  cases y2
  · go_wp2
    go_ret
    exact ⟨by rw [HZ.out]; simp, H0.out.1⟩
  by_cases hp : 20 < g.ptns.length
  · have hp' : (20 : Int) < (g.ptns.length : Int) := by omega
    have HN : Hid (ptsB g.ptns = false) := ptsB_no fun h => by have := h.len; omega
    go_wp2
    go_ret
    exact ⟨by rw [HZ.out, HN.out]; simp, H0.out.1⟩
  have hp' : ¬ (20 : Int) < (g.ptns.length : Int) := by omega
  go_wp2_with fail
  refine (Q4 _ H0.out.2.1.cs).mono ?_
  rintro e w4 ⟨rfl, hb⟩
  have H4 : Hid (Below w.heap.size w w4 ∧ RGt w4 (.slice a0 g.ptns.length c0) (.slice a1 g.crss.length c1) (.slice a2 g.book.stocks.length c2) (.slice a3 g.book.lines.length c3) (.slice a4 g.dffs.length c4) (.slice a5 g.outs.length c5) g ∧ w4.heap[w.heap.size]? = some (.cells #[.string g.name, .int .i64 g.day, (.slice a0 g.ptns.length c0), (.slice a1 g.crss.length c1), (.slice a2 g.book.stocks.length c2), (.slice a3 g.book.lines.length c3), (.slice a4 g.dffs.length c4), (.slice a5 g.outs.length c5)] 43)) := ⟨H0.out.1.trans (hb.mono H0.out.1.size), H0.out.2.1.below hb, (hb.block _ (Array.getElem?_eq_some_iff.1 H0.out.2.2).1).trans H0.out.2.2⟩
  clear hb x0 x1 x2 x3 x4 x5 x6 x7 H0
  obtain ⟨x0, x1, x2, x3, x4, x5, x6, x7⟩ := bx8 H4.out.2.2
  cases y4
  · go_wp2
    go_ret
    exact ⟨by rw [HZ.out]; simp, H4.out.1⟩
  go_wp2_with fail
  refine (Q5 _ H4.out.2.1.bk).mono ?_
  rintro e w5 ⟨rfl, hb⟩
  have H5 : Hid (Below w.heap.size w w5 ∧ RGt w5 (.slice a0 g.ptns.length c0) (.slice a1 g.crss.length c1) (.slice a2 g.book.stocks.length c2) (.slice a3 g.book.lines.length c3) (.slice a4 g.dffs.length c4) (.slice a5 g.outs.length c5) g ∧ w5.heap[w.heap.size]? = some (.cells #[.string g.name, .int .i64 g.day, (.slice a0 g.ptns.length c0), (.slice a1 g.crss.length c1), (.slice a2 g.book.stocks.length c2), (.slice a3 g.book.lines.length c3), (.slice a4 g.dffs.length c4), (.slice a5 g.outs.length c5)] 43)) := ⟨H4.out.1.trans (hb.mono H4.out.1.size), H4.out.2.1.below hb, (hb.block _ (Array.getElem?_eq_some_iff.1 H4.out.2.2).1).trans H4.out.2.2⟩
  clear hb x0 x1 x2 x3 x4 x5 x6 x7 H4
  obtain ⟨x0, x1, x2, x3, x4, x5, x6, x7⟩ := bx8 H5.out.2.2
  cases y5
  · go_wp2
    go_ret
    exact ⟨by rw [HZ.out]; simp, H5.out.1⟩
  by_cases hd : 200 < g.dffs.length
  case pos =>
    have hd' : (200 : Int) < (g.dffs.length : Int) := by omega
    have HD : Hid (dfB g = false) := decide_eq_false (by omega)
    go_wp2
    go_ret
    exact ⟨by rw [HZ.out, HD.out]; simp, H5.out.1⟩
  have hd' : ¬ (200 : Int) < (g.dffs.length : Int) := by omega
  have HD : Hid (dfB g = true) := decide_eq_true (by omega)
  go_wp2_with fail
  refine (Q7 _ H5.out.2.1.ou).mono ?_
  rintro e w7 ⟨rfl, hb⟩
  have H7 : Hid (Below w.heap.size w w7 ∧ RGt w7 (.slice a0 g.ptns.length c0) (.slice a1 g.crss.length c1) (.slice a2 g.book.stocks.length c2) (.slice a3 g.book.lines.length c3) (.slice a4 g.dffs.length c4) (.slice a5 g.outs.length c5) g ∧ w7.heap[w.heap.size]? = some (.cells #[.string g.name, .int .i64 g.day, (.slice a0 g.ptns.length c0), (.slice a1 g.crss.length c1), (.slice a2 g.book.stocks.length c2), (.slice a3 g.book.lines.length c3), (.slice a4 g.dffs.length c4), (.slice a5 g.outs.length c5)] 43)) := ⟨H5.out.1.trans (hb.mono H5.out.1.size), H5.out.2.1.below hb, (hb.block _ (Array.getElem?_eq_some_iff.1 H5.out.2.2).1).trans H5.out.2.2⟩
  clear hb x0 x1 x2 x3 x4 x5 x6 x7 H5
  obtain ⟨x0, x1, x2, x3, x4, x5, x6, x7⟩ := bx8 H7.out.2.2
  cases y7
  · go_wp2
    go_ret
    exact ⟨by rw [HZ.out]; simp, H7.out.1⟩
  have HY : Hid (gtB g = ptsB g.ptns) := by show gtB g = ptsB g.ptns; rw [HZ.out, HD.out]; simp
  clear HZ HD Q1 Q2 Q4 Q5 Q7
  obtain ⟨rs, hrs⟩ : ∃ rs, rs = g.ptns := ⟨_, rfl⟩
  rw [← hrs] at hlp hp hp' x2
  have HR : Hid (rs = g.ptns) := hrs
  try rw [← hrs]
  clear hrs
  have HRow : Hid (RowPt w7 (.slice a0 rs.length c0) rs) := by rw [HR.out]; exact H7.out.2.1.pt
  have HX : Hid (Below w.heap.size w w7 ∧ w7.heap[w.heap.size]? = some (.cells #[.string g.name, .int .i64 g.day, .slice a0 rs.length c0, (.slice a1 g.crss.length c1), (.slice a2 g.book.stocks.length c2), (.slice a3 g.book.lines.length c3), (.slice a4 g.dffs.length c4), (.slice a5 g.outs.length c5)] 43)) := by rw [HR.out]; exact ⟨H7.out.1, H7.out.2.2⟩
  clear x0 x1 x2 x3 x4 x5 x6 x7 H7
  go_wp2_with fail
  try rw [← HR.out]
  go_loopw [3] (fun i wr => ∃ k : Nat, i = .int .i64 (k : Int) ∧ k ≤ rs.length ∧ Below w7.heap.size w7 wr ∧ ∀ i c, i < k → rs[i]? = some c → OkP rs i c) (fun i _ => rs.length - (intOf i).toNat)
  case atStart => exact ⟨0, rfl, by omega, Below.refl _ _, fun i c hi => by omega⟩
  case round =>
    obtain ⟨k, rfl, hk, hb, hok⟩ := hrel
    have HI : Hid (Below w7.heap.size w7 wr ∧ ∀ i c, i < k → rs[i]? = some c → OkP rs i c) := ⟨hb, hok⟩
    have hbk := (hb.block _ (Array.getElem?_eq_some_iff.1 HX.out.2).1).trans HX.out.2
    have l2 := (Array.getElem?_eq_some_iff.1 hbk).1
    obtain ⟨x0, x1, x2, x3, x4, x5, x6, x7⟩ := bx8 hbk
    clear hok hb hbk x0 x1 x3 x4 x5 x6 x7
    by_cases hlt : k < rs.length
    · have hlt' : (k : Int) < (rs.length : Int) := by omega
      obtain ⟨b, o, cap', p, u, e, hs, ⟨q0, q1, q2, q3⟩, hRp⟩ := (HRow.out.below HI.out.1).at hlt
      simp only [Value.slice.injEq, true_and] at e
      obtain ⟨rfl, rfl⟩ := e
      obtain ⟨n0, m0, rfl⟩ := hRp.ls.val
      have HS : Hid (rs[k]? = some p) := hs
      have HRW : Hid (RowPt wr (.slice (some ⟨b, o, none⟩) rs.length c0) rs) := HRow.out.below HI.out.1
      clear hs
      go_upto_region 6 with fail
      have l0 : b < wr.heap.size := cell_lt q0
      have f0 := cell_grown (a := ⟨b, o + k * 4, none⟩) l0 q0
      have f1 := cell_grown (a := ⟨b, o + k * 4 + 1, none⟩) l0 q1
      have f2 := cell_grown (a := ⟨b, o + k * 4 + 2, none⟩) l0 q2
      have f3 := cell_grown (a := ⟨b, o + k * 4 + 3, none⟩) l0 q3
      have f4 := cell_grown (a := ⟨w.heap.size, 2, none⟩) l2 x2
      clear q0 q1 q2 q3 x2
      obtain ⟨x, hx⟩ : ∃ x, x = ptnB p := ⟨_, rfl⟩
      have Q1 : ∀ n os, Calls Tryz.prog 49 #[.agg #[.string p.name, .int .i64 p.low, .int .i64 p.next, .slice n0 p.seen.length m0]] (grow (wr.drewN n) os) fun e w' => e = .returned (.bool (ptnB p)) ∧ Grw (grow (wr.drewN n) os) w' := fun n os => ptRight_grows p _ _ (hRp.below (Grw.below ⟨n, os, rfl⟩))
      rw [← hx] at Q1
      have HXX : Hid (x = ptnB p) := hx
      clear hx hRp
      have mixed : Tryz.prog.follows .mixedOrders = true := by kernel_rfl
      obtain ⟨bad, hbad⟩ : ∃ bad : Bool, (bad = true ↔ ¬ OkP rs k p) := by
        by_cases h : OkP rs k p
        · exact ⟨false, by simp [h]⟩
        · exact ⟨true, by simp [h]⟩
      have HD : Hid (bad = true ↔ ¬ OkP rs k p) := hbad
      have HF : Hid (OkP rs k p → bad = false) := fun h => by
        cases bad with
        | false => rfl
        | true => exact absurd h (hbad.1 rfl)
      clear hbad
      go_cut [77] from 44 to 76 (fun t wx => t = .bool bad ∧ Below w7.heap.size w7 wx)
      case first =>
        cases x with
        | false =>
          obtain rfl : bad = true := HD.out.2 fun h => by have h1 := h.ok; have h2 := HXX.out; rw [h1] at h2; cases h2
          refine wp_region_quiet_grown mixed (by kernel_rfl) ?_
          repeat (go_big_quiet_step (first | (go_at_call 49; refine Calls.grown_of (Q1 _ _))))
          refine wpQuiet_nil ?_
          intro _ hw'
          obtain ⟨⟨nq, osq⟩, hw''⟩ := hw'
          subst hw''
          go_wp2_with fail
          go_meet
          exact ⟨rfl, HI.out.1.trans ((Grw.below ⟨nq, osq, rfl⟩).mono HI.out.1.size)⟩
        | true =>
          rcases Nat.eq_zero_or_pos k with k0 | k0
          · obtain rfl : bad = false := HF.out ⟨HXX.out.symm, fun d h => by omega⟩
            have d4 : decide (0 < (k : Int)) = false := by simp; omega
            have d4' : decide (0 < k) = false := by simp; omega
            clear k0
            refine wp_region_quiet_grown mixed (by kernel_rfl) ?_
            repeat (go_big_quiet_step (first | (go_at_call 49; refine Calls.grown_of (Q1 _ _))))
            refine wpQuiet_nil ?_
            intro _ hw'
            obtain ⟨⟨nq, osq⟩, hw''⟩ := hw'
            subst hw''
            go_wp2_with fail
            go_meet
            exact ⟨rfl, HI.out.1.trans ((Grw.below ⟨nq, osq, rfl⟩).mono HI.out.1.size)⟩
          · obtain ⟨j, rfl⟩ : ∃ j, k = j + 1 := ⟨k - 1, by omega⟩
            have d4 : (0 : Int) < ((j + 1 : Nat) : Int) := by omega
            have d5 : (0 : Int) < (j : Int) + 1 := by omega
            have i0 : (0 : Int) ≤ (j : Int) := by omega
            have i2 : (j : Int) < (rs.length : Int) := by omega
            have i3 : IntKind.i64.wrap ((j : Int) + 1 - 1) = (j : Int) := by rw [show (j : Int) + 1 - 1 = (j : Int) by omega]; simp [IntKind.wrap, IntKind.bits, IntKind.signed]; omega
            have i4 : IntKind.i64.wrap (j : Int) = (j : Int) := by simp [IntKind.wrap, IntKind.bits, IntKind.signed]; omega
            obtain ⟨b2, o2, cap2, d, u2, e, hs, ⟨r0, r1, r2, r3⟩, _⟩ := HRW.out.at (k := j) (by omega)
            simp only [Value.slice.injEq, Option.some.injEq, Addr.mk.injEq, true_and, and_true] at e
            obtain ⟨⟨rfl, rfl⟩, rfl⟩ := e
            have g0 := cell_grown (a := ⟨b, o + j * 4, none⟩) l0 r0
            have HJ : Hid (rs[j]? = some d) := hs
            clear hs r0 r1 r2 r3
            have HR2 : Hid (OkP rs (j + 1) p → Op.bytesLess d.name.toList p.name.toList = true) := fun h => h.rise d (by omega) (by simpa using HJ.out)
            cases xx : Op.bytesLess p.name.toList d.name.toList with
            | true =>
              obtain rfl : bad = true := HD.out.2 fun h => by have := bl_asymm (HR2.out h); rw [xx] at this; cases this
              refine wp_region_quiet_grown mixed (by kernel_rfl) ?_
              repeat (go_big_quiet_step (first | (go_at_call 49; refine Calls.grown_of (Q1 _ _))))
              refine wpQuiet_nil ?_
              intro _ hw'
              obtain ⟨⟨nq, osq⟩, hw''⟩ := hw'
              subst hw''
              go_wp2_with fail
              go_meet
              exact ⟨rfl, HI.out.1.trans ((Grw.below ⟨nq, osq, rfl⟩).mono HI.out.1.size)⟩
            | false =>
              cases yy : (p.name.toList == d.name.toList) with
              | true =>
                obtain rfl : bad = true := HD.out.2 fun h => by have := bl_neG (HR2.out h); rw [yy] at this; cases this
                refine wp_region_quiet_grown mixed (by kernel_rfl) ?_
                repeat (go_big_quiet_step (first | (go_at_call 49; refine Calls.grown_of (Q1 _ _))))
                refine wpQuiet_nil ?_
                intro _ hw'
                obtain ⟨⟨nq, osq⟩, hw''⟩ := hw'
                subst hw''
                go_wp2_with fail
                go_meet
                exact ⟨rfl, HI.out.1.trans ((Grw.below ⟨nq, osq, rfl⟩).mono HI.out.1.size)⟩
              | false =>
                obtain rfl : bad = false := HF.out (ptp_ok HXX.out.symm xx yy fun d2 _ hd => by rw [show j + 1 - 1 = j by omega, HJ.out] at hd; cases hd; rfl)
                refine wp_region_quiet_grown mixed (by kernel_rfl) ?_
                repeat (go_big_quiet_step (first | (go_at_call 49; refine Calls.grown_of (Q1 _ _))))
                refine wpQuiet_nil ?_
                intro _ hw'
                obtain ⟨⟨nq, osq⟩, hw''⟩ := hw'
                subst hw''
                go_wp2_with fail
                go_meet
                exact ⟨rfl, HI.out.1.trans ((Grw.below ⟨nq, osq, rfl⟩).mono HI.out.1.size)⟩
      case rest =>
        obtain ⟨rfl, hb5⟩ := hcut
        rename World => w5
        have H5 : Hid (Below w7.heap.size w7 w5) := hb5
        clear hb5
        cases bad with
        | true =>
          have HN : Hid (gtB g = false) := by rw [HY.out, ← HR.out]; exact ptsB_no fun h => HD.out.1 rfl (h.at_ k _ HS.out)
          go_wp2
          go_ret
          exact ⟨by rw [HN.out]; rfl, HX.out.1.trans (H5.out.mono HX.out.1.size)⟩
        | false =>
          have HN : Hid (OkP rs k p) := by
            by_cases h : OkP rs k p
            · exact h
            · have := HD.out.2 h
              cases this
          go_wp2
          go_roundw
          case rel =>
            refine ⟨k + 1, by go_num, by omega, H5.out, fun i y hi hy => ?_⟩
            rcases Nat.lt_or_ge i k with g | g
            · exact HI.out.2 i y g hy
            · obtain rfl : i = k := by omega
              rw [HS.out] at hy
              cases hy
              exact HN.out
          case measure => simp [intOf]; omega
    · obtain rfl : k = rs.length := by omega
      have HN : Hid (gtB g = true) := by
        rw [HY.out, ← HR.out]
        exact ptsB_yes ⟨by omega, fun i c hc => HI.out.2 i c (List.getElem?_eq_some_iff.1 hc).1 hc⟩
      go_wp2
      go_ret
      exact ⟨by rw [HN.out]; rfl, HX.out.1.trans (HI.out.1.mono HX.out.1.size)⟩
end Go.Proofs.YtamlhbjcokkmeaaGreatDoor
namespace Go.Proofs.YtamlhbjcokkmeaaGreatDoor
open Go.ChangeShapes Go.WideShapes Go.ChangeAt Go.RowKit
/-- Behind the last one of those so far? -/
def latB (outs : List ByteArray) (x : ByteArray) : Bool := match outs.getLast? with | none => true | some l => Op.bytesLess l.toList x.toList
theorem latB_nil (x : ByteArray) : latB [] x = true := rfl
theorem latB_app (os : List ByteArray) (l x : ByteArray) : latB (os ++ [l]) x = Op.bytesLess l.toList x.toList := by simp [latB]
theorem gtQ (x l : ByteArray) : (!(Op.bytesLess x.toList l.toList || x.toList == l.toList)) = Op.bytesLess l.toList x.toList := by
  cases h : Op.bytesLess l.toList x.toList with
  | true => rw [bl_asymm h]; cases e : x.toList == l.toList with | false => rfl | true => rw [beq_iff_eq] at e; rw [e, bl_irrefl] at h; cases h
  | false =>
    cases h2 : Op.bytesLess x.toList l.toList with
    | true => rfl
    | false => rw [bl_tri h2 h]; simp
/-- What is told so far. -/
structure PO (ts outs : List ByteArray) : Prop where
  rise : RiseK (outs.map keyB)
  sub : ∀ x ∈ outs, x ∈ ts
  all : ∀ x ∈ ts, latB outs x = false → x ∈ outs
/-- The least one behind the last among the first k. -/
def NX (ts outs : List ByteArray) (k : Nat) (nx : ByteArray) : Prop :=
  (nx = ⟨#[]⟩ ∧ ∀ (j : Nat) (x : ByteArray), j < k → ts[j]? = some x → latB outs x = false) ∨
  (nx ≠ ⟨#[]⟩ ∧ nx ∈ ts ∧ latB outs nx = true ∧ ∀ (j : Nat) (x : ByteArray), j < k → ts[j]? = some x → latB outs x = true → Op.bytesLess x.toList nx.toList = false)
theorem kb_less (a b : ByteArray) : Op.bytesLess (keyB a) (keyB b) = Op.bytesLess a.toList b.toList := by rw [ByteArray.toList_eq, ByteArray.toList_eq]; rfl
theorem PO.nil (ts : List ByteArray) : PO ts [] := by
  refine ⟨by simp [RiseK], ?_, ?_⟩
  · intro x hx
    cases hx
  · intro x _ h
    cases h
theorem PO.next {ts outs : List ByteArray} {nx : ByteArray} (h : PO ts outs) (h1 : nx ∈ ts) (h2 : latB outs nx = true) (h3 : ∀ x ∈ ts, latB outs x = true → Op.bytesLess x.toList nx.toList = false) : PO ts (outs ++ [nx]) := by
  refine ⟨?_, fun x hx => ?_, fun x hx hl => ?_⟩
  · unfold RiseK
    rw [List.map_append, List.pairwise_append]
    refine ⟨h.rise, by simp, fun a ha b hb => ?_⟩
    simp only [List.map_cons, List.map_nil, List.mem_singleton] at hb
    obtain ⟨x, hx, rfl⟩ := List.mem_map.1 ha
    subst hb
    rw [kb_less]
    rcases List.eq_nil_or_concat outs with e | ⟨os, l, e⟩
    · rw [e] at hx; cases hx
    · rw [List.concat_eq_append] at e
      rw [e, latB_app] at h2
      rw [e] at hx
      rcases List.mem_append.1 hx with hx | hx
      · have hr := h.rise
        unfold RiseK at hr
        rw [e, List.map_append, List.pairwise_append] at hr
        have := hr.2.2 (keyB x) (List.mem_map.2 ⟨x, hx, rfl⟩) (keyB l) (by simp)
        rw [kb_less] at this
        exact bl_trans this h2
      · rw [List.mem_singleton.1 hx]
        exact h2
  · rcases List.mem_append.1 hx with hx | hx
    · exact h.sub x hx
    · rw [List.mem_singleton.1 hx]; exact h1
  · rw [latB_app] at hl
    cases e : latB outs x with
    | false => exact List.mem_append.2 (.inl (h.all x hx e))
    | true =>
      have h4 := h3 x hx e
      have : x = nx := ba_list (bl_tri h4 hl)
      simp [this]
theorem PO.len {ts outs : List ByteArray} (h : PO ts outs) : outs.length ≤ ts.length := by
  have := riseK_len (l := outs.map keyB) (all := ts.map keyB) h.rise fun x hx => by
    obtain ⟨y, hy, rfl⟩ := List.mem_map.1 hx
    exact List.mem_map.2 ⟨y, h.sub y hy, rfl⟩
  simpa using this
theorem PO.done {p : Bk} {outs : List ByteArray} (hb : bkB p = true) (h : PO (allT p) outs) (hn : ∀ x ∈ allT p, latB outs x = false) : itemsT p = outs := by
  refine itemsT_of hb h.rise fun x => ⟨fun hx => ?_, fun hx => ?_⟩
  · obtain ⟨y, hy, rfl⟩ := List.mem_map.1 hx
    exact List.mem_map.2 ⟨y, h.sub y hy, rfl⟩
  · obtain ⟨y, hy, rfl⟩ := List.mem_map.1 hx
    exact List.mem_map.2 ⟨y, h.all y hy (hn y hy), rfl⟩
theorem NX.zero (ts outs : List ByteArray) : NX ts outs 0 ⟨#[]⟩ := .inl ⟨rfl, fun j x hj => by omega⟩
theorem NX.skip {ts outs : List ByteArray} {k : Nat} {nx x : ByteArray} (h : NX ts outs k nx) (hx : ts[k]? = some x) (hs : latB outs x = false ∨ (nx ≠ ⟨#[]⟩ ∧ Op.bytesLess x.toList nx.toList = false)) : NX ts outs (k + 1) nx := by
  rcases h with ⟨h1, h2⟩ | ⟨h0, h1, h2, h3⟩
  · refine .inl ⟨h1, fun j y hj hy => ?_⟩
    rcases Nat.lt_or_ge j k with g | g
    · exact h2 j y g hy
    · obtain rfl : j = k := by omega
      rw [hx] at hy
      cases hy
      rcases hs with hs | hs
      · exact hs
      · exact absurd h1 hs.1
  · refine .inr ⟨h0, h1, h2, fun j y hj hy hl => ?_⟩
    rcases Nat.lt_or_ge j k with g | g
    · exact h3 j y g hy hl
    · obtain rfl : j = k := by omega
      rw [hx] at hy
      cases hy
      rcases hs with hs | hs
      · rw [hs] at hl; cases hl
      · exact hs.2
theorem NX.take {ts outs : List ByteArray} {k : Nat} {nx x : ByteArray} (h : NX ts outs k nx) (hx : ts[k]? = some x) (hne : x ≠ ⟨#[]⟩) (hl : latB outs x = true) (hs : nx = ⟨#[]⟩ ∨ Op.bytesLess x.toList nx.toList = true) : NX ts outs (k + 1) x := by
  refine .inr ⟨hne, List.mem_of_getElem? hx, hl, fun j y hj hy hly => ?_⟩
  rcases Nat.lt_or_ge j k with g | g
  · rcases h with ⟨h1, h2⟩ | ⟨h0, h1, h2, h3⟩
    · rw [h2 j y g hy] at hly; cases hly
    · rcases hs with hs | hs
      · exact absurd hs h0
      · cases e : Op.bytesLess y.toList x.toList with
        | false => rfl
        | true =>
          have := bl_trans e hs
          rw [h3 j y g hy hly] at this
          cases this
  · obtain rfl : j = k := by omega
    rw [hx] at hy
    cases hy
    exact bl_irrefl _
theorem name_ne {t : ByteArray} (h : nameB t = true) : t ≠ ⟨#[]⟩ := fun e => by
  have := (nameB_sizes h).1
  rw [e] at this
  exact absurd this (by decide)
theorem isE {t : ByteArray} : t.toList.isEmpty = true ↔ t = ⟨#[]⟩ := by
  rw [List.isEmpty_iff]
  constructor
  · intro h
    exact ba_list (by rw [h, ByteArray.toList_eq])
  · rintro rfl
    rw [ByteArray.toList_eq]
def slLen : Value → Nat
  | .slice _ n _ => n
  | _ => 0
/-- An append of one text: the row's block, too. -/
theorem wpList_appTy {ops : Array Oper} {rest : List Oper} {o : Oper} {a : Act} {Q : Exit → Act → World → Prop} {W : World} {base c C : Nat} {lv : Value} {ss : List ByteArray} {t : ByteArray} (hw : Region.wanted o (yielded ops a.tmps) = true) (s x : Operand)
    (ho : o.op = .call { callee := .builtin .append, args := #[s, x], argTypes := #[63, 63] })
    (hs' : a.eval s = lv) (hx : a.eval x = .slice (some ⟨c, 0, none⟩) 1 C) (h : W.ownsRow base 9 1 lv ss.length (ss.map Value.string)) (hg : W.cell? ⟨c, 0, none⟩ = some (.string t)) (hl : ss.length + 1 ≤ 2000000) (hbase : base ≤ W.heap.size)
    (k : ∀ g cap w', w'.ownsRow base 9 1 (.slice (some ⟨g, 0, none⟩) (ss.length + 1) cap) (ss.length + 1) ((ss ++ [t]).map Value.string) → W.grownBy w' lv.ownBlock → (lv.ownBlock = some g ∨ g = W.heap.size) → wpList Tryz.prog ops Q rest (a.put o.dst (.slice (some ⟨g, 0, none⟩) (ss.length + 1) cap)) w') : wpList Tryz.prog ops Q (o :: rest) a W := by
  obtain ⟨i0, hi, hz0, hz1, hz2⟩ := info_parts infoTx
  refine BigFrame.wpList_want hw fun _ hK => ?_
  refine wp_append_lies W s x 63 ho base 9 i0 (.string ⟨#[]⟩) 1 16 Tryz.underlying63 hi hz0 hz1 hz2 rfl (by decide) lv ss.length (ss.map Value.string) hs' h ⟨c, 0, none⟩ 1 C [.string t] hx rfl (fun j u hu => ?_) (fun u hu => ?_) (by omega) (by unfold maxLen; omega) (by omega) hbase _ rfl ?_
  · have hj := (List.getElem?_eq_some_iff.1 hu).1
    have hj1 : j < 1 := hj
    obtain rfl : j = 0 := by omega
    simp only [List.getElem?_cons_zero, Option.some.injEq] at hu
    subst hu
    rw [fl_addr]
    exact hg
  · rw [List.mem_singleton.1 hu]
    rfl
  · intro g cap w' hown hgrow h1 _
    refine hK _ _ (k g cap w' ?_ hgrow h1)
    rw [List.map_append]
    exact hown
end Go.Proofs.YtamlhbjcokkmeaaGreatDoor
