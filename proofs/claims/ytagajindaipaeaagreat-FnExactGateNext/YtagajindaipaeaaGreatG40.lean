/- Texts of ours put together: GtI. -/
import Derived.Test.YtagajindaipaeaaGreatG36
import Derived.Test.YtagajindaipaeaaGreatG39
import Derived.Test.YtagajindaipaeaaGreatG23
import Derived.Laws.Cover1
namespace Go.Proofs.YtagajindaipaeaaGreat
open Go.ChangeShapes Go.WideShapes Go.ChangeAt Go.RowKit
theorem bx4P {W : World} {b t : Nat} {x0 x1 x2 x3 : Value} (h : W.heap[b]? = some (.cells #[x0, x1, x2, x3] t)) : W.cell? ⟨b, 0, none⟩ = some x0 ∧ W.cell? ⟨b, 1, none⟩ = some x1 ∧ W.cell? ⟨b, 2, none⟩ = some x2 ∧ W.cell? ⟨b, 3, none⟩ = some x3 := by
  refine ⟨?_, ?_, ?_, ?_⟩ <;> simp [World.cell?, h]
set_option maxHeartbeats 4000000 in
theorem partnersRight_any (v : Value) (ps : List Ptn) (w : World) (h : RowPt w v ps) : Calls Tryz.prog 85 #[v] w fun e w' => e = .returned (.bool (ptsB ps)) ∧ Below w.heap.size w w' := by
  have hlen := h.len
  obtain ⟨A, Cp, rfl⟩ := h.val
  have H0 : Hid (RowPt w (.slice A ps.length Cp) ps) := h
  clear h
  go_enter Tryz.func85, Tryz.ntmps85
  by_cases hl : 20 < ps.length
  · have hl' : (20 : Int) < (ps.length : Int) := by omega
    have HN : Hid (ptsB ps = false) := ptsB_no fun h => by have := h.len; omega
    go_wp2
    go_ret
    exact ⟨by rw [HN.out]; rfl, Below.refl _ _⟩
  have hl' : ¬ (20 : Int) < (ps.length : Int) := by omega
  go_wp2_with fail
  go_loopw [3, 11] (fun l i wr => ∃ (k : Nat) (s : ByteArray), l = .string s ∧ i = .int .i64 (k : Int) ∧ k ≤ ps.length ∧ Below w.heap.size w wr ∧ (k = 0 → s = ⟨#[]⟩) ∧ (∀ d, 0 < k → ps[k - 1]? = some d → d.name = s) ∧ ∀ i c, i < k → ps[i]? = some c → OkP ps i c) (fun _ i _ => ps.length - (intOf i).toNat)
  case atStart => exact ⟨0, ⟨#[]⟩, rfl, rfl, by omega, Below.refl _ _, fun _ => rfl, fun d h => by omega, fun i c hi => by omega⟩
  case round =>
    obtain ⟨k, s, rfl, rfl, hk, hb, hs0, hs1, hok⟩ := hrel
    have HI : Hid (Below w.heap.size w wr ∧ (k = 0 → s = ⟨#[]⟩) ∧ (∀ d, 0 < k → ps[k - 1]? = some d → d.name = s) ∧ ∀ i c, i < k → ps[i]? = some c → OkP ps i c) := ⟨hb, hs0, hs1, hok⟩
    clear hok hb hs0 hs1
    by_cases hlt : k < ps.length
    · have hlt' : (k : Int) < (ps.length : Int) := by omega
      obtain ⟨b, o, cap', p, u, e, hs, ⟨q0, q1, q2, q3⟩, hR⟩ := (H0.out.below HI.out.1).at hlt
      simp only [Value.slice.injEq, true_and] at e
      obtain ⟨rfl, rfl⟩ := e
      obtain ⟨n0, c0, rfl⟩ := hR.ls.val
      obtain ⟨W1, hW1⟩ : ∃ W1, wr.alloc (.cells #[.string p.name, .int .i64 p.low, .int .i64 p.next, .slice n0 p.seen.length c0] 70) = W1 := ⟨_, rfl⟩
      have hb1 : Below wr.heap.size wr W1 := by rw [← hW1]; exact (Below.refl _ _).alloc (Nat.le_refl _) _
      have hx1 : W1.heap[wr.heap.size]? = some (.cells #[.string p.name, .int .i64 p.low, .int .i64 p.next, .slice n0 p.seen.length c0] 70) := by rw [← hW1]; exact World.alloc_heap_new _ _
      obtain ⟨S, hS⟩ : ∃ S, S = wr.heap.size := ⟨_, rfl⟩
      rw [← hS] at hx1
      have HS : Hid (ps[k]? = some p ∧ RPt W1 (.slice n0 p.seen.length c0) p ∧ Below w.heap.size w W1 ∧ W1.heap[S]? = some (.cells #[.string p.name, .int .i64 p.low, .int .i64 p.next, .slice n0 p.seen.length c0] 70)) := ⟨hs, hR.below hb1, HI.out.1.trans (hb1.mono HI.out.1.size), hx1⟩
      have HW : Hid (wr.alloc (.cells #[.string p.name, .int .i64 p.low, .int .i64 p.next, .slice n0 p.seen.length c0] 70) = W1 ∧ S = wr.heap.size) := ⟨hW1, hS⟩
      clear hs hR hb1 hx1 hW1 hS
      go_upto_region 7 with fail
      try rw [HW.out.1]
      try rw [← HW.out.2]
      clear HW q0 q1 q2 q3
      obtain ⟨x0, x1, x2, x3⟩ := bx4P HS.out.2.2.2
      go_wp2_with fail
      refine (ptRight_impl p _ _ HS.out.2.1).mono ?_
      rintro e w2 ⟨rfl, hb2⟩
      have H2 : Hid (ps[k]? = some p ∧ Below w.heap.size w w2) := ⟨HS.out.1, HS.out.2.2.1.trans (hb2.mono HS.out.2.2.1.size)⟩
      have hx2 := (hb2.block _ (Array.getElem?_eq_some_iff.1 HS.out.2.2.2).1).trans HS.out.2.2.2
      clear x0 x1 x2 x3
      obtain ⟨x0, x1, x2, x3⟩ := bx4P hx2
      clear hb2 hx2 HS
      obtain ⟨y, hy⟩ : ∃ y, y = ptnB p := ⟨_, rfl⟩
      have HY : Hid (y = ptnB p) := hy
      rw [← hy]
      clear hy
      cases y with
      | false =>
        have HN : Hid (ptsB ps = false) := ptsB_no fun h => by
          have h1 := (h.at_ k _ H2.out.1).ok
          rw [← HY.out] at h1
          cases h1
        go_wp2
        go_ret
        exact ⟨by rw [HN.out]; rfl, H2.out.2⟩
      | true =>
        cases x : Op.bytesLess p.name.toList s.toList
        case true =>
          have HN : Hid (ptsB ps = false) := ptsB_no fun h => by
            have := bl_asymm (ptp_lt (h.at_ k _ H2.out.1) hk HI.out.2.1 HI.out.2.2.1)
            rw [x] at this
            cases this
          go_wp2
          go_ret
          exact ⟨by rw [HN.out]; rfl, H2.out.2⟩
        cases y : (p.name.toList == s.toList)
        case true =>
          have HN : Hid (ptsB ps = false) := ptsB_no fun h => by
            have := bl_neG (ptp_lt (h.at_ k _ H2.out.1) hk HI.out.2.1 HI.out.2.2.1)
            rw [y] at this
            cases this
          go_wp2
          go_ret
          exact ⟨by rw [HN.out]; rfl, H2.out.2⟩
        have HN : Hid (OkP ps k p) := ptp_ok HY.out.symm x y HI.out.2.2.1
        go_wp2
        go_roundw
        case rel =>
          refine ⟨k + 1, p.name, rfl, by go_num, by omega, H2.out.2, fun h => by omega, fun d _ hd => ?_, fun i y hi hy => ?_⟩
          · rw [show k + 1 - 1 = k by omega, H2.out.1] at hd
            cases hd
            rfl
          · rcases Nat.lt_or_ge i k with g | g
            · exact HI.out.2.2.2 i y g hy
            · obtain rfl : i = k := by omega
              rw [H2.out.1] at hy
              cases hy
              exact HN.out
        case measure => simp [intOf]; omega
    · obtain rfl : k = ps.length := by omega
      have HN : Hid (ptsB ps = true) := ptsB_yes ⟨by omega, fun i c hc => HI.out.2.2.2 i c (List.getElem?_eq_some_iff.1 hc).1 hc⟩
      go_wp2
      go_ret
      exact ⟨by rw [HN.out]; rfl, HI.out.1⟩
set_option maxHeartbeats 4000000 in
theorem gateRight_impl (g : Gat) (up uc us ul ud uo : Value) (w : World) (h : RGt w up uc us ul ud uo g) : Calls Tryz.prog 39 #[.agg #[.string g.name, .int .i64 g.day, up, uc, us, ul, ud, uo]] w fun e w' => e = .returned (.bool (gtB g)) ∧ Below w.heap.size w w' := by
  obtain ⟨a0, c0, a1, c1, a2, c2, a3, c3, a4, c4, a5, c5, rfl, rfl, rfl, rfl, rfl, rfl⟩ := h.val
  have hld := h.df.len
  obtain ⟨W0, hW0⟩ : ∃ W0, w.alloc (.cells #[.string g.name, .int .i64 g.day, (.slice a0 g.ptns.length c0), (.slice a1 g.crss.length c1), (.slice a2 g.book.stocks.length c2), (.slice a3 g.book.lines.length c3), (.slice a4 g.dffs.length c4), (.slice a5 g.outs.length c5)] 42) = W0 := ⟨_, rfl⟩
  have hb0 : Below w.heap.size w W0 := by rw [← hW0]; exact (Below.refl _ _).alloc (Nat.le_refl _) _
  have hx0 : W0.heap[w.heap.size]? = some (.cells #[.string g.name, .int .i64 g.day, (.slice a0 g.ptns.length c0), (.slice a1 g.crss.length c1), (.slice a2 g.book.stocks.length c2), (.slice a3 g.book.lines.length c3), (.slice a4 g.dffs.length c4), (.slice a5 g.outs.length c5)] 42) := by rw [← hW0]; exact World.alloc_heap_new _ _
  have H0 : Hid (Below w.heap.size w W0 ∧ RGt W0 (.slice a0 g.ptns.length c0) (.slice a1 g.crss.length c1) (.slice a2 g.book.stocks.length c2) (.slice a3 g.book.lines.length c3) (.slice a4 g.dffs.length c4) (.slice a5 g.outs.length c5) g ∧ W0.heap[w.heap.size]? = some (.cells #[.string g.name, .int .i64 g.day, (.slice a0 g.ptns.length c0), (.slice a1 g.crss.length c1), (.slice a2 g.book.stocks.length c2), (.slice a3 g.book.lines.length c3), (.slice a4 g.dffs.length c4), (.slice a5 g.outs.length c5)] 42)) := ⟨hb0, h.below hb0, hx0⟩
  clear h hb0 hx0
  obtain ⟨y1, h1⟩ : ∃ y, y = nameB g.name := ⟨_, rfl⟩
  obtain ⟨y2, h2⟩ : ∃ y, y = dayB g.day := ⟨_, rfl⟩
  obtain ⟨y3, h3⟩ : ∃ y, y = ptsB g.ptns := ⟨_, rfl⟩
  obtain ⟨y4, h4⟩ : ∃ y, y = rightB g.crss := ⟨_, rfl⟩
  obtain ⟨y5, h5⟩ : ∃ y, y = bkB g.book := ⟨_, rfl⟩
  obtain ⟨y7, h7⟩ : ∃ y, y = ousB g.outs := ⟨_, rfl⟩
  have HZ : Hid (gtB g = (y1 && (y2 && (y3 && (y4 && (y5 && (dfB g && y7))))))) := by rw [h1, h2, h3, h4, h5, h7]; rfl
  have Q1 := isName_any g.name
  have Q2 := isDay_any g.day
  have Q3 := fun W h => partnersRight_any (.slice a0 g.ptns.length c0) g.ptns W h
  have Q4 := fun W h => crossRight_impl (.slice a1 g.crss.length c1) g.crss W h
  have Q5 := fun W h => bookRight_impl g.book (.slice a2 g.book.stocks.length c2) (.slice a3 g.book.lines.length c3) W h
  have Q7 := fun W h => outboxRight_impl (.slice a5 g.outs.length c5) g.outs W h
  rw [← h1] at Q1
  rw [← h2] at Q2
  rw [← h3] at Q3
  rw [← h4] at Q4
  rw [← h5] at Q5
  rw [← h7] at Q7
  clear h1 h2 h3 h4 h5 h7
  go_enter Tryz.func39, Tryz.ntmps39
  go_upto_region 1 with fail
  try rw [hW0]
  clear hW0
  obtain ⟨x0, x1, x2, x3, x4, x5, x6, x7⟩ := bx8 H0.out.2.2
  go_wp2_with fail
  refine (Q1 _).mono ?_
  rintro e w1 ⟨rfl, rfl⟩
  cases y1
  · go_wp2
    go_ret
    exact ⟨by rw [HZ.out]; simp, H0.out.1⟩
  go_wp2_with fail
  refine (Q2 _).mono ?_
  rintro e w1 ⟨rfl, rfl⟩
  cases y2
  · go_wp2
    go_ret
    exact ⟨by rw [HZ.out]; simp, H0.out.1⟩
  go_wp2_with fail
  refine (Q3 _ H0.out.2.1.pt).mono ?_
  rintro e w3 ⟨rfl, hb⟩
  have H3 : Hid (Below w.heap.size w w3 ∧ RGt w3 (.slice a0 g.ptns.length c0) (.slice a1 g.crss.length c1) (.slice a2 g.book.stocks.length c2) (.slice a3 g.book.lines.length c3) (.slice a4 g.dffs.length c4) (.slice a5 g.outs.length c5) g ∧ w3.heap[w.heap.size]? = some (.cells #[.string g.name, .int .i64 g.day, (.slice a0 g.ptns.length c0), (.slice a1 g.crss.length c1), (.slice a2 g.book.stocks.length c2), (.slice a3 g.book.lines.length c3), (.slice a4 g.dffs.length c4), (.slice a5 g.outs.length c5)] 42)) := ⟨H0.out.1.trans (hb.mono H0.out.1.size), H0.out.2.1.below hb, (hb.block _ (Array.getElem?_eq_some_iff.1 H0.out.2.2).1).trans H0.out.2.2⟩
  clear hb x0 x1 x2 x3 x4 x5 x6 x7 H0
  obtain ⟨x0, x1, x2, x3, x4, x5, x6, x7⟩ := bx8 H3.out.2.2
  cases y3
  · go_wp2
    go_ret
    exact ⟨by rw [HZ.out]; simp, H3.out.1⟩
  go_wp2_with fail
  refine (Q4 _ H3.out.2.1.cs).mono ?_
  rintro e w4 ⟨rfl, hb⟩
  have H4 : Hid (Below w.heap.size w w4 ∧ RGt w4 (.slice a0 g.ptns.length c0) (.slice a1 g.crss.length c1) (.slice a2 g.book.stocks.length c2) (.slice a3 g.book.lines.length c3) (.slice a4 g.dffs.length c4) (.slice a5 g.outs.length c5) g ∧ w4.heap[w.heap.size]? = some (.cells #[.string g.name, .int .i64 g.day, (.slice a0 g.ptns.length c0), (.slice a1 g.crss.length c1), (.slice a2 g.book.stocks.length c2), (.slice a3 g.book.lines.length c3), (.slice a4 g.dffs.length c4), (.slice a5 g.outs.length c5)] 42)) := ⟨H3.out.1.trans (hb.mono H3.out.1.size), H3.out.2.1.below hb, (hb.block _ (Array.getElem?_eq_some_iff.1 H3.out.2.2).1).trans H3.out.2.2⟩
  clear hb x0 x1 x2 x3 x4 x5 x6 x7 H3
  obtain ⟨x0, x1, x2, x3, x4, x5, x6, x7⟩ := bx8 H4.out.2.2
  cases y4
  · go_wp2
    go_ret
    exact ⟨by rw [HZ.out]; simp, H4.out.1⟩
  go_wp2_with fail
  refine (Q5 _ H4.out.2.1.bk).mono ?_
  rintro e w5 ⟨rfl, hb⟩
  have H5 : Hid (Below w.heap.size w w5 ∧ RGt w5 (.slice a0 g.ptns.length c0) (.slice a1 g.crss.length c1) (.slice a2 g.book.stocks.length c2) (.slice a3 g.book.lines.length c3) (.slice a4 g.dffs.length c4) (.slice a5 g.outs.length c5) g ∧ w5.heap[w.heap.size]? = some (.cells #[.string g.name, .int .i64 g.day, (.slice a0 g.ptns.length c0), (.slice a1 g.crss.length c1), (.slice a2 g.book.stocks.length c2), (.slice a3 g.book.lines.length c3), (.slice a4 g.dffs.length c4), (.slice a5 g.outs.length c5)] 42)) := ⟨H4.out.1.trans (hb.mono H4.out.1.size), H4.out.2.1.below hb, (hb.block _ (Array.getElem?_eq_some_iff.1 H4.out.2.2).1).trans H4.out.2.2⟩
  clear hb x0 x1 x2 x3 x4 x5 x6 x7 H4
  obtain ⟨x0, x1, x2, x3, x4, x5, x6, x7⟩ := bx8 H5.out.2.2
  cases y5
  · go_wp2
    go_ret
    exact ⟨by rw [HZ.out]; simp, H5.out.1⟩
  by_cases hd : g.dffs.length ≤ 200
  case neg =>
    have hd' : ¬ (g.dffs.length : Int) ≤ 200 := by omega
    have HD : Hid (dfB g = false) := decide_eq_false hd
    go_wp2
    go_ret
    exact ⟨by rw [HZ.out, HD.out]; simp, H5.out.1⟩
  have hd' : (g.dffs.length : Int) ≤ 200 := by omega
  have HD : Hid (dfB g = true) := decide_eq_true hd
  go_wp2_with fail
  refine (Q7 _ H5.out.2.1.ou).mono ?_
  rintro e w7 ⟨rfl, hb⟩
  have H7 : Hid (Below w.heap.size w w7 ∧ RGt w7 (.slice a0 g.ptns.length c0) (.slice a1 g.crss.length c1) (.slice a2 g.book.stocks.length c2) (.slice a3 g.book.lines.length c3) (.slice a4 g.dffs.length c4) (.slice a5 g.outs.length c5) g ∧ w7.heap[w.heap.size]? = some (.cells #[.string g.name, .int .i64 g.day, (.slice a0 g.ptns.length c0), (.slice a1 g.crss.length c1), (.slice a2 g.book.stocks.length c2), (.slice a3 g.book.lines.length c3), (.slice a4 g.dffs.length c4), (.slice a5 g.outs.length c5)] 42)) := ⟨H5.out.1.trans (hb.mono H5.out.1.size), H5.out.2.1.below hb, (hb.block _ (Array.getElem?_eq_some_iff.1 H5.out.2.2).1).trans H5.out.2.2⟩
  clear hb x0 x1 x2 x3 x4 x5 x6 x7 H5
  go_wp2
  go_ret
  exact ⟨by rw [HZ.out, HD.out]; cases y7 <;> rfl, H7.out.1⟩
end Go.Proofs.YtagajindaipaeaaGreat
