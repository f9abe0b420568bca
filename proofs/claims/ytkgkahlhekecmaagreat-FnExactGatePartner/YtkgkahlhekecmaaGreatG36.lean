/- Texts of ours put together: GtI, GpI, GpF. -/
import Derived.Test.YtkgkahlhekecmaaGreatG28
import Derived.Test.YtkgkahlhekecmaaGreatG32
import Derived.Test.YtkgkahlhekecmaaGreatG35
import Derived.Test.YtkgkahlhekecmaaGreatG20
import Derived.Laws.Cover1
import Derived.Test.YtkgkahlhekecmaaGreatG17
import Derived.Test.YtkgkahlhekecmaaGreatG18
import Derived.Deep.RegionHeld3
namespace Go.Proofs.YtkgkahlhekecmaaGreat
open Go.ChangeShapes Go.WideShapes Go.ChangeAt Go.RowKit
theorem bx4P {W : World} {b t : Nat} {x0 x1 x2 x3 : Value} (h : W.heap[b]? = some (.cells #[x0, x1, x2, x3] t)) : W.cell? ⟨b, 0, none⟩ = some x0 ∧ W.cell? ⟨b, 1, none⟩ = some x1 ∧ W.cell? ⟨b, 2, none⟩ = some x2 ∧ W.cell? ⟨b, 3, none⟩ = some x3 := by
  refine ⟨?_, ?_, ?_, ?_⟩ <;> simp [World.cell?, h]
set_option maxHeartbeats 4000000 in
theorem partnersRight_any (v : Value) (ps : List Ptn) (w : World) (h : RowPt w v ps) : Calls Tryz.prog 63 #[v] w fun e w' => e = .returned (.bool (ptsB ps)) ∧ Below w.heap.size w w' := by
  have hlen := h.len
  obtain ⟨A, Cp, rfl⟩ := h.val
  have H0 : Hid (RowPt w (.slice A ps.length Cp) ps) := h
  clear h
  go_enter Tryz.func63, Tryz.ntmps63
  by_cases hl : 20 < ps.length
  · have hl' : (20 : Int) < (ps.length : Int) := by omega
    have HN : Hid (ptsB ps = false) := ptsB_no fun h => by have := h.len; omega
    go_wp2
    go_ret
    exact ⟨by rw [HN.out]; rfl, Below.refl _ _⟩
  have hl' : ¬ (20 : Int) < (ps.length : Int) := by omega
  go_wp2_with fail
  go_loopw [3, 11] (fun l i wr => ∃ (k : Nat) (s : ByteArray), l = .string s ∧ i = .int .i64 (k : Int) ∧ k ≤ ps.length ∧ Below w.heap.size w wr ∧ (k = 0 → s = ⟨#[]⟩) ∧ (∀ d, 0 < k → ps[k - 1]? = some d → d.name = s) ∧ ∀ i c, i < k → ps[i]? = some c → OkP ps i c) (fun _ i _ => ps.length - (intOf i).toNat)
  case atStart => exact ⟨0, ⟨#[]⟩, rfl, rfl, by omega, Below.refl _ _, fun _ => rfl, fun d h => by omega, fun i c hi => by omega⟩
  case round =>
    obtain ⟨k, s, rfl, rfl, hk, hb, hs0, hs1, hok⟩ := hrel
    have HI : Hid (Below w.heap.size w wr ∧ (k = 0 → s = ⟨#[]⟩) ∧ (∀ d, 0 < k → ps[k - 1]? = some d → d.name = s) ∧ ∀ i c, i < k → ps[i]? = some c → OkP ps i c) := ⟨hb, hs0, hs1, hok⟩
    clear hok hb hs0 hs1
    by_cases hlt : k < ps.length
    · have hlt' : (k : Int) < (ps.length : Int) := by omega
      obtain ⟨b, o, cap', p, u, e, hs, ⟨q0, q1, q2, q3⟩, hR⟩ := (H0.out.below HI.out.1).at hlt
      simp only [Value.slice.injEq, true_and] at e
      obtain ⟨rfl, rfl⟩ := e
      obtain ⟨n0, c0, rfl⟩ := hR.ls.val
      obtain ⟨W1, hW1⟩ : ∃ W1, wr.alloc (.cells #[.string p.name, .int .i64 p.low, .int .i64 p.next, .slice n0 p.seen.length c0] 63) = W1 := ⟨_, rfl⟩
      have hb1 : Below wr.heap.size wr W1 := by rw [← hW1]; exact (Below.refl _ _).alloc (Nat.le_refl _) _
      have hx1 : W1.heap[wr.heap.size]? = some (.cells #[.string p.name, .int .i64 p.low, .int .i64 p.next, .slice n0 p.seen.length c0] 63) := by rw [← hW1]; exact World.alloc_heap_new _ _
      obtain ⟨S, hS⟩ : ∃ S, S = wr.heap.size := ⟨_, rfl⟩
      rw [← hS] at hx1
      have HS : Hid (ps[k]? = some p ∧ RPt W1 (.slice n0 p.seen.length c0) p ∧ Below w.heap.size w W1 ∧ W1.heap[S]? = some (.cells #[.string p.name, .int .i64 p.low, .int .i64 p.next, .slice n0 p.seen.length c0] 63)) := ⟨hs, hR.below hb1, HI.out.1.trans (hb1.mono HI.out.1.size), hx1⟩
      have HW : Hid (wr.alloc (.cells #[.string p.name, .int .i64 p.low, .int .i64 p.next, .slice n0 p.seen.length c0] 63) = W1 ∧ S = wr.heap.size) := ⟨hW1, hS⟩
      clear hs hR hb1 hx1 hW1 hS
      go_upto_region 7 with fail
      try rw [HW.out.1]
      try rw [← HW.out.2]
      clear HW q0 q1 q2 q3
      obtain ⟨x0, x1, x2, x3⟩ := bx4P HS.out.2.2.2
      go_wp2_with fail
      refine (ptRight_impl p _ _ HS.out.2.1).mono ?_
      rintro e w2 ⟨rfl, hb2⟩
      have H2 : Hid (ps[k]? = some p ∧ Below w.heap.size w w2) := ⟨HS.out.1, HS.out.2.2.1.trans (hb2.mono HS.out.2.2.1.size)⟩
      have hx2 := (hb2.block _ (Array.getElem?_eq_some_iff.1 HS.out.2.2.2).1).trans HS.out.2.2.2
      clear x0 x1 x2 x3
      obtain ⟨x0, x1, x2, x3⟩ := bx4P hx2
      clear hb2 hx2 HS
      obtain ⟨y, hy⟩ : ∃ y, y = ptnB p := ⟨_, rfl⟩
      have HY : Hid (y = ptnB p) := hy
      rw [← hy]
      clear hy
      cases y with
      | false =>
        have HN : Hid (ptsB ps = false) := ptsB_no fun h => by
          have h1 := (h.at_ k _ H2.out.1).ok
          rw [← HY.out] at h1
          cases h1
        go_wp2
        go_ret
        exact ⟨by rw [HN.out]; rfl, H2.out.2⟩
      | true =>
        cases x : Op.bytesLess p.name.toList s.toList
        case true =>
          have HN : Hid (ptsB ps = false) := ptsB_no fun h => by
            have := bl_asymm (ptp_lt (h.at_ k _ H2.out.1) hk HI.out.2.1 HI.out.2.2.1)
            rw [x] at this
            cases this
          go_wp2
          go_ret
          exact ⟨by rw [HN.out]; rfl, H2.out.2⟩
        cases y : (p.name.toList == s.toList)
        case true =>
          have HN : Hid (ptsB ps = false) := ptsB_no fun h => by
            have := bl_neG (ptp_lt (h.at_ k _ H2.out.1) hk HI.out.2.1 HI.out.2.2.1)
            rw [y] at this
            cases this
          go_wp2
          go_ret
          exact ⟨by rw [HN.out]; rfl, H2.out.2⟩
        have HN : Hid (OkP ps k p) := ptp_ok HY.out.symm x y HI.out.2.2.1
        go_wp2
        go_roundw
        case rel =>
          refine ⟨k + 1, p.name, rfl, by go_num, by omega, H2.out.2, fun h => by omega, fun d _ hd => ?_, fun i y hi hy => ?_⟩
          · rw [show k + 1 - 1 = k by omega, H2.out.1] at hd
            cases hd
            rfl
          · rcases Nat.lt_or_ge i k with g | g
            · exact HI.out.2.2.2 i y g hy
            · obtain rfl : i = k := by omega
              rw [H2.out.1] at hy
              cases hy
              exact HN.out
        case measure => simp [intOf]; omega
    · obtain rfl : k = ps.length := by omega
      have HN : Hid (ptsB ps = true) := ptsB_yes ⟨by omega, fun i c hc => HI.out.2.2.2 i c (List.getElem?_eq_some_iff.1 hc).1 hc⟩
      go_wp2
      go_ret
      exact ⟨by rw [HN.out]; rfl, HI.out.1⟩
set_option maxHeartbeats 4000000 in
theorem gateRight_impl (g : Gat) (up uc us ul ud uo : Value) (w : World) (h : RGt w up uc us ul ud uo g) : Calls Tryz.prog 29 #[.agg #[.string g.name, .int .i64 g.day, up, uc, us, ul, ud, uo]] w fun e w' => e = .returned (.bool (gtB g)) ∧ Below w.heap.size w w' := by
  obtain ⟨a0, c0, a1, c1, a2, c2, a3, c3, a4, c4, a5, c5, rfl, rfl, rfl, rfl, rfl, rfl⟩ := h.val
  have hld := h.df.len
  obtain ⟨W0, hW0⟩ : ∃ W0, w.alloc (.cells #[.string g.name, .int .i64 g.day, (.slice a0 g.ptns.length c0), (.slice a1 g.crss.length c1), (.slice a2 g.book.stocks.length c2), (.slice a3 g.book.lines.length c3), (.slice a4 g.dffs.length c4), (.slice a5 g.outs.length c5)] 42) = W0 := ⟨_, rfl⟩
  have hb0 : Below w.heap.size w W0 := by rw [← hW0]; exact (Below.refl _ _).alloc (Nat.le_refl _) _
  have hx0 : W0.heap[w.heap.size]? = some (.cells #[.string g.name, .int .i64 g.day, (.slice a0 g.ptns.length c0), (.slice a1 g.crss.length c1), (.slice a2 g.book.stocks.length c2), (.slice a3 g.book.lines.length c3), (.slice a4 g.dffs.length c4), (.slice a5 g.outs.length c5)] 42) := by rw [← hW0]; exact World.alloc_heap_new _ _
  have H0 : Hid (Below w.heap.size w W0 ∧ RGt W0 (.slice a0 g.ptns.length c0) (.slice a1 g.crss.length c1) (.slice a2 g.book.stocks.length c2) (.slice a3 g.book.lines.length c3) (.slice a4 g.dffs.length c4) (.slice a5 g.outs.length c5) g ∧ W0.heap[w.heap.size]? = some (.cells #[.string g.name, .int .i64 g.day, (.slice a0 g.ptns.length c0), (.slice a1 g.crss.length c1), (.slice a2 g.book.stocks.length c2), (.slice a3 g.book.lines.length c3), (.slice a4 g.dffs.length c4), (.slice a5 g.outs.length c5)] 42)) := ⟨hb0, h.below hb0, hx0⟩
  clear h hb0 hx0
  obtain ⟨y1, h1⟩ : ∃ y, y = nameB g.name := ⟨_, rfl⟩
  obtain ⟨y2, h2⟩ : ∃ y, y = dayB g.day := ⟨_, rfl⟩
  obtain ⟨y3, h3⟩ : ∃ y, y = ptsB g.ptns := ⟨_, rfl⟩
  obtain ⟨y4, h4⟩ : ∃ y, y = rightB g.crss := ⟨_, rfl⟩
  obtain ⟨y5, h5⟩ : ∃ y, y = bkB g.book := ⟨_, rfl⟩
  obtain ⟨y7, h7⟩ : ∃ y, y = ousB g.outs := ⟨_, rfl⟩
  have HZ : Hid (gtB g = (y1 && (y2 && (y3 && (y4 && (y5 && (dfB g && y7))))))) := by rw [h1, h2, h3, h4, h5, h7]; rfl
  have Q1 := isName_any g.name
  have Q2 := isDay_any g.day
  have Q3 := fun W h => partnersRight_any (.slice a0 g.ptns.length c0) g.ptns W h
  have Q4 := fun W h => crossRight_impl (.slice a1 g.crss.length c1) g.crss W h
  have Q5 := fun W h => bookRight_impl g.book (.slice a2 g.book.stocks.length c2) (.slice a3 g.book.lines.length c3) W h
  have Q7 := fun W h => outboxRight_impl (.slice a5 g.outs.length c5) g.outs W h
  rw [← h1] at Q1
  rw [← h2] at Q2
  rw [← h3] at Q3
  rw [← h4] at Q4
  rw [← h5] at Q5
  rw [← h7] at Q7
  clear h1 h2 h3 h4 h5 h7
  go_enter Tryz.func29, Tryz.ntmps29
  go_upto_region 1 with fail
  try rw [hW0]
  clear hW0
  obtain ⟨x0, x1, x2, x3, x4, x5, x6, x7⟩ := bx8 H0.out.2.2
  go_wp2_with fail
  refine (Q1 _).mono ?_
  rintro e w1 ⟨rfl, rfl⟩
  cases y1
  · go_wp2
    go_ret
    exact ⟨by rw [HZ.out]; simp, H0.out.1⟩
  go_wp2_with fail
  refine (Q2 _).mono ?_
  rintro e w1 ⟨rfl, rfl⟩
  cases y2
  · go_wp2
    go_ret
    exact ⟨by rw [HZ.out]; simp, H0.out.1⟩
  go_wp2_with fail
  refine (Q3 _ H0.out.2.1.pt).mono ?_
  rintro e w3 ⟨rfl, hb⟩
  have H3 : Hid (Below w.heap.size w w3 ∧ RGt w3 (.slice a0 g.ptns.length c0) (.slice a1 g.crss.length c1) (.slice a2 g.book.stocks.length c2) (.slice a3 g.book.lines.length c3) (.slice a4 g.dffs.length c4) (.slice a5 g.outs.length c5) g ∧ w3.heap[w.heap.size]? = some (.cells #[.string g.name, .int .i64 g.day, (.slice a0 g.ptns.length c0), (.slice a1 g.crss.length c1), (.slice a2 g.book.stocks.length c2), (.slice a3 g.book.lines.length c3), (.slice a4 g.dffs.length c4), (.slice a5 g.outs.length c5)] 42)) := ⟨H0.out.1.trans (hb.mono H0.out.1.size), H0.out.2.1.below hb, (hb.block _ (Array.getElem?_eq_some_iff.1 H0.out.2.2).1).trans H0.out.2.2⟩
  clear hb x0 x1 x2 x3 x4 x5 x6 x7 H0
  obtain ⟨x0, x1, x2, x3, x4, x5, x6, x7⟩ := bx8 H3.out.2.2
  cases y3
  · go_wp2
    go_ret
    exact ⟨by rw [HZ.out]; simp, H3.out.1⟩
  go_wp2_with fail
  refine (Q4 _ H3.out.2.1.cs).mono ?_
  rintro e w4 ⟨rfl, hb⟩
  have H4 : Hid (Below w.heap.size w w4 ∧ RGt w4 (.slice a0 g.ptns.length c0) (.slice a1 g.crss.length c1) (.slice a2 g.book.stocks.length c2) (.slice a3 g.book.lines.length c3) (.slice a4 g.dffs.length c4) (.slice a5 g.outs.length c5) g ∧ w4.heap[w.heap.size]? = some (.cells #[.string g.name, .int .i64 g.day, (.slice a0 g.ptns.length c0), (.slice a1 g.crss.length c1), (.slice a2 g.book.stocks.length c2), (.slice a3 g.book.lines.length c3), (.slice a4 g.dffs.length c4), (.slice a5 g.outs.length c5)] 42)) := ⟨H3.out.1.trans (hb.mono H3.out.1.size), H3.out.2.1.below hb, (hb.block _ (Array.getElem?_eq_some_iff.1 H3.out.2.2).1).trans H3.out.2.2⟩
  clear hb x0 x1 x2 x3 x4 x5 x6 x7 H3
  obtain ⟨x0, x1, x2, x3, x4, x5, x6, x7⟩ := bx8 H4.out.2.2
  cases y4
  · go_wp2
    go_ret
    exact ⟨by rw [HZ.out]; simp, H4.out.1⟩
  go_wp2_with fail
  refine (Q5 _ H4.out.2.1.bk).mono ?_
  rintro e w5 ⟨rfl, hb⟩
  have H5 : Hid (Below w.heap.size w w5 ∧ RGt w5 (.slice a0 g.ptns.length c0) (.slice a1 g.crss.length c1) (.slice a2 g.book.stocks.length c2) (.slice a3 g.book.lines.length c3) (.slice a4 g.dffs.length c4) (.slice a5 g.outs.length c5) g ∧ w5.heap[w.heap.size]? = some (.cells #[.string g.name, .int .i64 g.day, (.slice a0 g.ptns.length c0), (.slice a1 g.crss.length c1), (.slice a2 g.book.stocks.length c2), (.slice a3 g.book.lines.length c3), (.slice a4 g.dffs.length c4), (.slice a5 g.outs.length c5)] 42)) := ⟨H4.out.1.trans (hb.mono H4.out.1.size), H4.out.2.1.below hb, (hb.block _ (Array.getElem?_eq_some_iff.1 H4.out.2.2).1).trans H4.out.2.2⟩
  clear hb x0 x1 x2 x3 x4 x5 x6 x7 H4
  obtain ⟨x0, x1, x2, x3, x4, x5, x6, x7⟩ := bx8 H5.out.2.2
  cases y5
  · go_wp2
    go_ret
    exact ⟨by rw [HZ.out]; simp, H5.out.1⟩
  by_cases hd : g.dffs.length ≤ 200
  case neg =>
    have hd' : ¬ (g.dffs.length : Int) ≤ 200 := by omega
    have HD : Hid (dfB g = false) := decide_eq_false hd
    go_wp2
    go_ret
    exact ⟨by rw [HZ.out, HD.out]; simp, H5.out.1⟩
  have hd' : (g.dffs.length : Int) ≤ 200 := by omega
  have HD : Hid (dfB g = true) := decide_eq_true hd
  go_wp2_with fail
  refine (Q7 _ H5.out.2.1.ou).mono ?_
  rintro e w7 ⟨rfl, hb⟩
  have H7 : Hid (Below w.heap.size w w7 ∧ RGt w7 (.slice a0 g.ptns.length c0) (.slice a1 g.crss.length c1) (.slice a2 g.book.stocks.length c2) (.slice a3 g.book.lines.length c3) (.slice a4 g.dffs.length c4) (.slice a5 g.outs.length c5) g ∧ w7.heap[w.heap.size]? = some (.cells #[.string g.name, .int .i64 g.day, (.slice a0 g.ptns.length c0), (.slice a1 g.crss.length c1), (.slice a2 g.book.stocks.length c2), (.slice a3 g.book.lines.length c3), (.slice a4 g.dffs.length c4), (.slice a5 g.outs.length c5)] 42)) := ⟨H5.out.1.trans (hb.mono H5.out.1.size), H5.out.2.1.below hb, (hb.block _ (Array.getElem?_eq_some_iff.1 H5.out.2.2).1).trans H5.out.2.2⟩
  clear hb x0 x1 x2 x3 x4 x5 x6 x7 H5
  go_wp2
  go_ret
  exact ⟨by rw [HZ.out, HD.out]; cases y7 <;> rfl, H7.out.1⟩
end Go.Proofs.YtkgkahlhekecmaaGreat
namespace Go.Proofs.YtkgkahlhekecmaaGreat
open Go.ChangeShapes Go.WideShapes Go.ChangeAt Go.RowKit
set_option maxRecDepth 20000 in
set_option maxHeartbeats 16000000 in
theorem gatePartner_impl (g : Gat) (up uc us ul ud uo : Value) (t : ByteArray) (w : World) (h : RGt w up uc us ul ud uo g) (hP : BdGt 1048576 g) :
    Calls Tryz.prog 7 #[.agg #[.string g.name, .int .i64 g.day, up, uc, us, ul, ud, uo], .string t] w fun e w' => AnsGo (gpR g t).2 w (gpR g t).1 e w' := by
  obtain ⟨a0, c0, a1, c1, a2, c2, a3, c3, a4, c4, a5, c5, rfl, rfl, rfl, rfl, rfl, rfl⟩ := h.val
  obtain ⟨W0, hW0⟩ : ∃ W0, (w.alloc (.cells #[.string g.name, .int .i64 g.day, (.slice a0 g.ptns.length c0), (.slice a1 g.crss.length c1), (.slice a2 g.book.stocks.length c2), (.slice a3 g.book.lines.length c3), (.slice a4 g.dffs.length c4), (.slice a5 g.outs.length c5)] 42)).alloc (.cells #[.string ⟨#[]⟩, .int .i64 0, .slice none 0 0, .slice none 0 0, .slice none 0 0, .slice none 0 0, .slice none 0 0, .slice none 0 0, .string ⟨#[]⟩, .int .i64 0, .int .i64 0, .int .i64 0, .int .i64 0, .int .i64 0] 44) = W0 := ⟨_, rfl⟩
  have hb0 : Below w.heap.size w W0 := by rw [← hW0]; exact ((Below.refl _ _).alloc (Nat.le_refl _) _).alloc (by simp) _
  obtain ⟨k0, k1⟩ := fl_twoH w (.cells #[.string g.name, .int .i64 g.day, (.slice a0 g.ptns.length c0), (.slice a1 g.crss.length c1), (.slice a2 g.book.stocks.length c2), (.slice a3 g.book.lines.length c3), (.slice a4 g.dffs.length c4), (.slice a5 g.outs.length c5)] 42) (.cells #[.string ⟨#[]⟩, .int .i64 0, .slice none 0 0, .slice none 0 0, .slice none 0 0, .slice none 0 0, .slice none 0 0, .slice none 0 0, .string ⟨#[]⟩, .int .i64 0, .int .i64 0, .int .i64 0, .int .i64 0, .int .i64 0] 44)
  rw [hW0] at k0 k1
  have hs0 : W0.heap.size = w.heap.size + 2 := by rw [← hW0]; simp
  have H0 : Hid (Below w.heap.size w W0 ∧ RGt W0 (.slice a0 g.ptns.length c0) (.slice a1 g.crss.length c1) (.slice a2 g.book.stocks.length c2) (.slice a3 g.book.lines.length c3) (.slice a4 g.dffs.length c4) (.slice a5 g.outs.length c5) g ∧ W0.heap[w.heap.size]? = some (.cells #[.string g.name, .int .i64 g.day, (.slice a0 g.ptns.length c0), (.slice a1 g.crss.length c1), (.slice a2 g.book.stocks.length c2), (.slice a3 g.book.lines.length c3), (.slice a4 g.dffs.length c4), (.slice a5 g.outs.length c5)] 42) ∧ W0.heap[w.heap.size + 1]? = some (.cells #[.string ⟨#[]⟩, .int .i64 0, .slice none 0 0, .slice none 0 0, .slice none 0 0, .slice none 0 0, .slice none 0 0, .slice none 0 0, .string ⟨#[]⟩, .int .i64 0, .int .i64 0, .int .i64 0, .int .i64 0, .int .i64 0] 44) ∧ w.heap.size + 2 ≤ W0.heap.size) := ⟨hb0, h.below hb0, k0, k1, by omega⟩
  have HPP : Hid (BdGt 1048576 g) := hP
  clear h hb0 k0 k1 hs0 hP
  by_cases h20 : 20000 < t.size
  · have h20' : (t.size : Int) > 20000 := by omega
    have HR : Hid (gpR g t = (zG, 2)) := gpR_size h20
    go_enter Tryz.func7, Tryz.ntmps7
    go_upto_region 1 with fail
    try rw [hW0]
    clear hW0
    obtain ⟨r0, r1, r2, r3, r4, r5, r6, r7, r8, r9, r10, r11, r12, r13⟩ := bx14 H0.out.2.2.2.1
    have fr := fz8 H0.out.2.2.2.1
    go_wp2
    obtain ⟨f0, f1, f2, f3, f4, f5, f6, f7, f8, f9, f10, f11, f12, f13⟩ := bx14 (st14 (y0 := (.string ⟨#[]⟩)) (y1 := (.int .i64 0)) (y2 := (.slice none 0 0)) (y3 := (.slice none 0 0)) (y4 := (.slice none 0 0)) (y5 := (.slice none 0 0)) (y6 := (.slice none 0 0)) (y7 := (.slice none 0 0)) (y8 := (.string ⟨#[]⟩)) (y9 := (.int .i64 0)) (y10 := (.int .i64 0)) (y11 := (.int .i64 0)) (y12 := (.int .i64 0)) (y13 := (.int .i64 2)) H0.out.2.2.2.1)
    refine bodyPost_ret (v := .agg #[(.string ⟨#[]⟩), (.int .i64 0), (.slice none 0 0), (.slice none 0 0), (.slice none 0 0), (.slice none 0 0), (.slice none 0 0), (.slice none 0 0), (.string ⟨#[]⟩), (.int .i64 0), (.int .i64 0), (.int .i64 0), (.int .i64 0), (.int .i64 2)]) (by simp [results, Tryz.results7, go_sem, f0, f1, f2, f3, f4, f5, f6, f7, f8, f9, f10, f11, f12, f13]) rfl ?_
    rw [HR.out]
    exact ansGo_zero 2 ((((((((((((((H0.out.1.setCell (Nat.le_succ _) _).setCell (Nat.le_succ _) _).setCell (Nat.le_succ _) _).setCell (Nat.le_succ _) _).setCell (Nat.le_succ _) _).setCell (Nat.le_succ _) _).setCell (Nat.le_succ _) _).setCell (Nat.le_succ _) _).setCell (Nat.le_succ _) _).setCell (Nat.le_succ _) _).setCell (Nat.le_succ _) _).setCell (Nat.le_succ _) _).setCell (Nat.le_succ _) _).setCell (Nat.le_succ _) _)
  have h20' : ¬ (t.size : Int) > 20000 := by omega
  go_enter Tryz.func7, Tryz.ntmps7
  go_upto_region 1 with fail
  try rw [hW0]
  clear hW0
  obtain ⟨x0, x1, x2, x3, x4, x5, x6, x7⟩ := bx8 H0.out.2.2.1
  have Q := fun W h => gateRight_impl g (.slice a0 g.ptns.length c0) (.slice a1 g.crss.length c1) (.slice a2 g.book.stocks.length c2) (.slice a3 g.book.lines.length c3) (.slice a4 g.dffs.length c4) (.slice a5 g.outs.length c5) W h
  obtain ⟨y, hy⟩ : ∃ y, y = gtB g := ⟨_, rfl⟩
  have HY : Hid (y = gtB g) := hy
  rw [← hy] at Q
  have QN := isName_any t
  obtain ⟨z, hz⟩ : ∃ z, z = nameB t := ⟨_, rfl⟩
  have HZ : Hid (z = nameB t) := hz
  rw [← hz] at QN
  clear hy hz
  go_wp2_with fail
  refine (Q _ H0.out.2.1).mono ?_
  rintro e wa ⟨rfl, hb⟩
  have H1 : Hid (Below w.heap.size w wa ∧ RGt wa (.slice a0 g.ptns.length c0) (.slice a1 g.crss.length c1) (.slice a2 g.book.stocks.length c2) (.slice a3 g.book.lines.length c3) (.slice a4 g.dffs.length c4) (.slice a5 g.outs.length c5) g ∧ wa.heap[w.heap.size]? = some (.cells #[.string g.name, .int .i64 g.day, (.slice a0 g.ptns.length c0), (.slice a1 g.crss.length c1), (.slice a2 g.book.stocks.length c2), (.slice a3 g.book.lines.length c3), (.slice a4 g.dffs.length c4), (.slice a5 g.outs.length c5)] 42) ∧ wa.heap[w.heap.size + 1]? = some (.cells #[.string ⟨#[]⟩, .int .i64 0, .slice none 0 0, .slice none 0 0, .slice none 0 0, .slice none 0 0, .slice none 0 0, .slice none 0 0, .string ⟨#[]⟩, .int .i64 0, .int .i64 0, .int .i64 0, .int .i64 0, .int .i64 0] 44) ∧ w.heap.size + 2 ≤ wa.heap.size) := ⟨H0.out.1.trans (hb.mono H0.out.1.size), H0.out.2.1.below hb, (hb.block _ (Array.getElem?_eq_some_iff.1 H0.out.2.2.1).1).trans H0.out.2.2.1, (hb.block _ (Array.getElem?_eq_some_iff.1 H0.out.2.2.2.1).1).trans H0.out.2.2.2.1, Nat.le_trans H0.out.2.2.2.2 hb.size⟩
  clear hb x0 x1 x2 x3 x4 x5 x6 x7 H0 Q
  cases y with
  | false =>
    have HR : Hid (gpR g t = (zG, 1)) := gpR_form h20 (.inl HY.out.symm)
    obtain ⟨r0, r1, r2, r3, r4, r5, r6, r7, r8, r9, r10, r11, r12, r13⟩ := bx14 H1.out.2.2.2.1
    have fr := fz8 H1.out.2.2.2.1
    go_wp2
    obtain ⟨f0, f1, f2, f3, f4, f5, f6, f7, f8, f9, f10, f11, f12, f13⟩ := bx14 (st14 (y0 := (.string ⟨#[]⟩)) (y1 := (.int .i64 0)) (y2 := (.slice none 0 0)) (y3 := (.slice none 0 0)) (y4 := (.slice none 0 0)) (y5 := (.slice none 0 0)) (y6 := (.slice none 0 0)) (y7 := (.slice none 0 0)) (y8 := (.string ⟨#[]⟩)) (y9 := (.int .i64 0)) (y10 := (.int .i64 0)) (y11 := (.int .i64 0)) (y12 := (.int .i64 0)) (y13 := (.int .i64 1)) H1.out.2.2.2.1)
    refine bodyPost_ret (v := .agg #[(.string ⟨#[]⟩), (.int .i64 0), (.slice none 0 0), (.slice none 0 0), (.slice none 0 0), (.slice none 0 0), (.slice none 0 0), (.slice none 0 0), (.string ⟨#[]⟩), (.int .i64 0), (.int .i64 0), (.int .i64 0), (.int .i64 0), (.int .i64 1)]) (by simp [results, Tryz.results7, go_sem, f0, f1, f2, f3, f4, f5, f6, f7, f8, f9, f10, f11, f12, f13]) rfl ?_
    rw [HR.out]
    exact ansGo_zero 1 ((((((((((((((H1.out.1.setCell (Nat.le_succ _) _).setCell (Nat.le_succ _) _).setCell (Nat.le_succ _) _).setCell (Nat.le_succ _) _).setCell (Nat.le_succ _) _).setCell (Nat.le_succ _) _).setCell (Nat.le_succ _) _).setCell (Nat.le_succ _) _).setCell (Nat.le_succ _) _).setCell (Nat.le_succ _) _).setCell (Nat.le_succ _) _).setCell (Nat.le_succ _) _).setCell (Nat.le_succ _) _).setCell (Nat.le_succ _) _)
  | true =>
  go_wp2_with fail
  refine (QN _).mono ?_
  rintro e w1 ⟨rfl, rfl⟩
  cases z with
  | false =>
    have HR : Hid (gpR g t = (zG, 1)) := gpR_form h20 (.inr HZ.out.symm)
    obtain ⟨r0, r1, r2, r3, r4, r5, r6, r7, r8, r9, r10, r11, r12, r13⟩ := bx14 H1.out.2.2.2.1
    have fr := fz8 H1.out.2.2.2.1
    go_wp2
    obtain ⟨f0, f1, f2, f3, f4, f5, f6, f7, f8, f9, f10, f11, f12, f13⟩ := bx14 (st14 (y0 := (.string ⟨#[]⟩)) (y1 := (.int .i64 0)) (y2 := (.slice none 0 0)) (y3 := (.slice none 0 0)) (y4 := (.slice none 0 0)) (y5 := (.slice none 0 0)) (y6 := (.slice none 0 0)) (y7 := (.slice none 0 0)) (y8 := (.string ⟨#[]⟩)) (y9 := (.int .i64 0)) (y10 := (.int .i64 0)) (y11 := (.int .i64 0)) (y12 := (.int .i64 0)) (y13 := (.int .i64 1)) H1.out.2.2.2.1)
    refine bodyPost_ret (v := .agg #[(.string ⟨#[]⟩), (.int .i64 0), (.slice none 0 0), (.slice none 0 0), (.slice none 0 0), (.slice none 0 0), (.slice none 0 0), (.slice none 0 0), (.string ⟨#[]⟩), (.int .i64 0), (.int .i64 0), (.int .i64 0), (.int .i64 0), (.int .i64 1)]) (by simp [results, Tryz.results7, go_sem, f0, f1, f2, f3, f4, f5, f6, f7, f8, f9, f10, f11, f12, f13]) rfl ?_
    rw [HR.out]
    exact ansGo_zero 1 ((((((((((((((H1.out.1.setCell (Nat.le_succ _) _).setCell (Nat.le_succ _) _).setCell (Nat.le_succ _) _).setCell (Nat.le_succ _) _).setCell (Nat.le_succ _) _).setCell (Nat.le_succ _) _).setCell (Nat.le_succ _) _).setCell (Nat.le_succ _) _).setCell (Nat.le_succ _) _).setCell (Nat.le_succ _) _).setCell (Nat.le_succ _) _).setCell (Nat.le_succ _) _).setCell (Nat.le_succ _) _).setCell (Nat.le_succ _) _)
  | true =>
  obtain ⟨x0, x1, x2, x3, x4, x5, x6, x7⟩ := bx8 H1.out.2.2.1
  go_wp2_with fail
  refine (keeperOf_any g _ _ _ _ _ _ _ H1.out.2.1 HPP.out).mono ?_
  rintro e w3 ⟨P0, P1, C0, C1, S0, S1, L0, L1, D0, D1, O0, O1, qs, bc, bs, bl, bd, bo, w2, rfl, rfl, hO, hb⟩
  have hrp : RightP g.ptns := by
    have h := HY.out.symm
    simp only [gtB, Bool.and_eq_true] at h
    exact ptsB_iff.1 h.2.2.1
  have hbb : w1.heap.size ≤ w2.heap.size := hb.size
  have hq1 := hO.qm
  have hbd := bdp HPP.out
  have QA := admit_any g t P0 P1 C0 C1 S0 S1 L0 L1 D0 D1 O0 O1 qs w1.heap.size w2 hO.pt hO.qm hbb hrp.ris hrp.len (fun q hm => by
    have := hbd.2 q.1 (by rw [← hq1]; exact List.mem_map_of_mem hm)
    omega)
  have hx2 := (hb.block _ (Array.getElem?_eq_some_iff.1 H1.out.2.2.2.1).1).trans H1.out.2.2.2.1
  have H2 : Hid (Below w.heap.size w w2 ∧ w2.heap[w.heap.size + 1]? = some (.cells #[.string ⟨#[]⟩, .int .i64 0, .slice none 0 0, .slice none 0 0, .slice none 0 0, .slice none 0 0, .slice none 0 0, .slice none 0 0, .string ⟨#[]⟩, .int .i64 0, .int .i64 0, .int .i64 0, .int .i64 0, .int .i64 0] 44) ∧ w.heap.size + 2 ≤ w1.heap.size ∧ OGt w1.heap.size w2 (.slice P0 qs.length P1) (.slice C0 g.crss.length C1) (.slice S0 g.book.stocks.length S1) (.slice L0 g.book.lines.length L1) (.slice D0 g.dffs.length D1) (.slice O0 g.outs.length O1) g qs bc bs bl bd bo ∧ w1.heap.size ≤ w2.heap.size) := ⟨H1.out.1.trans (hb.mono H1.out.1.size), hx2, H1.out.2.2.2.2, hO, hbb⟩
  have hts : t.size ≤ 1048576 := by omega
  clear hO hb hx2 hbb hq1 hbd hrp x0 x1 x2 x3 x4 x5 x6 x7
  go_wp2_with fail
  refine QA.mono ?_
  rintro e w4 hpost
  clear QA
  rcases hpost with ⟨hh, rfl, hb4⟩ | ⟨hh, hl, rfl, hb4⟩ | ⟨hh, hl, A', C', rfl, ho4, hg4⟩
  · have HR : Hid (gpR g t = (zG, 11)) := gpR_there h20 HY.out.symm HZ.out.symm hh
    have H4 : Hid (Below w.heap.size w w4 ∧ w4.heap[w.heap.size + 1]? = some (.cells #[.string ⟨#[]⟩, .int .i64 0, .slice none 0 0, .slice none 0 0, .slice none 0 0, .slice none 0 0, .slice none 0 0, .slice none 0 0, .string ⟨#[]⟩, .int .i64 0, .int .i64 0, .int .i64 0, .int .i64 0, .int .i64 0] 44)) := ⟨H2.out.1.trans (hb4.mono H2.out.1.size), (hb4.block _ (Array.getElem?_eq_some_iff.1 H2.out.2.1).1).trans H2.out.2.1⟩
    clear hh hb4
    obtain ⟨r0, r1, r2, r3, r4, r5, r6, r7, r8, r9, r10, r11, r12, r13⟩ := bx14 H4.out.2
    have fr := fz8 H4.out.2
    go_wp2
    obtain ⟨f0, f1, f2, f3, f4, f5, f6, f7, f8, f9, f10, f11, f12, f13⟩ := bx14 (st14 (y0 := (.string ⟨#[]⟩)) (y1 := (.int .i64 0)) (y2 := (.slice none 0 0)) (y3 := (.slice none 0 0)) (y4 := (.slice none 0 0)) (y5 := (.slice none 0 0)) (y6 := (.slice none 0 0)) (y7 := (.slice none 0 0)) (y8 := (.string ⟨#[]⟩)) (y9 := (.int .i64 0)) (y10 := (.int .i64 0)) (y11 := (.int .i64 0)) (y12 := (.int .i64 0)) (y13 := (.int .i64 11)) H4.out.2)
    refine bodyPost_ret (v := .agg #[(.string ⟨#[]⟩), (.int .i64 0), (.slice none 0 0), (.slice none 0 0), (.slice none 0 0), (.slice none 0 0), (.slice none 0 0), (.slice none 0 0), (.string ⟨#[]⟩), (.int .i64 0), (.int .i64 0), (.int .i64 0), (.int .i64 0), (.int .i64 11)]) (by simp [results, Tryz.results7, go_sem, f0, f1, f2, f3, f4, f5, f6, f7, f8, f9, f10, f11, f12, f13]) rfl ?_
    rw [HR.out]
    exact ansGo_zero 11 ((((((((((((((H4.out.1.setCell (Nat.le_succ _) _).setCell (Nat.le_succ _) _).setCell (Nat.le_succ _) _).setCell (Nat.le_succ _) _).setCell (Nat.le_succ _) _).setCell (Nat.le_succ _) _).setCell (Nat.le_succ _) _).setCell (Nat.le_succ _) _).setCell (Nat.le_succ _) _).setCell (Nat.le_succ _) _).setCell (Nat.le_succ _) _).setCell (Nat.le_succ _) _).setCell (Nat.le_succ _) _).setCell (Nat.le_succ _) _)
  · have HR : Hid (gpR g t = (zG, 12)) := gpR_full h20 HY.out.symm HZ.out.symm hh hl
    have H4 : Hid (Below w.heap.size w w4 ∧ w4.heap[w.heap.size + 1]? = some (.cells #[.string ⟨#[]⟩, .int .i64 0, .slice none 0 0, .slice none 0 0, .slice none 0 0, .slice none 0 0, .slice none 0 0, .slice none 0 0, .string ⟨#[]⟩, .int .i64 0, .int .i64 0, .int .i64 0, .int .i64 0, .int .i64 0] 44)) := ⟨H2.out.1.trans (hb4.mono H2.out.1.size), (hb4.block _ (Array.getElem?_eq_some_iff.1 H2.out.2.1).1).trans H2.out.2.1⟩
    clear hh hb4 hl
    obtain ⟨r0, r1, r2, r3, r4, r5, r6, r7, r8, r9, r10, r11, r12, r13⟩ := bx14 H4.out.2
    have fr := fz8 H4.out.2
    go_wp2
    obtain ⟨f0, f1, f2, f3, f4, f5, f6, f7, f8, f9, f10, f11, f12, f13⟩ := bx14 (st14 (y0 := (.string ⟨#[]⟩)) (y1 := (.int .i64 0)) (y2 := (.slice none 0 0)) (y3 := (.slice none 0 0)) (y4 := (.slice none 0 0)) (y5 := (.slice none 0 0)) (y6 := (.slice none 0 0)) (y7 := (.slice none 0 0)) (y8 := (.string ⟨#[]⟩)) (y9 := (.int .i64 0)) (y10 := (.int .i64 0)) (y11 := (.int .i64 0)) (y12 := (.int .i64 0)) (y13 := (.int .i64 12)) H4.out.2)
    refine bodyPost_ret (v := .agg #[(.string ⟨#[]⟩), (.int .i64 0), (.slice none 0 0), (.slice none 0 0), (.slice none 0 0), (.slice none 0 0), (.slice none 0 0), (.slice none 0 0), (.string ⟨#[]⟩), (.int .i64 0), (.int .i64 0), (.int .i64 0), (.int .i64 0), (.int .i64 12)]) (by simp [results, Tryz.results7, go_sem, f0, f1, f2, f3, f4, f5, f6, f7, f8, f9, f10, f11, f12, f13]) rfl ?_
    rw [HR.out]
    exact ansGo_zero 12 ((((((((((((((H4.out.1.setCell (Nat.le_succ _) _).setCell (Nat.le_succ _) _).setCell (Nat.le_succ _) _).setCell (Nat.le_succ _) _).setCell (Nat.le_succ _) _).setCell (Nat.le_succ _) _).setCell (Nat.le_succ _) _).setCell (Nat.le_succ _) _).setCell (Nat.le_succ _) _).setCell (Nat.le_succ _) _).setCell (Nat.le_succ _) _).setCell (Nat.le_succ _) _).setCell (Nat.le_succ _) _).setCell (Nat.le_succ _) _)
  · have HR : Hid (gpR g t = (adG g t, 0)) := gpR_ok h20 HY.out.symm HZ.out.symm hh hl
    obtain ⟨b, f, β, hLG, hge⟩ := lgt_admit H2.out.2.2.2.1 HPP.out ho4 hg4 hts
    have hpb : ∀ k, k < w1.heap.size → some k ≠ (Value.slice P0 qs.length P1).ownBlock := fun k hk e => by
      have := (H2.out.2.2.2.1.pt.row.lt k e.symm).1
      omega
    have hz := H2.out.2.2.1
    have hx4 := (hg4.block (w.heap.size + 1) (Array.getElem?_eq_some_iff.1 H2.out.2.1).1 (hpb _ (by omega))).trans H2.out.2.1
    have hb4 : Below w.heap.size w w4 := H2.out.1.trans ⟨hg4.os, hg4.tape, hg4.output, hg4.size, fun k hk => hg4.block k (Nat.lt_of_lt_of_le hk H2.out.1.size) (hpb k (by omega))⟩
    have H4 : Hid ((Below w.heap.size w w4 ∧ LGt w4 (.slice A' (qs.length + 1) C') (.slice C0 g.crss.length C1) (.slice S0 g.book.stocks.length S1) (.slice L0 g.book.lines.length L1) (.slice D0 g.dffs.length D1) (.slice O0 g.outs.length O1) (adG g t) b f β bc bs bl bd bo) ∧ w4.heap[w.heap.size + 1]? = some (.cells #[.string ⟨#[]⟩, .int .i64 0, .slice none 0 0, .slice none 0 0, .slice none 0 0, .slice none 0 0, .slice none 0 0, .slice none 0 0, .string ⟨#[]⟩, .int .i64 0, .int .i64 0, .int .i64 0, .int .i64 0, .int .i64 0] 44) ∧ ∀ k, blkG (adG g t) b β bc bs bl bd bo k → w.heap.size + 2 ≤ k) := ⟨⟨hb4, hLG⟩, hx4, fun k hk => Nat.le_trans hz (hge k hk)⟩
    clear hh hl ho4 hg4 hLG hge hpb hx4 hb4 hz
    obtain ⟨r0, r1, r2, r3, r4, r5, r6, r7, r8, r9, r10, r11, r12, r13⟩ := bx14 H4.out.2.1
    have fr := fz8 H4.out.2.1
    go_wp2
    obtain ⟨f0, f1, f2, f3, f4, f5, f6, f7, f8, f9, f10, f11, f12, f13⟩ := bx14 (st14 (y0 := (.string g.name)) (y1 := (.int .i64 g.day)) (y2 := (.slice A' (qs.length + 1) C')) (y3 := (.slice C0 g.crss.length C1)) (y4 := (.slice S0 g.book.stocks.length S1)) (y5 := (.slice L0 g.book.lines.length L1)) (y6 := (.slice D0 g.dffs.length D1)) (y7 := (.slice O0 g.outs.length O1)) (y8 := (.string ⟨#[]⟩)) (y9 := (.int .i64 0)) (y10 := (.int .i64 0)) (y11 := (.int .i64 0)) (y12 := (.int .i64 0)) (y13 := (.int .i64 0)) H4.out.2.1)
    refine bodyPost_ret (v := .agg #[(.string g.name), (.int .i64 g.day), (.slice A' (qs.length + 1) C'), (.slice C0 g.crss.length C1), (.slice S0 g.book.stocks.length S1), (.slice L0 g.book.lines.length L1), (.slice D0 g.dffs.length D1), (.slice O0 g.outs.length O1), (.string ⟨#[]⟩), (.int .i64 0), (.int .i64 0), (.int .i64 0), (.int .i64 0), (.int .i64 0)]) (by simp [results, Tryz.results7, go_sem, f0, f1, f2, f3, f4, f5, f6, f7, f8, f9, f10, f11, f12, f13]) rfl ?_
    have stp : ∀ (W : World) (j : Nat) (x : Value), (Below w.heap.size w W ∧ LGt W (.slice A' (qs.length + 1) C') (.slice C0 g.crss.length C1) (.slice S0 g.book.stocks.length S1) (.slice L0 g.book.lines.length L1) (.slice D0 g.dffs.length D1) (.slice O0 g.outs.length O1) (adG g t) b f β bc bs bl bd bo) → (Below w.heap.size w (W.setCell ⟨w.heap.size + 1, j, none⟩ x) ∧ LGt (W.setCell ⟨w.heap.size + 1, j, none⟩ x) (.slice A' (qs.length + 1) C') (.slice C0 g.crss.length C1) (.slice S0 g.book.stocks.length S1) (.slice L0 g.book.lines.length L1) (.slice D0 g.dffs.length D1) (.slice O0 g.outs.length O1) (adG g t) b f β bc bs bl bd bo) := fun W j x ⟨m1, m2⟩ => ⟨m1.setCell (Nat.le_succ _) x, m2.of_blocks fun k hk => setNe x (by have := H4.out.2.2 k hk; omega)⟩
    have hE := stp _ 13 (.int .i64 0) (stp _ 12 (.int .i64 0) (stp _ 11 (.int .i64 0) (stp _ 10 (.int .i64 0) (stp _ 9 (.int .i64 0) (stp _ 8 (.string ⟨#[]⟩) (stp _ 7 (.slice O0 g.outs.length O1) (stp _ 6 (.slice D0 g.dffs.length D1) (stp _ 5 (.slice L0 g.book.lines.length L1) (stp _ 4 (.slice S0 g.book.stocks.length S1) (stp _ 3 (.slice C0 g.crss.length C1) (stp _ 2 (.slice A' (qs.length + 1) C') (stp _ 1 (.int .i64 g.day) (stp _ 0 (.string g.name) (H4.out.1))))))))))))))
    rw [HR.out]
    exact ⟨_, _, _, _, _, _, b, f, β, bc, bs, bl, bd, bo, rfl, hE.2, fun k hk => by have := H4.out.2.2 k hk; omega, hE.1⟩
end Go.Proofs.YtkgkahlhekecmaaGreat
namespace Go.Proofs.YtkgkahlhekecmaaGreat
open Go.ChangeShapes Go.WideShapes Go.ChangeAt Go.RowKit
theorem cmpP_irr (p : Ptn) (t : ByteArray) (h : p.name.toList = t.toList) : befT p t = false := by
  unfold befT
  rw [h]
  exact bl_irrefl _
/-- Among rising names the one that is sought stands at its place. -/
theorem hasP_iff {g : Gat} (h : RisP g.ptns) (t : ByteArray) : hasP g t = true ↔ ∃ p ∈ g.ptns, p.name.toList = t.toList := by
  unfold hasP
  rw [Option.any_eq_true]
  constructor
  · rintro ⟨p, hp, hz⟩
    exact ⟨p, List.mem_of_getElem? hp, (cmpP_zero p t).1 (of_decide_eq_true hz)⟩
  · rintro ⟨p, hp, hz⟩
    obtain ⟨i, hi⟩ := List.mem_iff_getElem?.1 hp
    have hil := (List.getElem?_eq_some_iff.1 hi).1
    have hpw := h
    unfold RisP at hpw
    rw [List.pairwise_iff_getElem] at hpw
    have hc : plcP g.ptns t = i := cnt_atP _ g.ptns i (by omega) (fun j x hj hx => by
      obtain ⟨hj', ex⟩ := List.getElem?_eq_some_iff.1 hx
      obtain ⟨_, ep⟩ := List.getElem?_eq_some_iff.1 hi
      have := hpw j i hj' hil hj
      rw [ex, ep, hz] at this
      exact this) (fun j x hj hx => by
      obtain ⟨hj', ex⟩ := List.getElem?_eq_some_iff.1 hx
      obtain ⟨_, ep⟩ := List.getElem?_eq_some_iff.1 hi
      rcases Nat.lt_or_ge i j with g1 | g1
      · have := hpw i j hil hj' g1
        rw [ex, ep, hz] at this
        exact bl_asymm this
      · obtain rfl : i = j := by omega
        rw [hi] at hx
        cases hx
        exact cmpP_irr p t hz)
    rw [hc]
    exact ⟨p, hi, decide_eq_true ((cmpP_zero p t).2 hz)⟩
/-- Where none of that name is there, a name is greater just from the place on. -/
theorem gt_iff {g : Gat} (h : RisP g.ptns) {t : ByteArray} (hn : hasP g t = false) {k : Nat} {p : Ptn} (hk : g.ptns[k]? = some p) : Op.bytesLess t.toList p.name.toList = decide (plcP g.ptns t ≤ k) := by
  have hne : p.name.toList ≠ t.toList := fun e => by
    have := (hasP_iff h t).2 ⟨p, List.mem_of_getElem? hk, e⟩
    rw [hn] at this
    cases this
  have hkl := (List.getElem?_eq_some_iff.1 hk).1
  have hle : ∀ (k : Nat) (p : Ptn), g.ptns[k]? = some p → (befT p t = true ↔ k < plcP g.ptns t) := fun k p hk => by
    have hkl := (List.getElem?_eq_some_iff.1 hk).1
    obtain ⟨i, hil, h1, h2⟩ : ∃ i, i ≤ g.ptns.length ∧ (∀ j x, j < i → g.ptns[j]? = some x → befT x t = true) ∧ (∀ j x, i ≤ j → g.ptns[j]? = some x → befT x t = false) := by
      refine ⟨(g.ptns.takeWhile fun x => befT x t).length, (List.takeWhile_sublist _).length_le, fun j x hj hx => ?_, fun j x hj hx => ?_⟩
      · have e : (g.ptns.takeWhile fun x => befT x t)[j]? = g.ptns[j]? := by
          conv => rhs; rw [← List.takeWhile_append_dropWhile (p := fun x => befT x t) (l := g.ptns)]
          rw [List.getElem?_append_left hj]
        rw [hx] at e
        exact List.all_eq_true.1 (List.all_takeWhile (p := fun x => befT x t) (l := g.ptns)) x (List.mem_of_getElem? e)
      · cases hd : g.ptns.dropWhile fun x => befT x t with
        | nil =>
          have e := List.takeWhile_append_dropWhile (p := fun x => befT x t) (l := g.ptns)
          rw [hd, List.append_nil] at e
          rw [e] at hj
          have := (List.getElem?_eq_some_iff.1 hx).1
          omega
        | cons y r =>
          have e := List.takeWhile_append_dropWhile (p := fun x => befT x t) (l := g.ptns)
          rw [hd] at e
          have hy : befT y t = false := by
            have := List.head_dropWhile_not (p := fun x => befT x t) (l := g.ptns) (by rw [hd]; simp)
            simp only [hd, List.head_cons] at this
            exact this
          have hiy : g.ptns[(g.ptns.takeWhile fun x => befT x t).length]? = some y := by
            rw [show g.ptns[(g.ptns.takeWhile fun x => befT x t).length]? = ((g.ptns.takeWhile fun x => befT x t) ++ y :: r)[(g.ptns.takeWhile fun x => befT x t).length]? from by rw [e]]
            rw [List.getElem?_append_right (Nat.le_refl _), Nat.sub_self]
            rfl
          cases hb : befT x t with
          | false => rfl
          | true =>
            have := (cmpP_neg y t).1 (sorted_P h hj hiy hx ((cmpP_neg x t).2 hb))
            rw [hy] at this
            cases this
    have hc : plcP g.ptns t = i := cnt_atP _ g.ptns i hil h1 h2
    rw [hc]
    constructor
    · intro hb
      rcases Nat.lt_or_ge k i with g1 | g1
      · exact g1
      · have := h2 k p g1 hk
        rw [hb] at this
        cases this
    · exact fun hlt => h1 k p hlt hk
  have h1 := hle k p hk
  cases hb : befT p t with
  | true =>
    have := h1.1 hb
    rw [decide_eq_false (by omega)]
    exact bl_asymm hb
  | false =>
    have hnl : ¬ k < plcP g.ptns t := fun e => by
      have := h1.2 e
      rw [hb] at this
      cases this
    rw [decide_eq_true (by omega)]
    cases e : Op.bytesLess t.toList p.name.toList with
    | true => rfl
    | false => exact absurd (bl_tri hb e) hne
theorem bef_iff {g : Gat} (h : RisP g.ptns) {t : ByteArray} (hn : hasP g t = false) {k : Nat} {p : Ptn} (hk : g.ptns[k]? = some p) : Op.bytesLess p.name.toList t.toList = decide (k < plcP g.ptns t) ∧ (p.name.toList == t.toList) = false := by
  have hne : p.name.toList ≠ t.toList := fun e => by
    have := (hasP_iff h t).2 ⟨p, List.mem_of_getElem? hk, e⟩
    rw [hn] at this
    cases this
  have h1 := gt_iff h hn hk
  refine ⟨?_, by rw [beq_eq_false_iff_ne]; exact hne⟩
  rcases Nat.lt_or_ge k (plcP g.ptns t) with hl | hl
  · rw [decide_eq_false (by omega)] at h1
    rw [decide_eq_true hl]
    cases e : Op.bytesLess p.name.toList t.toList with
    | true => rfl
    | false => exact absurd (bl_tri e h1) hne
  · rw [decide_eq_true hl] at h1
    rw [decide_eq_false (by omega)]
    exact bl_asymm h1
/-- What the rebuilding has come to, at place k. -/
def outL (ps : List Ptn) (n : Nat) (x : Ptn) (k : Nat) : List Ptn := if n < k then ps.take n ++ x :: (ps.take k).drop n else ps.take k
theorem outL_zero (ps : List Ptn) (n : Nat) (x : Ptn) : outL ps n x 0 = [] := by unfold outL; rw [if_neg (by omega)]; rfl
theorem outL_step {ps : List Ptn} {n : Nat} {x p : Ptn} {k : Nat} (hk : ps[k]? = some p) (hne : k ≠ n) : outL ps n x (k + 1) = outL ps n x k ++ [p] := by
  have hkl := (List.getElem?_eq_some_iff.1 hk).1
  have e : ps.take (k + 1) = ps.take k ++ [p] := by rw [List.take_add_one, hk]; rfl
  unfold outL
  rw [e]
  rcases Nat.lt_or_ge n k with h | h
  · rw [if_pos h, if_pos (by omega), List.drop_append_of_le_length (by rw [List.length_take]; omega)]
    simp
  · rw [if_neg (by omega), if_neg (by omega)]
theorem outL_at {ps : List Ptn} {n : Nat} {x p : Ptn} (hk : ps[n]? = some p) : outL ps n x (n + 1) = outL ps n x n ++ [x] ++ [p] := by
  have hkl := (List.getElem?_eq_some_iff.1 hk).1
  have e : ps.take (n + 1) = ps.take n ++ [p] := by rw [List.take_add_one, hk]; rfl
  unfold outL
  rw [e, if_pos (by omega), if_neg (by omega), List.drop_append_of_le_length (by rw [List.length_take]; omega), List.drop_of_length_le (by rw [List.length_take]; omega)]
  simp
theorem outL_end {ps : List Ptn} {n : Nat} {x : Ptn} (h : n < ps.length) : outL ps n x ps.length = insL ps n x := by
  unfold outL insL
  rw [if_pos h, List.take_length]
theorem outL_last {ps : List Ptn} {x : Ptn} : outL ps ps.length x ps.length ++ [x] = insL ps ps.length x := by
  unfold outL insL
  rw [if_neg (by omega), List.take_length, List.drop_length]
theorem outL_len (ps : List Ptn) (n : Nat) (x : Ptn) (k : Nat) : (outL ps n x k).length ≤ ps.length + 1 := by
  unfold outL
  split
  · simp
    omega
  · simp
    omega
set_option maxHeartbeats 4000000 in
theorem l13Find_any (g : Gat) (up uc us ul ud uo : Value) (t : ByteArray) (w : World) (h : RGt w up uc us ul ud uo g) (hP : BdGt 1048576 g) :
    Calls Tryz.prog 20 #[.agg #[.string g.name, .int .i64 g.day, up, uc, us, ul, ud, uo], .string t] w fun e w' => ∃ r : Int, e = .returned (.int .i64 r) ∧ (0 ≤ r ↔ ∃ p ∈ g.ptns, p.name.toList = t.toList) ∧ Below w.heap.size w w' := by
  obtain ⟨a0, c0, a1, c1, a2, c2, a3, c3, a4, c4, a5, c5, rfl, rfl, rfl, rfl, rfl, rfl⟩ := h.val
  have hl0 := (bdp hP).1
  obtain ⟨W0, hW0⟩ : ∃ W0, w.alloc (.cells #[.string g.name, .int .i64 g.day, (.slice a0 g.ptns.length c0), (.slice a1 g.crss.length c1), (.slice a2 g.book.stocks.length c2), (.slice a3 g.book.lines.length c3), (.slice a4 g.dffs.length c4), (.slice a5 g.outs.length c5)] 42) = W0 := ⟨_, rfl⟩
  have hb0 : Below w.heap.size w W0 := by rw [← hW0]; exact (Below.refl _ _).alloc (Nat.le_refl _) _
  have k0 : W0.heap[w.heap.size]? = some (.cells #[.string g.name, .int .i64 g.day, (.slice a0 g.ptns.length c0), (.slice a1 g.crss.length c1), (.slice a2 g.book.stocks.length c2), (.slice a3 g.book.lines.length c3), (.slice a4 g.dffs.length c4), (.slice a5 g.outs.length c5)] 42) := by rw [← hW0]; exact World.alloc_heap_new _ _
  have H0 : Hid (Below w.heap.size w W0 ∧ RGt W0 (.slice a0 g.ptns.length c0) (.slice a1 g.crss.length c1) (.slice a2 g.book.stocks.length c2) (.slice a3 g.book.lines.length c3) (.slice a4 g.dffs.length c4) (.slice a5 g.outs.length c5) g ∧ W0.heap[w.heap.size]? = some (.cells #[.string g.name, .int .i64 g.day, (.slice a0 g.ptns.length c0), (.slice a1 g.crss.length c1), (.slice a2 g.book.stocks.length c2), (.slice a3 g.book.lines.length c3), (.slice a4 g.dffs.length c4), (.slice a5 g.outs.length c5)] 42)) := ⟨hb0, h.below hb0, k0⟩
  clear h hb0 k0 hP
  go_enter Tryz.func20, Tryz.ntmps20
  go_upto_region 1 with fail
  try rw [hW0]
  clear hW0
  go_wp2
  go_loopw [5] (fun i wr => ∃ k : Nat, i = .int .i64 (k : Int) ∧ k ≤ g.ptns.length ∧ (∀ j p, j < k → g.ptns[j]? = some p → p.name.toList ≠ t.toList) ∧ Below W0.heap.size W0 wr) (fun i _ => g.ptns.length - (intOf i).toNat)
  case atStart => exact ⟨0, rfl, by omega, fun j p h => by omega, Below.refl _ _⟩
  case round =>
    obtain ⟨k, rfl, hk, hA, hb⟩ := hrel
    have HI : Hid ((∀ j p, j < k → g.ptns[j]? = some p → p.name.toList ≠ t.toList) ∧ Below W0.heap.size W0 wr) := ⟨hA, hb⟩
    obtain ⟨x0, x1, x2, x3, x4, x5, x6, x7⟩ := bx8 ((hb.block _ (Array.getElem?_eq_some_iff.1 H0.out.2.2).1).trans H0.out.2.2)
    clear hA
    by_cases hlt : k < g.ptns.length
    · have hlt' : (k : Int) < (g.ptns.length : Int) := by omega
      obtain ⟨b, o, cap', p, u, e, hs, hat, hRp⟩ := (H0.out.2.1.below hb).pt.at hlt
      simp only [Value.slice.injEq, true_and] at e
      obtain ⟨rfl, rfl⟩ := e
      obtain ⟨q0, q1, q2, q3⟩ := hat
      have HS : Hid (g.ptns[k]? = some p) := hs
      clear hs hRp hb
      by_cases hne : p.name.toList = t.toList
      · have hne' : (p.name.toList == t.toList) = true := by rw [hne]; simp
        have HN : Hid (p.name.toList = t.toList) := hne
        clear hne
        go_wp2
        go_ret
        exact ⟨_, rfl, ⟨fun _ => ⟨p, List.mem_of_getElem? HS.out, HN.out⟩, fun _ => by omega⟩, H0.out.1.trans (HI.out.2.mono H0.out.1.size)⟩
      · have hne' : (p.name.toList == t.toList) = false := by rw [beq_eq_false_iff_ne]; exact hne
        have HN : Hid (¬ p.name.toList = t.toList) := hne
        clear hne
        go_wp2
        go_roundw
        case rel =>
          refine ⟨k + 1, by go_num, by omega, fun j q hj hq => ?_, HI.out.2⟩
          rcases Nat.lt_or_ge j k with g1 | g1
          · exact HI.out.1 j q g1 hq
          · obtain rfl : j = k := by omega
            rw [HS.out] at hq
            cases hq
            exact HN.out
        case measure => simp [intOf]; omega
    · obtain rfl : k = g.ptns.length := by omega
      clear hb
      go_wp2
      go_ret
      refine ⟨_, rfl, ⟨fun h => by omega, fun ⟨p, hp, hz⟩ => ?_⟩, H0.out.1.trans (HI.out.2.mono H0.out.1.size)⟩
      obtain ⟨j, hj⟩ := List.mem_iff_getElem?.1 hp
      exact absurd hz (HI.out.1 j p (List.getElem?_eq_some_iff.1 hj).1 hj)
end Go.Proofs.YtkgkahlhekecmaaGreat
