/- Texts of ours put together: BkI, GtI. -/
import Derived.Test.YtagajindaipaeaaGreatG41
import Derived.Test.YtagajindaipaeaaGreatG30
import Derived.Laws.Cover1
import Derived.Test.YtagajindaipaeaaGreatG42
import Derived.Test.YtagajindaipaeaaGreatG44
import Derived.Test.YtagajindaipaeaaGreatG25
namespace Go.Proofs.YtagajindaipaeaaGreat
open Go.ChangeShapes Go.WideShapes Go.ChangeAt Go.RowKit
theorem bl_first {t : ByteArray} (h : nameB t = true) : Op.bytesLess (ByteArray.toList ⟨#[]⟩) t.toList = true := by
  have h1 := (nameB_sizes h).1
  cases hl : t.data.toList with
  | nil =>
    have : t.data.toList.length = 0 := by rw [hl]; rfl
    have e : t.size = t.data.toList.length := by simp
    omega
  | cons x r => rw [ByteArray.toList_eq, ByteArray.toList_eq, hl]; rfl
theorem bl_ne {a b : List UInt8} (h : Op.bytesLess a b = true) : (b == a) = false := by
  cases e : b == a with
  | false => rfl
  | true =>
    rw [beq_iff_eq] at e
    rw [e, bl_irrefl] at h
    cases h
/-- The one ahead of it is below it. -/
theorem stp_lt {rs : List Stk} {k : Nat} {c : Stk} {s : ByteArray} (h : OkS rs k c) (hk : k ≤ rs.length) (h0 : k = 0 → s = ⟨#[]⟩) (h1 : ∀ d, 0 < k → rs[k - 1]? = some d → d.item = s) : Op.bytesLess s.toList c.item.toList = true := by
  rcases Nat.eq_zero_or_pos k with g | g
  · rw [h0 g]
    exact bl_first h.ok.n
  · have e := List.getElem?_eq_getElem (l := rs) (i := k - 1) (by omega)
    have := h.rise _ g e
    rw [← h1 _ g e]
    exact this
theorem stp_ok {rs : List Stk} {k : Nat} {c : Stk} {s : ByteArray} (ho : StOk c) (hx : Op.bytesLess c.item.toList s.toList = false) (hy : (c.item.toList == s.toList) = false) (h1 : ∀ d, 0 < k → rs[k - 1]? = some d → d.item = s) : OkS rs k c := by
  refine ⟨ho, fun d h0 hd => ?_⟩
  show Op.bytesLess d.item.toList c.item.toList = true
  rw [h1 d h0 hd]
  cases e : Op.bytesLess s.toList c.item.toList with
  | true => rfl
  | false =>
    have := bl_tri hx e
    rw [this] at hy
    simp at hy
set_option maxHeartbeats 4000000 in
theorem stocksRight_any (v : Value) (rs : List Stk) (w : World) (h : RowSt w v rs) : Calls Tryz.prog 129 #[v] w fun e w' => e = .returned (.bool (stsB rs)) ∧ Below w.heap.size w w' := by
  have hlen := h.len
  obtain ⟨A, Cp, rfl⟩ := h.val
  have H0 : Hid (RowSt w (.slice A rs.length Cp) rs) := h
  clear h
  go_enter Tryz.func129, Tryz.ntmps129
  by_cases hl : 100 < rs.length
  · have hl' : (100 : Int) < (rs.length : Int) := by omega
    have HN : Hid (stsB rs = false) := stsB_no fun h => by have := h.len; omega
    go_wp2
    go_ret
    exact ⟨by rw [HN.out]; rfl, Below.refl _ _⟩
  have hl' : ¬ (100 : Int) < (rs.length : Int) := by omega
  go_wp2_with fail
  go_loopw [3, 11] (fun l i wr => ∃ (k : Nat) (s : ByteArray), l = .string s ∧ i = .int .i64 (k : Int) ∧ k ≤ rs.length ∧ Below w.heap.size w wr ∧ (k = 0 → s = ⟨#[]⟩) ∧ (∀ d, 0 < k → rs[k - 1]? = some d → d.item = s) ∧ ∀ i c, i < k → rs[i]? = some c → OkS rs i c) (fun _ i _ => rs.length - (intOf i).toNat)
  case atStart => exact ⟨0, ⟨#[]⟩, rfl, rfl, by omega, Below.refl _ _, fun _ => rfl, fun d h => by omega, fun i c hi => by omega⟩
  case round =>
    obtain ⟨k, s, rfl, rfl, hk, hb, hs0, hs1, hok⟩ := hrel
    have HI : Hid (Below w.heap.size w wr ∧ (k = 0 → s = ⟨#[]⟩) ∧ (∀ d, 0 < k → rs[k - 1]? = some d → d.item = s) ∧ ∀ i c, i < k → rs[i]? = some c → OkS rs i c) := ⟨hb, hs0, hs1, hok⟩
    clear hok hb hs0 hs1
    by_cases hlt : k < rs.length
    · have hlt' : (k : Int) < (rs.length : Int) := by omega
      obtain ⟨b, o, cap', c, e, hs, hat, hz⟩ := (H0.out.below HI.out.1).at hlt
      simp only [Value.slice.injEq, true_and] at e
      obtain ⟨rfl, rfl⟩ := e
      obtain ⟨item, hand⟩ := c
      obtain ⟨q0, q1⟩ := hat
      dsimp only at q0 q1
      have HS : Hid (rs[k]? = some ⟨item, hand⟩) := hs
      clear hs hz
      have HB : Hid (∀ ob, Below w.heap.size w (wr.alloc ob)) := fun ob => HI.out.1.alloc HI.out.1.size ob
      have Q1 := isName_any item
      cases h0 : nameB item
      · rw [h0] at Q1
        have HN : Hid (stsB rs = false) := stsB_no fun h => by
          have h1 := h.at_ k _ HS.out
          have := h1.ok.n; dsimp only at this; rw [h0] at this; cases this
        go_wp2_with (first | (go_at_call 40; refine (Q1 _).mono ?_; rintro e w' ⟨rfl, rfl⟩))
        go_ret
        exact ⟨by rw [HN.out]; rfl, HB.out _⟩
      rw [h0] at Q1
      cases x : Op.bytesLess item.toList s.toList
      case true =>
        have HN : Hid (stsB rs = false) := stsB_no fun h => by
          have h1 := h.at_ k _ HS.out
          have := bl_asymm (stp_lt h1 hk HI.out.2.1 HI.out.2.2.1); dsimp only at this; rw [x] at this; cases this
        go_wp2_with (first | (go_at_call 40; refine (Q1 _).mono ?_; rintro e w' ⟨rfl, rfl⟩))
        go_ret
        exact ⟨by rw [HN.out]; rfl, HB.out _⟩
      cases y : (item.toList == s.toList)
      case true =>
        have HN : Hid (stsB rs = false) := stsB_no fun h => by
          have h1 := h.at_ k _ HS.out
          have := bl_ne (stp_lt h1 hk HI.out.2.1 HI.out.2.2.1); dsimp only at this; rw [y] at this; cases this
        go_wp2_with (first | (go_at_call 40; refine (Q1 _).mono ?_; rintro e w' ⟨rfl, rfl⟩))
        go_ret
        exact ⟨by rw [HN.out]; rfl, HB.out _⟩
      by_cases h2 : hand < 0
      case pos =>
        have HN : Hid (stsB rs = false) := stsB_no fun h => by
          have h1 := h.at_ k _ HS.out
          have := h1.ok.h0; dsimp only at this; omega
        go_wp2_with (first | (go_at_call 40; refine (Q1 _).mono ?_; rintro e w' ⟨rfl, rfl⟩))
        go_ret
        exact ⟨by rw [HN.out]; rfl, HB.out _⟩
      by_cases h3 : 1000000000 < hand
      case pos =>
        have HN : Hid (stsB rs = false) := stsB_no fun h => by
          have h1 := h.at_ k _ HS.out
          have := h1.ok.h1; dsimp only at this; omega
        go_wp2_with (first | (go_at_call 40; refine (Q1 _).mono ?_; rintro e w' ⟨rfl, rfl⟩))
        go_ret
        exact ⟨by rw [HN.out]; rfl, HB.out _⟩
      have HN : Hid (OkS rs k ⟨item, hand⟩) := stp_ok ⟨h0, by dsimp only; omega, by dsimp only; omega⟩ x y HI.out.2.2.1
      go_wp2_with (first | (go_at_call 40; refine (Q1 _).mono ?_; rintro e w' ⟨rfl, rfl⟩))
      go_roundw
      case rel =>
        refine ⟨k + 1, item, rfl, by go_num, by omega, HB.out _, fun h => by omega, fun d _ hd => ?_, fun i y hi hy => ?_⟩
        · rw [show k + 1 - 1 = k by omega, HS.out] at hd
          cases hd
          rfl
        · rcases Nat.lt_or_ge i k with g | g
          · exact HI.out.2.2.2 i y g hy
          · obtain rfl : i = k := by omega
            rw [HS.out] at hy
            cases hy
            exact HN.out
      case measure => simp [intOf]; omega
    · obtain rfl : k = rs.length := by omega
      have HN : Hid (stsB rs = true) := stsB_yes ⟨by omega, fun i c hc => HI.out.2.2.2 i c (List.getElem?_eq_some_iff.1 hc).1 hc⟩
      go_wp2
      go_ret
      exact ⟨by rw [HN.out]; rfl, HI.out.1⟩
set_option maxHeartbeats 4000000 in
theorem bookRight_impl (b : Bk) (us ul : Value) (w : World) (h : RBk w us ul b) : Calls Tryz.prog 87 #[.agg #[us, ul]] w fun e w' => e = .returned (.bool (bkB b)) ∧ Below w.heap.size w w' := by
  obtain ⟨a, c, a', c', rfl, rfl⟩ := h.val
  obtain ⟨W0, hW0⟩ : ∃ W0, w.alloc (.cells #[.slice a b.stocks.length c, .slice a' b.lines.length c'] 38) = W0 := ⟨_, rfl⟩
  have hb0 : Below w.heap.size w W0 := by rw [← hW0]; exact (Below.refl _ _).alloc (Nat.le_refl _) _
  have hbx : W0.heap[w.heap.size]? = some (.cells #[.slice a b.stocks.length c, .slice a' b.lines.length c'] 38) := by rw [← hW0]; exact World.alloc_heap_new _ _
  have H0 : Hid (Below w.heap.size w W0 ∧ RBk W0 (.slice a b.stocks.length c) (.slice a' b.lines.length c') b) := ⟨hb0, h.below hb0⟩
  clear h hb0
  go_enter Tryz.func87, Tryz.ntmps87
  go_upto_region 1 with fail
  try rw [hW0]
  clear hW0
  obtain ⟨c0, c1⟩ := box2 hbx
  have hlt := (Array.getElem?_eq_some_iff.1 hbx).1
  have HX : Hid (W0.heap[w.heap.size]? = some (.cells #[.slice a b.stocks.length c, .slice a' b.lines.length c'] 38)) := hbx
  clear hbx
  obtain ⟨x, hx⟩ : ∃ x, x = stsB b.stocks := ⟨_, rfl⟩
  obtain ⟨y, hy⟩ : ∃ y, y = lnsB b.lines := ⟨_, rfl⟩
  have HZ : Hid (bkB b = (x && y)) := by rw [hx, hy]; rfl
  have Q1 := fun W h => stocksRight_any (.slice a b.stocks.length c) b.stocks W h
  have Q2 := fun W h => linesRight_impl (.slice a' b.lines.length c') b.lines W h
  rw [← hx] at Q1
  rw [← hy] at Q2
  clear hx hy
  go_wp2_with fail
  refine (Q1 _ H0.out.2.st).mono ?_
  rintro e w1 ⟨rfl, hb1⟩
  have H1 : Hid (Below w.heap.size w w1 ∧ RBk w1 (.slice a b.stocks.length c) (.slice a' b.lines.length c') b) := ⟨H0.out.1.trans (hb1.mono H0.out.1.size), H0.out.2.below hb1⟩
  obtain ⟨d0, d1⟩ := box2 ((hb1.block _ hlt).trans HX.out)
  clear hb1 c0 c1
  cases x with
  | false =>
    go_wp2
    go_ret
    exact ⟨by rw [HZ.out]; rfl, H1.out.1⟩
  | true =>
    go_wp2_with fail
    refine (Q2 _ H1.out.2.ln).mono ?_
    rintro e w2 ⟨rfl, hb2⟩
    have H2 : Hid (Below w.heap.size w w2) := H1.out.1.trans (hb2.mono H1.out.1.size)
    clear hb2
    go_wp2
    go_ret
    exact ⟨by rw [HZ.out]; cases y <;> rfl, H2.out⟩
end Go.Proofs.YtagajindaipaeaaGreat
namespace Go.Proofs.YtagajindaipaeaaGreat
open Go.ChangeShapes Go.WideShapes Go.ChangeAt Go.RowKit
theorem bx4P {W : World} {b t : Nat} {x0 x1 x2 x3 : Value} (h : W.heap[b]? = some (.cells #[x0, x1, x2, x3] t)) : W.cell? ⟨b, 0, none⟩ = some x0 ∧ W.cell? ⟨b, 1, none⟩ = some x1 ∧ W.cell? ⟨b, 2, none⟩ = some x2 ∧ W.cell? ⟨b, 3, none⟩ = some x3 := by
  refine ⟨?_, ?_, ?_, ?_⟩ <;> simp [World.cell?, h]
set_option maxHeartbeats 4000000 in
theorem partnersRight_any (v : Value) (ps : List Ptn) (w : World) (h : RowPt w v ps) : Calls Tryz.prog 85 #[v] w fun e w' => e = .returned (.bool (ptsB ps)) ∧ Below w.heap.size w w' := by
  have hlen := h.len
  obtain ⟨A, Cp, rfl⟩ := h.val
  have H0 : Hid (RowPt w (.slice A ps.length Cp) ps) := h
  clear h
  go_enter Tryz.func85, Tryz.ntmps85
  by_cases hl : 20 < ps.length
  · have hl' : (20 : Int) < (ps.length : Int) := by omega
    have HN : Hid (ptsB ps = false) := ptsB_no fun h => by have := h.len; omega
    go_wp2
    go_ret
    exact ⟨by rw [HN.out]; rfl, Below.refl _ _⟩
  have hl' : ¬ (20 : Int) < (ps.length : Int) := by omega
  go_wp2_with fail
  go_loopw [3, 11] (fun l i wr => ∃ (k : Nat) (s : ByteArray), l = .string s ∧ i = .int .i64 (k : Int) ∧ k ≤ ps.length ∧ Below w.heap.size w wr ∧ (k = 0 → s = ⟨#[]⟩) ∧ (∀ d, 0 < k → ps[k - 1]? = some d → d.name = s) ∧ ∀ i c, i < k → ps[i]? = some c → OkP ps i c) (fun _ i _ => ps.length - (intOf i).toNat)
  case atStart => exact ⟨0, ⟨#[]⟩, rfl, rfl, by omega, Below.refl _ _, fun _ => rfl, fun d h => by omega, fun i c hi => by omega⟩
  case round =>
    obtain ⟨k, s, rfl, rfl, hk, hb, hs0, hs1, hok⟩ := hrel
    have HI : Hid (Below w.heap.size w wr ∧ (k = 0 → s = ⟨#[]⟩) ∧ (∀ d, 0 < k → ps[k - 1]? = some d → d.name = s) ∧ ∀ i c, i < k → ps[i]? = some c → OkP ps i c) := ⟨hb, hs0, hs1, hok⟩
    clear hok hb hs0 hs1
    by_cases hlt : k < ps.length
    · have hlt' : (k : Int) < (ps.length : Int) := by omega
      obtain ⟨b, o, cap', p, u, e, hs, ⟨q0, q1, q2, q3⟩, hR⟩ := (H0.out.below HI.out.1).at hlt
      simp only [Value.slice.injEq, true_and] at e
      obtain ⟨rfl, rfl⟩ := e
      obtain ⟨n0, c0, rfl⟩ := hR.ls.val
      obtain ⟨W1, hW1⟩ : ∃ W1, wr.alloc (.cells #[.string p.name, .int .i64 p.low, .int .i64 p.next, .slice n0 p.seen.length c0] 70) = W1 := ⟨_, rfl⟩
      have hb1 : Below wr.heap.size wr W1 := by rw [← hW1]; exact (Below.refl _ _).alloc (Nat.le_refl _) _
      have hx1 : W1.heap[wr.heap.size]? = some (.cells #[.string p.name, .int .i64 p.low, .int .i64 p.next, .slice n0 p.seen.length c0] 70) := by rw [← hW1]; exact World.alloc_heap_new _ _
      obtain ⟨S, hS⟩ : ∃ S, S = wr.heap.size := ⟨_, rfl⟩
      rw [← hS] at hx1
      have HS : Hid (ps[k]? = some p ∧ RPt W1 (.slice n0 p.seen.length c0) p ∧ Below w.heap.size w W1 ∧ W1.heap[S]? = some (.cells #[.string p.name, .int .i64 p.low, .int .i64 p.next, .slice n0 p.seen.length c0] 70)) := ⟨hs, hR.below hb1, HI.out.1.trans (hb1.mono HI.out.1.size), hx1⟩
      have HW : Hid (wr.alloc (.cells #[.string p.name, .int .i64 p.low, .int .i64 p.next, .slice n0 p.seen.length c0] 70) = W1 ∧ S = wr.heap.size) := ⟨hW1, hS⟩
      clear hs hR hb1 hx1 hW1 hS
      go_upto_region 7 with fail
      try rw [HW.out.1]
      try rw [← HW.out.2]
      clear HW q0 q1 q2 q3
      obtain ⟨x0, x1, x2, x3⟩ := bx4P HS.out.2.2.2
      go_wp2_with fail
      refine (ptRight_impl p _ _ HS.out.2.1).mono ?_
      rintro e w2 ⟨rfl, hb2⟩
      have H2 : Hid (ps[k]? = some p ∧ Below w.heap.size w w2) := ⟨HS.out.1, HS.out.2.2.1.trans (hb2.mono HS.out.2.2.1.size)⟩
      have hx2 := (hb2.block _ (Array.getElem?_eq_some_iff.1 HS.out.2.2.2).1).trans HS.out.2.2.2
      clear x0 x1 x2 x3
      obtain ⟨x0, x1, x2, x3⟩ := bx4P hx2
      clear hb2 hx2 HS
      obtain ⟨y, hy⟩ : ∃ y, y = ptnB p := ⟨_, rfl⟩
      have HY : Hid (y = ptnB p) := hy
      rw [← hy]
      clear hy
      cases y with
      | false =>
        have HN : Hid (ptsB ps = false) := ptsB_no fun h => by
          have h1 := (h.at_ k _ H2.out.1).ok
          rw [← HY.out] at h1
          cases h1
        go_wp2
        go_ret
        exact ⟨by rw [HN.out]; rfl, H2.out.2⟩
      | true =>
        cases x : Op.bytesLess p.name.toList s.toList
        case true =>
          have HN : Hid (ptsB ps = false) := ptsB_no fun h => by
            have := bl_asymm (ptp_lt (h.at_ k _ H2.out.1) hk HI.out.2.1 HI.out.2.2.1)
            rw [x] at this
            cases this
          go_wp2
          go_ret
          exact ⟨by rw [HN.out]; rfl, H2.out.2⟩
        cases y : (p.name.toList == s.toList)
        case true =>
          have HN : Hid (ptsB ps = false) := ptsB_no fun h => by
            have := bl_neG (ptp_lt (h.at_ k _ H2.out.1) hk HI.out.2.1 HI.out.2.2.1)
            rw [y] at this
            cases this
          go_wp2
          go_ret
          exact ⟨by rw [HN.out]; rfl, H2.out.2⟩
        have HN : Hid (OkP ps k p) := ptp_ok HY.out.symm x y HI.out.2.2.1
        go_wp2
        go_roundw
        case rel =>
          refine ⟨k + 1, p.name, rfl, by go_num, by omega, H2.out.2, fun h => by omega, fun d _ hd => ?_, fun i y hi hy => ?_⟩
          · rw [show k + 1 - 1 = k by omega, H2.out.1] at hd
            cases hd
            rfl
          · rcases Nat.lt_or_ge i k with g | g
            · exact HI.out.2.2.2 i y g hy
            · obtain rfl : i = k := by omega
              rw [H2.out.1] at hy
              cases hy
              exact HN.out
        case measure => simp [intOf]; omega
    · obtain rfl : k = ps.length := by omega
      have HN : Hid (ptsB ps = true) := ptsB_yes ⟨by omega, fun i c hc => HI.out.2.2.2 i c (List.getElem?_eq_some_iff.1 hc).1 hc⟩
      go_wp2
      go_ret
      exact ⟨by rw [HN.out]; rfl, HI.out.1⟩
set_option maxHeartbeats 4000000 in
theorem gateRight_impl (g : Gat) (up uc us ul ud uo : Value) (w : World) (h : RGt w up uc us ul ud uo g) : Calls Tryz.prog 39 #[.agg #[.string g.name, .int .i64 g.day, up, uc, us, ul, ud, uo]] w fun e w' => e = .returned (.bool (gtB g)) ∧ Below w.heap.size w w' := by
  obtain ⟨a0, c0, a1, c1, a2, c2, a3, c3, a4, c4, a5, c5, rfl, rfl, rfl, rfl, rfl, rfl⟩ := h.val
  have hld := h.df.len
  obtain ⟨W0, hW0⟩ : ∃ W0, w.alloc (.cells #[.string g.name, .int .i64 g.day, (.slice a0 g.ptns.length c0), (.slice a1 g.crss.length c1), (.slice a2 g.book.stocks.length c2), (.slice a3 g.book.lines.length c3), (.slice a4 g.dffs.length c4), (.slice a5 g.outs.length c5)] 42) = W0 := ⟨_, rfl⟩
  have hb0 : Below w.heap.size w W0 := by rw [← hW0]; exact (Below.refl _ _).alloc (Nat.le_refl _) _
  have hx0 : W0.heap[w.heap.size]? = some (.cells #[.string g.name, .int .i64 g.day, (.slice a0 g.ptns.length c0), (.slice a1 g.crss.length c1), (.slice a2 g.book.stocks.length c2), (.slice a3 g.book.lines.length c3), (.slice a4 g.dffs.length c4), (.slice a5 g.outs.length c5)] 42) := by rw [← hW0]; exact World.alloc_heap_new _ _
  have H0 : Hid (Below w.heap.size w W0 ∧ RGt W0 (.slice a0 g.ptns.length c0) (.slice a1 g.crss.length c1) (.slice a2 g.book.stocks.length c2) (.slice a3 g.book.lines.length c3) (.slice a4 g.dffs.length c4) (.slice a5 g.outs.length c5) g ∧ W0.heap[w.heap.size]? = some (.cells #[.string g.name, .int .i64 g.day, (.slice a0 g.ptns.length c0), (.slice a1 g.crss.length c1), (.slice a2 g.book.stocks.length c2), (.slice a3 g.book.lines.length c3), (.slice a4 g.dffs.length c4), (.slice a5 g.outs.length c5)] 42)) := ⟨hb0, h.below hb0, hx0⟩
  clear h hb0 hx0
  obtain ⟨y1, h1⟩ : ∃ y, y = nameB g.name := ⟨_, rfl⟩
  obtain ⟨y2, h2⟩ : ∃ y, y = dayB g.day := ⟨_, rfl⟩
  obtain ⟨y3, h3⟩ : ∃ y, y = ptsB g.ptns := ⟨_, rfl⟩
  obtain ⟨y4, h4⟩ : ∃ y, y = rightB g.crss := ⟨_, rfl⟩
  obtain ⟨y5, h5⟩ : ∃ y, y = bkB g.book := ⟨_, rfl⟩
  obtain ⟨y7, h7⟩ : ∃ y, y = ousB g.outs := ⟨_, rfl⟩
  have HZ : Hid (gtB g = (y1 && (y2 && (y3 && (y4 && (y5 && (dfB g && y7))))))) := by rw [h1, h2, h3, h4, h5, h7]; rfl
  have Q1 := isName_any g.name
  have Q2 := isDay_any g.day
  have Q3 := fun W h => partnersRight_any (.slice a0 g.ptns.length c0) g.ptns W h
  have Q4 := fun W h => crossRight_impl (.slice a1 g.crss.length c1) g.crss W h
  have Q5 := fun W h => bookRight_impl g.book (.slice a2 g.book.stocks.length c2) (.slice a3 g.book.lines.length c3) W h
  have Q7 := fun W h => outboxRight_impl (.slice a5 g.outs.length c5) g.outs W h
  rw [← h1] at Q1
  rw [← h2] at Q2
  rw [← h3] at Q3
  rw [← h4] at Q4
  rw [← h5] at Q5
  rw [← h7] at Q7
  clear h1 h2 h3 h4 h5 h7
  go_enter Tryz.func39, Tryz.ntmps39
  go_upto_region 1 with fail
  try rw [hW0]
  clear hW0
  obtain ⟨x0, x1, x2, x3, x4, x5, x6, x7⟩ := bx8 H0.out.2.2
  go_wp2_with fail
  refine (Q1 _).mono ?_
  rintro e w1 ⟨rfl, rfl⟩
  cases y1
  · go_wp2
    go_ret
    exact ⟨by rw [HZ.out]; simp, H0.out.1⟩
  go_wp2_with fail
  refine (Q2 _).mono ?_
  rintro e w1 ⟨rfl, rfl⟩
  cases y2
  · go_wp2
    go_ret
    exact ⟨by rw [HZ.out]; simp, H0.out.1⟩
  go_wp2_with fail
  refine (Q3 _ H0.out.2.1.pt).mono ?_
  rintro e w3 ⟨rfl, hb⟩
  have H3 : Hid (Below w.heap.size w w3 ∧ RGt w3 (.slice a0 g.ptns.length c0) (.slice a1 g.crss.length c1) (.slice a2 g.book.stocks.length c2) (.slice a3 g.book.lines.length c3) (.slice a4 g.dffs.length c4) (.slice a5 g.outs.length c5) g ∧ w3.heap[w.heap.size]? = some (.cells #[.string g.name, .int .i64 g.day, (.slice a0 g.ptns.length c0), (.slice a1 g.crss.length c1), (.slice a2 g.book.stocks.length c2), (.slice a3 g.book.lines.length c3), (.slice a4 g.dffs.length c4), (.slice a5 g.outs.length c5)] 42)) := ⟨H0.out.1.trans (hb.mono H0.out.1.size), H0.out.2.1.below hb, (hb.block _ (Array.getElem?_eq_some_iff.1 H0.out.2.2).1).trans H0.out.2.2⟩
  clear hb x0 x1 x2 x3 x4 x5 x6 x7 H0
  obtain ⟨x0, x1, x2, x3, x4, x5, x6, x7⟩ := bx8 H3.out.2.2
  cases y3
  · go_wp2
    go_ret
    exact ⟨by rw [HZ.out]; simp, H3.out.1⟩
  go_wp2_with fail
  refine (Q4 _ H3.out.2.1.cs).mono ?_
  rintro e w4 ⟨rfl, hb⟩
  have H4 : Hid (Below w.heap.size w w4 ∧ RGt w4 (.slice a0 g.ptns.length c0) (.slice a1 g.crss.length c1) (.slice a2 g.book.stocks.length c2) (.slice a3 g.book.lines.length c3) (.slice a4 g.dffs.length c4) (.slice a5 g.outs.length c5) g ∧ w4.heap[w.heap.size]? = some (.cells #[.string g.name, .int .i64 g.day, (.slice a0 g.ptns.length c0), (.slice a1 g.crss.length c1), (.slice a2 g.book.stocks.length c2), (.slice a3 g.book.lines.length c3), (.slice a4 g.dffs.length c4), (.slice a5 g.outs.length c5)] 42)) := ⟨H3.out.1.trans (hb.mono H3.out.1.size), H3.out.2.1.below hb, (hb.block _ (Array.getElem?_eq_some_iff.1 H3.out.2.2).1).trans H3.out.2.2⟩
  clear hb x0 x1 x2 x3 x4 x5 x6 x7 H3
  obtain ⟨x0, x1, x2, x3, x4, x5, x6, x7⟩ := bx8 H4.out.2.2
  cases y4
  · go_wp2
    go_ret
    exact ⟨by rw [HZ.out]; simp, H4.out.1⟩
  go_wp2_with fail
  refine (Q5 _ H4.out.2.1.bk).mono ?_
  rintro e w5 ⟨rfl, hb⟩
  have H5 : Hid (Below w.heap.size w w5 ∧ RGt w5 (.slice a0 g.ptns.length c0) (.slice a1 g.crss.length c1) (.slice a2 g.book.stocks.length c2) (.slice a3 g.book.lines.length c3) (.slice a4 g.dffs.length c4) (.slice a5 g.outs.length c5) g ∧ w5.heap[w.heap.size]? = some (.cells #[.string g.name, .int .i64 g.day, (.slice a0 g.ptns.length c0), (.slice a1 g.crss.length c1), (.slice a2 g.book.stocks.length c2), (.slice a3 g.book.lines.length c3), (.slice a4 g.dffs.length c4), (.slice a5 g.outs.length c5)] 42)) := ⟨H4.out.1.trans (hb.mono H4.out.1.size), H4.out.2.1.below hb, (hb.block _ (Array.getElem?_eq_some_iff.1 H4.out.2.2).1).trans H4.out.2.2⟩
  clear hb x0 x1 x2 x3 x4 x5 x6 x7 H4
  obtain ⟨x0, x1, x2, x3, x4, x5, x6, x7⟩ := bx8 H5.out.2.2
  cases y5
  · go_wp2
    go_ret
    exact ⟨by rw [HZ.out]; simp, H5.out.1⟩
  by_cases hd : g.dffs.length ≤ 200
  case neg =>
    have hd' : ¬ (g.dffs.length : Int) ≤ 200 := by omega
    have HD : Hid (dfB g = false) := decide_eq_false hd
    go_wp2
    go_ret
    exact ⟨by rw [HZ.out, HD.out]; simp, H5.out.1⟩
  have hd' : (g.dffs.length : Int) ≤ 200 := by omega
  have HD : Hid (dfB g = true) := decide_eq_true hd
  go_wp2_with fail
  refine (Q7 _ H5.out.2.1.ou).mono ?_
  rintro e w7 ⟨rfl, hb⟩
  have H7 : Hid (Below w.heap.size w w7 ∧ RGt w7 (.slice a0 g.ptns.length c0) (.slice a1 g.crss.length c1) (.slice a2 g.book.stocks.length c2) (.slice a3 g.book.lines.length c3) (.slice a4 g.dffs.length c4) (.slice a5 g.outs.length c5) g ∧ w7.heap[w.heap.size]? = some (.cells #[.string g.name, .int .i64 g.day, (.slice a0 g.ptns.length c0), (.slice a1 g.crss.length c1), (.slice a2 g.book.stocks.length c2), (.slice a3 g.book.lines.length c3), (.slice a4 g.dffs.length c4), (.slice a5 g.outs.length c5)] 42)) := ⟨H5.out.1.trans (hb.mono H5.out.1.size), H5.out.2.1.below hb, (hb.block _ (Array.getElem?_eq_some_iff.1 H5.out.2.2).1).trans H5.out.2.2⟩
  clear hb x0 x1 x2 x3 x4 x5 x6 x7 H5
  go_wp2
  go_ret
  exact ⟨by rw [HZ.out, HD.out]; cases y7 <;> rfl, H7.out.1⟩
end Go.Proofs.YtagajindaipaeaaGreat
