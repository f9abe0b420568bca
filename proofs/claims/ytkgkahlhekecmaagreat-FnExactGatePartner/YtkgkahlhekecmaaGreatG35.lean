/- Texts of ours put together: ItQ, BkI. -/
import Derived.Test.YtkgkahlhekecmaaGreatG34
import Derived.Test.YtkgkahlhekecmaaGreatG28
import Derived.Test.YtkgkahlhekecmaaGreatG24
import Derived.Laws.Cover1
namespace Go.Proofs.YtkgkahlhekecmaaGreat
open Go.ChangeShapes Go.WideShapes Go.ChangeAt Go.RowKit
set_option maxHeartbeats 1000000 in
theorem crossRight_impl (v : Value) (rs : List Crs) (w : World) (h : RowCs w v rs) : Calls Tryz.prog 64 #[v] w fun e w' => e = .returned (.bool (rightB rs)) ∧ Below w.heap.size w w' := by
  obtain ⟨A, Cp, rfl⟩ := h.val
  go_enter Tryz.func64, Tryz.ntmps64
  go_wp2_with fail
  refine (ways_any _ rs _ h).mono ?_
  rintro e w1 ⟨b1, b2, rfl, _, _, _, hb, _⟩
  have HB : Hid (Below w.heap.size w (w1.alloc (.cells #[.map (some b1), .map (some b2)] 155))) := hb.alloc hb.size _
  clear hb h
  go_wp2
  go_ret
  exact ⟨rfl, HB.out⟩
end Go.Proofs.YtkgkahlhekecmaaGreat
namespace Go.Proofs.YtkgkahlhekecmaaGreat
open Go.ChangeShapes Go.WideShapes Go.ChangeAt Go.RowKit
theorem bl_first {t : ByteArray} (h : nameB t = true) : Op.bytesLess (ByteArray.toList ⟨#[]⟩) t.toList = true := by
  have h1 := (nameB_sizes h).1
  cases hl : t.data.toList with
  | nil =>
    have : t.data.toList.length = 0 := by rw [hl]; rfl
    have e : t.size = t.data.toList.length := by simp
    omega
  | cons x r => rw [ByteArray.toList_eq, ByteArray.toList_eq, hl]; rfl
theorem bl_ne {a b : List UInt8} (h : Op.bytesLess a b = true) : (b == a) = false := by
  cases e : b == a with
  | false => rfl
  | true =>
    rw [beq_iff_eq] at e
    rw [e, bl_irrefl] at h
    cases h
/-- The one ahead of it is below it. -/
theorem stp_lt {rs : List Stk} {k : Nat} {c : Stk} {s : ByteArray} (h : OkS rs k c) (hk : k ≤ rs.length) (h0 : k = 0 → s = ⟨#[]⟩) (h1 : ∀ d, 0 < k → rs[k - 1]? = some d → d.item = s) : Op.bytesLess s.toList c.item.toList = true := by
  rcases Nat.eq_zero_or_pos k with g | g
  · rw [h0 g]
    exact bl_first h.ok.n
  · have e := List.getElem?_eq_getElem (l := rs) (i := k - 1) (by omega)
    have := h.rise _ g e
    rw [← h1 _ g e]
    exact this
theorem stp_ok {rs : List Stk} {k : Nat} {c : Stk} {s : ByteArray} (ho : StOk c) (hx : Op.bytesLess c.item.toList s.toList = false) (hy : (c.item.toList == s.toList) = false) (h1 : ∀ d, 0 < k → rs[k - 1]? = some d → d.item = s) : OkS rs k c := by
  refine ⟨ho, fun d h0 hd => ?_⟩
  show Op.bytesLess d.item.toList c.item.toList = true
  rw [h1 d h0 hd]
  cases e : Op.bytesLess s.toList c.item.toList with
  | true => rfl
  | false =>
    have := bl_tri hx e
    rw [this] at hy
    simp at hy
set_option maxHeartbeats 4000000 in
theorem stocksRight_any (v : Value) (rs : List Stk) (w : World) (h : RowSt w v rs) : Calls Tryz.prog 101 #[v] w fun e w' => e = .returned (.bool (stsB rs)) ∧ Below w.heap.size w w' := by
  have hlen := h.len
  obtain ⟨A, Cp, rfl⟩ := h.val
  have H0 : Hid (RowSt w (.slice A rs.length Cp) rs) := h
  clear h
  go_enter Tryz.func101, Tryz.ntmps101
  by_cases hl : 100 < rs.length
  · have hl' : (100 : Int) < (rs.length : Int) := by omega
    have HN : Hid (stsB rs = false) := stsB_no fun h => by have := h.len; omega
    go_wp2
    go_ret
    exact ⟨by rw [HN.out]; rfl, Below.refl _ _⟩
  have hl' : ¬ (100 : Int) < (rs.length : Int) := by omega
  go_wp2_with fail
  go_loopw [3, 11] (fun l i wr => ∃ (k : Nat) (s : ByteArray), l = .string s ∧ i = .int .i64 (k : Int) ∧ k ≤ rs.length ∧ Below w.heap.size w wr ∧ (k = 0 → s = ⟨#[]⟩) ∧ (∀ d, 0 < k → rs[k - 1]? = some d → d.item = s) ∧ ∀ i c, i < k → rs[i]? = some c → OkS rs i c) (fun _ i _ => rs.length - (intOf i).toNat)
  case atStart => exact ⟨0, ⟨#[]⟩, rfl, rfl, by omega, Below.refl _ _, fun _ => rfl, fun d h => by omega, fun i c hi => by omega⟩
  case round =>
    obtain ⟨k, s, rfl, rfl, hk, hb, hs0, hs1, hok⟩ := hrel
    have HI : Hid (Below w.heap.size w wr ∧ (k = 0 → s = ⟨#[]⟩) ∧ (∀ d, 0 < k → rs[k - 1]? = some d → d.item = s) ∧ ∀ i c, i < k → rs[i]? = some c → OkS rs i c) := ⟨hb, hs0, hs1, hok⟩
    clear hok hb hs0 hs1
    by_cases hlt : k < rs.length
    · have hlt' : (k : Int) < (rs.length : Int) := by omega
      obtain ⟨b, o, cap', c, e, hs, hat, hz⟩ := (H0.out.below HI.out.1).at hlt
      simp only [Value.slice.injEq, true_and] at e
      obtain ⟨rfl, rfl⟩ := e
      obtain ⟨item, hand⟩ := c
      obtain ⟨q0, q1⟩ := hat
      dsimp only at q0 q1
      have HS : Hid (rs[k]? = some ⟨item, hand⟩) := hs
      clear hs hz
      have HB : Hid (∀ ob, Below w.heap.size w (wr.alloc ob)) := fun ob => HI.out.1.alloc HI.out.1.size ob
      have Q1 := isName_any item
      cases h0 : nameB item
      · rw [h0] at Q1
        have HN : Hid (stsB rs = false) := stsB_no fun h => by
          have h1 := h.at_ k _ HS.out
          have := h1.ok.n; dsimp only at this; rw [h0] at this; cases this
        go_wp2_with (first | (go_at_call 30; refine (Q1 _).mono ?_; rintro e w' ⟨rfl, rfl⟩))
        go_ret
        exact ⟨by rw [HN.out]; rfl, HB.out _⟩
      rw [h0] at Q1
      cases x : Op.bytesLess item.toList s.toList
      case true =>
        have HN : Hid (stsB rs = false) := stsB_no fun h => by
          have h1 := h.at_ k _ HS.out
          have := bl_asymm (stp_lt h1 hk HI.out.2.1 HI.out.2.2.1); dsimp only at this; rw [x] at this; cases this
        go_wp2_with (first | (go_at_call 30; refine (Q1 _).mono ?_; rintro e w' ⟨rfl, rfl⟩))
        go_ret
        exact ⟨by rw [HN.out]; rfl, HB.out _⟩
      cases y : (item.toList == s.toList)
      case true =>
        have HN : Hid (stsB rs = false) := stsB_no fun h => by
          have h1 := h.at_ k _ HS.out
          have := bl_ne (stp_lt h1 hk HI.out.2.1 HI.out.2.2.1); dsimp only at this; rw [y] at this; cases this
        go_wp2_with (first | (go_at_call 30; refine (Q1 _).mono ?_; rintro e w' ⟨rfl, rfl⟩))
        go_ret
        exact ⟨by rw [HN.out]; rfl, HB.out _⟩
      by_cases h2 : hand < 0
      case pos =>
        have HN : Hid (stsB rs = false) := stsB_no fun h => by
          have h1 := h.at_ k _ HS.out
          have := h1.ok.h0; dsimp only at this; omega
        go_wp2_with (first | (go_at_call 30; refine (Q1 _).mono ?_; rintro e w' ⟨rfl, rfl⟩))
        go_ret
        exact ⟨by rw [HN.out]; rfl, HB.out _⟩
      by_cases h3 : 1000000000 < hand
      case pos =>
        have HN : Hid (stsB rs = false) := stsB_no fun h => by
          have h1 := h.at_ k _ HS.out
          have := h1.ok.h1; dsimp only at this; omega
        go_wp2_with (first | (go_at_call 30; refine (Q1 _).mono ?_; rintro e w' ⟨rfl, rfl⟩))
        go_ret
        exact ⟨by rw [HN.out]; rfl, HB.out _⟩
      have HN : Hid (OkS rs k ⟨item, hand⟩) := stp_ok ⟨h0, by dsimp only; omega, by dsimp only; omega⟩ x y HI.out.2.2.1
      go_wp2_with (first | (go_at_call 30; refine (Q1 _).mono ?_; rintro e w' ⟨rfl, rfl⟩))
      go_roundw
      case rel =>
        refine ⟨k + 1, item, rfl, by go_num, by omega, HB.out _, fun h => by omega, fun d _ hd => ?_, fun i y hi hy => ?_⟩
        · rw [show k + 1 - 1 = k by omega, HS.out] at hd
          cases hd
          rfl
        · rcases Nat.lt_or_ge i k with g | g
          · exact HI.out.2.2.2 i y g hy
          · obtain rfl : i = k := by omega
            rw [HS.out] at hy
            cases hy
            exact HN.out
      case measure => simp [intOf]; omega
    · obtain rfl : k = rs.length := by omega
      have HN : Hid (stsB rs = true) := stsB_yes ⟨by omega, fun i c hc => HI.out.2.2.2 i c (List.getElem?_eq_some_iff.1 hc).1 hc⟩
      go_wp2
      go_ret
      exact ⟨by rw [HN.out]; rfl, HI.out.1⟩
set_option maxHeartbeats 4000000 in
theorem bookRight_impl (b : Bk) (us ul : Value) (w : World) (h : RBk w us ul b) : Calls Tryz.prog 65 #[.agg #[us, ul]] w fun e w' => e = .returned (.bool (bkB b)) ∧ Below w.heap.size w w' := by
  obtain ⟨a, c, a', c', rfl, rfl⟩ := h.val
  obtain ⟨W0, hW0⟩ : ∃ W0, w.alloc (.cells #[.slice a b.stocks.length c, .slice a' b.lines.length c'] 38) = W0 := ⟨_, rfl⟩
  have hb0 : Below w.heap.size w W0 := by rw [← hW0]; exact (Below.refl _ _).alloc (Nat.le_refl _) _
  have hbx : W0.heap[w.heap.size]? = some (.cells #[.slice a b.stocks.length c, .slice a' b.lines.length c'] 38) := by rw [← hW0]; exact World.alloc_heap_new _ _
  have H0 : Hid (Below w.heap.size w W0 ∧ RBk W0 (.slice a b.stocks.length c) (.slice a' b.lines.length c') b) := ⟨hb0, h.below hb0⟩
  clear h hb0
  go_enter Tryz.func65, Tryz.ntmps65
  go_upto_region 1 with fail
  try rw [hW0]
  clear hW0
  obtain ⟨c0, c1⟩ := box2 hbx
  have hlt := (Array.getElem?_eq_some_iff.1 hbx).1
  have HX : Hid (W0.heap[w.heap.size]? = some (.cells #[.slice a b.stocks.length c, .slice a' b.lines.length c'] 38)) := hbx
  clear hbx
  obtain ⟨x, hx⟩ : ∃ x, x = stsB b.stocks := ⟨_, rfl⟩
  obtain ⟨y, hy⟩ : ∃ y, y = lnsB b.lines := ⟨_, rfl⟩
  have HZ : Hid (bkB b = (x && y)) := by rw [hx, hy]; rfl
  have Q1 := fun W h => stocksRight_any (.slice a b.stocks.length c) b.stocks W h
  have Q2 := fun W h => linesRight_impl (.slice a' b.lines.length c') b.lines W h
  rw [← hx] at Q1
  rw [← hy] at Q2
  clear hx hy
  go_wp2_with fail
  refine (Q1 _ H0.out.2.st).mono ?_
  rintro e w1 ⟨rfl, hb1⟩
  have H1 : Hid (Below w.heap.size w w1 ∧ RBk w1 (.slice a b.stocks.length c) (.slice a' b.lines.length c') b) := ⟨H0.out.1.trans (hb1.mono H0.out.1.size), H0.out.2.below hb1⟩
  obtain ⟨d0, d1⟩ := box2 ((hb1.block _ hlt).trans HX.out)
  clear hb1 c0 c1
  cases x with
  | false =>
    go_wp2
    go_ret
    exact ⟨by rw [HZ.out]; rfl, H1.out.1⟩
  | true =>
    go_wp2_with fail
    refine (Q2 _ H1.out.2.ln).mono ?_
    rintro e w2 ⟨rfl, hb2⟩
    have H2 : Hid (Below w.heap.size w w2) := H1.out.1.trans (hb2.mono H1.out.1.size)
    clear hb2
    go_wp2
    go_ret
    exact ⟨by rw [HZ.out]; cases y <;> rfl, H2.out⟩
end Go.Proofs.YtkgkahlhekecmaaGreat
