/- Texts of ours put together: SzDf, SzOu, SzGt, ToSn. -/
import Derived.Test.YtkgkahlhekecmaaGreatG01
import Derived.Test.YtkgkahlhekecmaaGreatG02
import Derived.Test.YtkgkahlhekecmaaGreatG00
namespace Go.Proofs.YtkgkahlhekecmaaGreat
open Go.ChangeShapes Go.WideShapes Go.ChangeAt Go.RowKit
set_option maxHeartbeats 1000000 in
theorem szDf_any (g : Dff) (left : Int) (w : World) (hz : g.partner.size ≤ 9223372036854775807 ∧ g.ref.size ≤ 9223372036854775807 ∧ g.item.size ≤ 9223372036854775807) (hl : 0 ≤ left ∧ left ≤ 1048576) :
    Calls Tryz.prog 48 #[.agg #[.int .i64 g.kind, .string g.partner, .string g.ref, .int .i64 g.no, .string g.item, .int .i64 g.qty], .int .i64 left] w fun e w' => ∃ r : Int, e = .returned (.int .i64 r) ∧ (r = -1 ∨ (0 ≤ r ∧ r ≤ left ∧ g.partner.size ≤ left.toNat ∧ g.ref.size ≤ left.toNat ∧ g.item.size ≤ left.toNat)) ∧ Below w.heap.size w w' := by
  obtain ⟨kind, partner, ref, no, item, qty⟩ := g
  dsimp only at hz ⊢
  obtain ⟨hz0, hz1, hz2⟩ := hz
  by_cases h_partner : left - (partner.size : Int) < 0
  · go_enter Tryz.func48, Tryz.ntmps48
    go_wp2
    go_ret
    exact ⟨_, rfl, .inl rfl, (Below.refl _ _).alloc (Nat.le_refl _) _⟩
  by_cases h_ref : left - (partner.size : Int) - (ref.size : Int) < 0
  · go_enter Tryz.func48, Tryz.ntmps48
    go_wp2
    go_ret
    exact ⟨_, rfl, .inl rfl, (Below.refl _ _).alloc (Nat.le_refl _) _⟩
  by_cases h_item : left - (partner.size : Int) - (ref.size : Int) - (item.size : Int) < 0
  · go_enter Tryz.func48, Tryz.ntmps48
    go_wp2
    go_ret
    exact ⟨_, rfl, .inl rfl, (Below.refl _ _).alloc (Nat.le_refl _) _⟩
  go_enter Tryz.func48, Tryz.ntmps48
  go_wp2
  go_ret
  exact ⟨_, rfl, .inr ⟨by omega, by omega, by omega, by omega, by omega⟩, (Below.refl _ _).alloc (Nat.le_refl _) _⟩
set_option maxHeartbeats 1000000 in
theorem szDfs_any (v : Value) (rs : List Dff) (left : Int) (w : World) (h : RowDf w v rs) (hl : 0 ≤ left ∧ left ≤ 1048576) :
    Calls Tryz.prog 16 #[v, .int .i64 left] w fun e w' => ∃ q : Int, e = .returned (.int .i64 q) ∧ (q = -1 ∨ (0 ≤ q ∧ q ≤ left ∧ BdDf left.toNat rs)) ∧ Below w.heap.size w w' := by
  have hlen := h.len
  obtain ⟨a, cap, rfl⟩ := h.val
  have H : Hid (RowDf w (.slice a rs.length cap) rs) := h
  clear h
  by_cases hn : left < (rs.length : Int)
  · have hn' : left - (rs.length : Int) < 0 := by omega
    go_enter Tryz.func16, Tryz.ntmps16
    go_wp2
    go_ret
    exact ⟨_, rfl, .inl rfl, Below.refl _ _⟩
  · have hn' : ¬ left - (rs.length : Int) < 0 := by omega
    go_enter Tryz.func16, Tryz.ntmps16
    go_wp2
    go_loopw [1, 5] (fun l i wr => ∃ (k : Nat) (r : Int), l = .int .i64 r ∧ i = .int .i64 (k : Int) ∧ k ≤ rs.length ∧ 0 ≤ r ∧ r ≤ left ∧ (∀ (j : Nat) (g : Dff), j < k → rs[j]? = some g → g.partner.size ≤ left.toNat ∧ g.ref.size ≤ left.toNat ∧ g.item.size ≤ left.toNat) ∧ Below w.heap.size w wr) (fun _ i _ => rs.length - (intOf i).toNat)
    case atStart => exact ⟨0, _, rfl, rfl, by omega, by omega, by omega, fun j s h => by omega, Below.refl _ _⟩
    case round =>
      obtain ⟨k, r, rfl, rfl, hk, hr0, hr1, hA, hb⟩ := hrel
      have HA : Hid ((∀ (j : Nat) (g : Dff), j < k → rs[j]? = some g → g.partner.size ≤ left.toNat ∧ g.ref.size ≤ left.toNat ∧ g.item.size ≤ left.toNat) ∧ Below w.heap.size w wr) := ⟨hA, hb⟩
      clear hA hb
      by_cases hlt : k < rs.length
      · have hlt' : (k : Int) < (rs.length : Int) := by omega
        obtain ⟨b, o, cap', g, e, hs, ⟨q0, q1, q2, q3, q4, q5⟩, hz⟩ := (H.out.below HA.out.2).at hlt
        simp only [Value.slice.injEq, true_and] at e
        obtain ⟨rfl, rfl⟩ := e
        have HS : Hid (rs[k]? = some g) := hs
        clear hs
        go_wp2_with fail
        refine (szDf_any g r _ hz ⟨hr0, by omega⟩).mono ?_
        rintro e w2 ⟨r2, rfl, hr2, hb2⟩
        have HB : Hid (Below w.heap.size w w2) := HA.out.2.trans (hb2.mono HA.out.2.size)
        clear hb2
        rcases hr2 with rfl | ⟨g0, g1, g2⟩
        · go_wp2
          go_ret
          exact ⟨_, rfl, .inl rfl, HB.out⟩
        · have H2 : Hid (g.partner.size ≤ r.toNat ∧ g.ref.size ≤ r.toNat ∧ g.item.size ≤ r.toNat) := g2
          have g0' : ¬ r2 < 0 := by omega
          clear g2
          go_wp2
          go_roundw
          case rel =>
            refine ⟨k + 1, _, rfl, by go_num, by omega, by omega, by omega, fun j t hj ht => ?_, HB.out⟩
            rcases Nat.lt_or_ge j k with q | q
            · exact HA.out.1 j t q ht
            · obtain rfl : j = k := by omega
              rw [HS.out] at ht
              cases ht
              have := H2.out
              omega
          case measure => simp [intOf]; omega
      · obtain rfl : k = rs.length := by omega
        go_wp2
        go_ret
        refine ⟨r, rfl, .inr ⟨hr0, hr1, by omega, fun j s hj => HA.out.1 j s ?_ hj⟩, HA.out.2⟩
        exact (List.getElem?_eq_some_iff.1 hj).1
end Go.Proofs.YtkgkahlhekecmaaGreat
namespace Go.Proofs.YtkgkahlhekecmaaGreat
open Go.ChangeShapes Go.WideShapes Go.ChangeAt Go.RowKit
set_option maxHeartbeats 1000000 in
theorem szOu_any (g : OutR) (left : Int) (w : World) (hz : g.partner.size ≤ 9223372036854775807 ∧ g.text.size ≤ 9223372036854775807) (hl : 0 ≤ left ∧ left ≤ 1048576) :
    Calls Tryz.prog 49 #[.agg #[.string g.partner, .int .i64 g.number, .string g.text, .int .i64 g.tries, .int .i64 g.due], .int .i64 left] w fun e w' => ∃ r : Int, e = .returned (.int .i64 r) ∧ (r = -1 ∨ (0 ≤ r ∧ r ≤ left ∧ g.partner.size ≤ left.toNat ∧ g.text.size ≤ left.toNat)) ∧ Below w.heap.size w w' := by
  obtain ⟨partner, number, text, tries, due⟩ := g
  dsimp only at hz ⊢
  obtain ⟨hz0, hz1⟩ := hz
  by_cases h_partner : left - (partner.size : Int) < 0
  · go_enter Tryz.func49, Tryz.ntmps49
    go_wp2
    go_ret
    exact ⟨_, rfl, .inl rfl, (Below.refl _ _).alloc (Nat.le_refl _) _⟩
  by_cases h_text : left - (partner.size : Int) - (text.size : Int) < 0
  · go_enter Tryz.func49, Tryz.ntmps49
    go_wp2
    go_ret
    exact ⟨_, rfl, .inl rfl, (Below.refl _ _).alloc (Nat.le_refl _) _⟩
  go_enter Tryz.func49, Tryz.ntmps49
  go_wp2
  go_ret
  exact ⟨_, rfl, .inr ⟨by omega, by omega, by omega, by omega⟩, (Below.refl _ _).alloc (Nat.le_refl _) _⟩
set_option maxHeartbeats 1000000 in
theorem szOus_any (v : Value) (rs : List OutR) (left : Int) (w : World) (h : RowOu w v rs) (hl : 0 ≤ left ∧ left ≤ 1048576) :
    Calls Tryz.prog 17 #[v, .int .i64 left] w fun e w' => ∃ q : Int, e = .returned (.int .i64 q) ∧ (q = -1 ∨ (0 ≤ q ∧ q ≤ left ∧ BdOu left.toNat rs)) ∧ Below w.heap.size w w' := by
  have hlen := h.len
  obtain ⟨a, cap, rfl⟩ := h.val
  have H : Hid (RowOu w (.slice a rs.length cap) rs) := h
  clear h
  by_cases hn : left < (rs.length : Int)
  · have hn' : left - (rs.length : Int) < 0 := by omega
    go_enter Tryz.func17, Tryz.ntmps17
    go_wp2
    go_ret
    exact ⟨_, rfl, .inl rfl, Below.refl _ _⟩
  · have hn' : ¬ left - (rs.length : Int) < 0 := by omega
    go_enter Tryz.func17, Tryz.ntmps17
    go_wp2
    go_loopw [1, 5] (fun l i wr => ∃ (k : Nat) (r : Int), l = .int .i64 r ∧ i = .int .i64 (k : Int) ∧ k ≤ rs.length ∧ 0 ≤ r ∧ r ≤ left ∧ (∀ (j : Nat) (g : OutR), j < k → rs[j]? = some g → g.partner.size ≤ left.toNat ∧ g.text.size ≤ left.toNat) ∧ Below w.heap.size w wr) (fun _ i _ => rs.length - (intOf i).toNat)
    case atStart => exact ⟨0, _, rfl, rfl, by omega, by omega, by omega, fun j s h => by omega, Below.refl _ _⟩
    case round =>
      obtain ⟨k, r, rfl, rfl, hk, hr0, hr1, hA, hb⟩ := hrel
      have HA : Hid ((∀ (j : Nat) (g : OutR), j < k → rs[j]? = some g → g.partner.size ≤ left.toNat ∧ g.text.size ≤ left.toNat) ∧ Below w.heap.size w wr) := ⟨hA, hb⟩
      clear hA hb
      by_cases hlt : k < rs.length
      · have hlt' : (k : Int) < (rs.length : Int) := by omega
        obtain ⟨b, o, cap', g, e, hs, ⟨q0, q1, q2, q3, q4⟩, hz⟩ := (H.out.below HA.out.2).at hlt
        simp only [Value.slice.injEq, true_and] at e
        obtain ⟨rfl, rfl⟩ := e
        have HS : Hid (rs[k]? = some g) := hs
        clear hs
        go_wp2_with fail
        refine (szOu_any g r _ hz ⟨hr0, by omega⟩).mono ?_
        rintro e w2 ⟨r2, rfl, hr2, hb2⟩
        have HB : Hid (Below w.heap.size w w2) := HA.out.2.trans (hb2.mono HA.out.2.size)
        clear hb2
        rcases hr2 with rfl | ⟨g0, g1, g2⟩
        · go_wp2
          go_ret
          exact ⟨_, rfl, .inl rfl, HB.out⟩
        · have H2 : Hid (g.partner.size ≤ r.toNat ∧ g.text.size ≤ r.toNat) := g2
          have g0' : ¬ r2 < 0 := by omega
          clear g2
          go_wp2
          go_roundw
          case rel =>
            refine ⟨k + 1, _, rfl, by go_num, by omega, by omega, by omega, fun j t hj ht => ?_, HB.out⟩
            rcases Nat.lt_or_ge j k with q | q
            · exact HA.out.1 j t q ht
            · obtain rfl : j = k := by omega
              rw [HS.out] at ht
              cases ht
              have := H2.out
              omega
          case measure => simp [intOf]; omega
      · obtain rfl : k = rs.length := by omega
        go_wp2
        go_ret
        refine ⟨r, rfl, .inr ⟨hr0, hr1, by omega, fun j s hj => HA.out.1 j s ?_ hj⟩, HA.out.2⟩
        exact (List.getElem?_eq_some_iff.1 hj).1
end Go.Proofs.YtkgkahlhekecmaaGreat
namespace Go.Proofs.YtkgkahlhekecmaaGreat
open Go.ChangeShapes Go.WideShapes Go.ChangeAt Go.RowKit
set_option maxHeartbeats 4000000 in
theorem szGt_any (g : Gat) (up uc us ul ud uo : Value) (left : Int) (w : World) (h : RGt w up uc us ul ud uo g) (hl : 0 ≤ left ∧ left ≤ 1048576) :
    Calls Tryz.prog 4 #[.agg #[.string g.name, .int .i64 g.day, up, uc, us, ul, ud, uo], .int .i64 left] w fun e w' => ∃ q : Int, e = .returned (.int .i64 q) ∧ (q = -1 ∨ (0 ≤ q ∧ q ≤ left ∧ BdGt left.toNat g ∧ snP g.ptns ≤ left.toNat)) ∧ Below w.heap.size w w' := by
  obtain ⟨a0, c0, a1, c1, a2, c2, a3, c3, a4, c4, a5, c5, rfl, rfl, rfl, rfl, rfl, rfl⟩ := h.val
  have hnm := h.nm
  have hb0 : Below w.heap.size w (w.alloc (.cells #[.string g.name, .int .i64 g.day, (.slice a0 g.ptns.length c0), (.slice a1 g.crss.length c1), (.slice a2 g.book.stocks.length c2), (.slice a3 g.book.lines.length c3), (.slice a4 g.dffs.length c4), (.slice a5 g.outs.length c5)] 31)) := (Below.refl _ _).alloc (Nat.le_refl _) _
  have hbx : (w.alloc (.cells #[.string g.name, .int .i64 g.day, (.slice a0 g.ptns.length c0), (.slice a1 g.crss.length c1), (.slice a2 g.book.stocks.length c2), (.slice a3 g.book.lines.length c3), (.slice a4 g.dffs.length c4), (.slice a5 g.outs.length c5)] 31)).heap[w.heap.size]? = some (.cells #[.string g.name, .int .i64 g.day, (.slice a0 g.ptns.length c0), (.slice a1 g.crss.length c1), (.slice a2 g.book.stocks.length c2), (.slice a3 g.book.lines.length c3), (.slice a4 g.dffs.length c4), (.slice a5 g.outs.length c5)] 31) := World.alloc_heap_new _ _
  obtain ⟨W0, hW0⟩ : ∃ W0, (w.alloc (.cells #[.string g.name, .int .i64 g.day, (.slice a0 g.ptns.length c0), (.slice a1 g.crss.length c1), (.slice a2 g.book.stocks.length c2), (.slice a3 g.book.lines.length c3), (.slice a4 g.dffs.length c4), (.slice a5 g.outs.length c5)] 31)) = W0 := ⟨_, rfl⟩
  rw [hW0] at hb0 hbx
  have H0 : Hid (RGt W0 (.slice a0 g.ptns.length c0) (.slice a1 g.crss.length c1) (.slice a2 g.book.stocks.length c2) (.slice a3 g.book.lines.length c3) (.slice a4 g.dffs.length c4) (.slice a5 g.outs.length c5) g ∧ Below w.heap.size w W0 ∧ W0.heap[w.heap.size]? = some (.cells #[.string g.name, .int .i64 g.day, (.slice a0 g.ptns.length c0), (.slice a1 g.crss.length c1), (.slice a2 g.book.stocks.length c2), (.slice a3 g.book.lines.length c3), (.slice a4 g.dffs.length c4), (.slice a5 g.outs.length c5)] 31)) := ⟨h.below hb0, hb0, hbx⟩
  clear h hb0 hbx
  go_enter Tryz.func4, Tryz.ntmps4
  go_upto_region 1 with fail
  try rw [hW0]
  clear hW0
  by_cases hn : left - (g.name.size : Int) < 0
  · obtain ⟨x0, x1, x2, x3, x4, x5, x6, x7⟩ := bx8 H0.out.2.2
    go_wp2
    go_ret
    exact ⟨_, rfl, .inl rfl, H0.out.2.1⟩
  have HN : Hid (g.name.size ≤ left.toNat) := by show g.name.size ≤ left.toNat; omega
  obtain ⟨q0, hq0⟩ : ∃ q0 : Int, q0 = left - (g.name.size : Int) := ⟨_, rfl⟩
  have hn0 : 0 ≤ q0 ∧ q0 ≤ left := by omega
  have HQ : Hid (left - (g.name.size : Int) = q0) := hq0.symm
  clear hq0
  obtain ⟨x0, x1, x2, x3, x4, x5, x6, x7⟩ := bx8 H0.out.2.2
  go_wp2_with fail
  try rw [HQ.out]
  clear HQ hn
  refine (szsPt_any _ g.ptns q0 _ H0.out.1.pt ⟨by omega, by omega⟩).mono ?_
  rintro e w1 ⟨q1, rfl, hr, hb⟩
  have H1 : Hid (RGt w1 (.slice a0 g.ptns.length c0) (.slice a1 g.crss.length c1) (.slice a2 g.book.stocks.length c2) (.slice a3 g.book.lines.length c3) (.slice a4 g.dffs.length c4) (.slice a5 g.outs.length c5) g ∧ Below w.heap.size w w1 ∧ w1.heap[w.heap.size]? = some (.cells #[.string g.name, .int .i64 g.day, (.slice a0 g.ptns.length c0), (.slice a1 g.crss.length c1), (.slice a2 g.book.stocks.length c2), (.slice a3 g.book.lines.length c3), (.slice a4 g.dffs.length c4), (.slice a5 g.outs.length c5)] 31)) := ⟨H0.out.1.below hb, H0.out.2.1.trans (hb.mono H0.out.2.1.size), (hb.block _ (Array.getElem?_eq_some_iff.1 H0.out.2.2).1).trans H0.out.2.2⟩
  clear hb x0 x1 x2 x3 x4 x5 x6 x7 H0
  rcases hr with rfl | ⟨g0, g1, g2⟩
  · go_wp2
    go_ret
    exact ⟨_, rfl, .inl rfl, H1.out.2.1⟩
  have k1 : ¬ q1 < 0 := by omega
  have hn1 : 0 ≤ q1 ∧ q1 ≤ left := by omega
  have HSN : Hid (snP g.ptns ≤ left.toNat) := by show snP g.ptns ≤ left.toNat; omega
  have B1 : Hid (BdsPt left.toNat g.ptns) := BdsPt.mono g2 (by omega)
  clear g2 g0 g1
  obtain ⟨x0, x1, x2, x3, x4, x5, x6, x7⟩ := bx8 H1.out.2.2
  go_wp2_with fail
  refine (szCss_any _ g.crss q1 _ H1.out.1.cs ⟨by omega, by omega⟩).mono ?_
  rintro e w2 ⟨q2, rfl, hr, hb⟩
  have H2 : Hid (RGt w2 (.slice a0 g.ptns.length c0) (.slice a1 g.crss.length c1) (.slice a2 g.book.stocks.length c2) (.slice a3 g.book.lines.length c3) (.slice a4 g.dffs.length c4) (.slice a5 g.outs.length c5) g ∧ Below w.heap.size w w2 ∧ w2.heap[w.heap.size]? = some (.cells #[.string g.name, .int .i64 g.day, (.slice a0 g.ptns.length c0), (.slice a1 g.crss.length c1), (.slice a2 g.book.stocks.length c2), (.slice a3 g.book.lines.length c3), (.slice a4 g.dffs.length c4), (.slice a5 g.outs.length c5)] 31)) := ⟨H1.out.1.below hb, H1.out.2.1.trans (hb.mono H1.out.2.1.size), (hb.block _ (Array.getElem?_eq_some_iff.1 H1.out.2.2).1).trans H1.out.2.2⟩
  clear hb x0 x1 x2 x3 x4 x5 x6 x7 H1
  rcases hr with rfl | ⟨g0, g1, g2⟩
  · go_wp2
    go_ret
    exact ⟨_, rfl, .inl rfl, H2.out.2.1⟩
  have k2 : ¬ q2 < 0 := by omega
  have hn2 : 0 ≤ q2 ∧ q2 ≤ left := by omega
  have B2 : Hid (BdCs left.toNat g.crss) := BdCs.mono g2 (by omega)
  clear g2 g0 g1
  obtain ⟨x0, x1, x2, x3, x4, x5, x6, x7⟩ := bx8 H2.out.2.2
  go_wp2_with fail
  refine (szBk_any g.book _ _ q2 _ H2.out.1.bk ⟨by omega, by omega⟩).mono ?_
  rintro e w3 ⟨q3, rfl, hr, hb⟩
  have H3 : Hid (RGt w3 (.slice a0 g.ptns.length c0) (.slice a1 g.crss.length c1) (.slice a2 g.book.stocks.length c2) (.slice a3 g.book.lines.length c3) (.slice a4 g.dffs.length c4) (.slice a5 g.outs.length c5) g ∧ Below w.heap.size w w3 ∧ w3.heap[w.heap.size]? = some (.cells #[.string g.name, .int .i64 g.day, (.slice a0 g.ptns.length c0), (.slice a1 g.crss.length c1), (.slice a2 g.book.stocks.length c2), (.slice a3 g.book.lines.length c3), (.slice a4 g.dffs.length c4), (.slice a5 g.outs.length c5)] 31)) := ⟨H2.out.1.below hb, H2.out.2.1.trans (hb.mono H2.out.2.1.size), (hb.block _ (Array.getElem?_eq_some_iff.1 H2.out.2.2).1).trans H2.out.2.2⟩
  clear hb x0 x1 x2 x3 x4 x5 x6 x7 H2
  rcases hr with rfl | ⟨g0, g1, g2⟩
  · go_wp2
    go_ret
    exact ⟨_, rfl, .inl rfl, H3.out.2.1⟩
  have k3 : ¬ q3 < 0 := by omega
  have hn3 : 0 ≤ q3 ∧ q3 ≤ left := by omega
  have B3 : Hid (BdBk left.toNat g.book) := BdBk.mono g2 (by omega)
  clear g2 g0 g1
  obtain ⟨x0, x1, x2, x3, x4, x5, x6, x7⟩ := bx8 H3.out.2.2
  go_wp2_with fail
  refine (szDfs_any _ g.dffs q3 _ H3.out.1.df ⟨by omega, by omega⟩).mono ?_
  rintro e w4 ⟨q4, rfl, hr, hb⟩
  have H4 : Hid (RGt w4 (.slice a0 g.ptns.length c0) (.slice a1 g.crss.length c1) (.slice a2 g.book.stocks.length c2) (.slice a3 g.book.lines.length c3) (.slice a4 g.dffs.length c4) (.slice a5 g.outs.length c5) g ∧ Below w.heap.size w w4 ∧ w4.heap[w.heap.size]? = some (.cells #[.string g.name, .int .i64 g.day, (.slice a0 g.ptns.length c0), (.slice a1 g.crss.length c1), (.slice a2 g.book.stocks.length c2), (.slice a3 g.book.lines.length c3), (.slice a4 g.dffs.length c4), (.slice a5 g.outs.length c5)] 31)) := ⟨H3.out.1.below hb, H3.out.2.1.trans (hb.mono H3.out.2.1.size), (hb.block _ (Array.getElem?_eq_some_iff.1 H3.out.2.2).1).trans H3.out.2.2⟩
  clear hb x0 x1 x2 x3 x4 x5 x6 x7 H3
  rcases hr with rfl | ⟨g0, g1, g2⟩
  · go_wp2
    go_ret
    exact ⟨_, rfl, .inl rfl, H4.out.2.1⟩
  have k4 : ¬ q4 < 0 := by omega
  have hn4 : 0 ≤ q4 ∧ q4 ≤ left := by omega
  have B4 : Hid (BdDf left.toNat g.dffs) := BdDf.mono g2 (by omega)
  clear g2 g0 g1
  obtain ⟨x0, x1, x2, x3, x4, x5, x6, x7⟩ := bx8 H4.out.2.2
  go_wp2_with fail
  refine (szOus_any _ g.outs q4 _ H4.out.1.ou ⟨by omega, by omega⟩).mono ?_
  rintro e w5 ⟨q5, rfl, hr, hb⟩
  have H5 : Hid (RGt w5 (.slice a0 g.ptns.length c0) (.slice a1 g.crss.length c1) (.slice a2 g.book.stocks.length c2) (.slice a3 g.book.lines.length c3) (.slice a4 g.dffs.length c4) (.slice a5 g.outs.length c5) g ∧ Below w.heap.size w w5 ∧ w5.heap[w.heap.size]? = some (.cells #[.string g.name, .int .i64 g.day, (.slice a0 g.ptns.length c0), (.slice a1 g.crss.length c1), (.slice a2 g.book.stocks.length c2), (.slice a3 g.book.lines.length c3), (.slice a4 g.dffs.length c4), (.slice a5 g.outs.length c5)] 31)) := ⟨H4.out.1.below hb, H4.out.2.1.trans (hb.mono H4.out.2.1.size), (hb.block _ (Array.getElem?_eq_some_iff.1 H4.out.2.2).1).trans H4.out.2.2⟩
  clear hb x0 x1 x2 x3 x4 x5 x6 x7 H4
  rcases hr with rfl | ⟨g0, g1, g2⟩
  · go_wp2
    go_ret
    exact ⟨_, rfl, .inl rfl, H5.out.2.1⟩
  have k5 : ¬ q5 < 0 := by omega
  have hn5 : 0 ≤ q5 ∧ q5 ≤ left := by omega
  have B5 : Hid (BdOu left.toNat g.outs) := BdOu.mono g2 (by omega)
  clear g2 g0 g1
  go_wp2
  go_ret
  exact ⟨_, rfl, .inr ⟨hn5.1, hn5.2, ⟨HN.out, B1.out, B2.out, B3.out, B4.out, B5.out⟩, HSN.out⟩, H5.out.2.1⟩
end Go.Proofs.YtkgkahlhekecmaaGreat
namespace Go.Proofs.YtkgkahlhekecmaaGreat
open Go.ChangeShapes Go.WideShapes Go.ChangeAt Go.RowKit
theorem infoSn : (Tryz.prog.info? 148).map (fun i => (i.zero, i.size, i.bytes)) = some (some (.agg #[.int .i64 0, .int .i64 0, .int .i64 0]), 3, 24) := by kernel_rfl
theorem run_make_Sn (n : Nat) (hn : n ≤ 1048576) (w : World) : (Instr.makeSlice 61 (.int .i64 (n : Int)) (.int .i64 (n : Int))).run Tryz.prog w = .ok (.slice (some ⟨w.heap.size, 0, none⟩) n n) (w.alloc (.cells (madeCells #[.int .i64 0, .int .i64 0, .int .i64 0] (n * 3)) 148)) := by
  obtain ⟨i0, hi, hz0, hz1, hz2⟩ := info_parts infoSn
  have h := run_make (P := Tryz.prog) w 61 148 i0 (.agg #[.int .i64 0, .int .i64 0, .int .i64 0]) Tryz.underlying61 hi hz0 .i64 .i64 (n : Int) (n : Int) (by omega) (by omega) (by rw [hz2]; omega) (by omega)
  rw [hz1] at h
  simpa [Value.cells] using h
set_option maxHeartbeats 1000000 in
theorem toSn_any (g : Sn) (w : World) :
    Calls Tryz.prog 126 #[.agg #[.int .i64 g.number, .int .i64 g.answer, .int .i64 g.code]] w fun e w' => e = .returned (.agg #[.int .i64 g.number, .int .i64 g.answer, .int .i64 g.code]) ∧ Below w.heap.size w w' := by
  obtain ⟨number, answer, code⟩ := g
  dsimp only
  go_enter Tryz.func126, Tryz.ntmps126
  go_wp2
  exact bodyPost_ret (v := .agg #[.int .i64 number, .int .i64 answer, .int .i64 code]) (by simp [results, Tryz.results126, go_sem]) rfl ⟨rfl, (((Below.refl _ _).alloc (Nat.le_refl _) _).alloc (by simp) _).alloc (by simp; omega) _⟩
/-- A list in a block of its own, not below B. -/
def OwnSn (B : Nat) (W : World) (v : Value) (rs : List Sn) : Prop := ∃ (b : Nat) (f : Nat → Value), B ≤ b ∧ v = .slice (some ⟨b, 0, none⟩) rs.length rs.length ∧ W.rowIs b 148 (rs.length * 3) f ∧ ∀ (i : Nat) (g : Sn), rs[i]? = some g → f (i * 3) = .int .i64 g.number ∧ f (i * 3 + 1) = .int .i64 g.answer ∧ f (i * 3 + 2) = .int .i64 g.code
theorem OwnSn.lst {B : Nat} {W : World} {v : Value} {rs : List Sn} (h : OwnSn B W v rs) (hG : BdSn 1048576 rs) : ∃ b, B ≤ b ∧ LSn b W v rs := by
  obtain ⟨b, f, h1, h2, h3, h4⟩ := h
  have hl := hG.len
  exact ⟨b, h1, ⟨_, _, h2, fun _ => ⟨rfl, _, f, h3, Nat.le_refl _, h4⟩⟩, by omega⟩
theorem OwnSn.row {B : Nat} {W : World} {v : Value} {rs : List Sn} (h : OwnSn B W v rs) (hG : BdSn 1048576 rs) : RowSn W v rs := by
  obtain ⟨b, _, h⟩ := h.lst hG
  exact h.row
theorem OwnSn.below {B : Nat} {W W' : World} {v : Value} {rs : List Sn} (h : OwnSn B W v rs) (hb : Below W.heap.size W W') : OwnSn B W' v rs := by
  obtain ⟨b, f, h1, h2, h3, h4⟩ := h
  exact ⟨b, f, h1, h2, h3.of_block (hb.block b h3.lt), h4⟩
theorem OwnSn.setAt {B c : Nat} {W : World} {v : Value} {rs : List Sn} (h : OwnSn B W v rs) (hc : c < B) (i : Nat) (x : Value) : OwnSn B (W.setCell ⟨c, i, none⟩ x) v rs := by
  obtain ⟨b, f, h1, h2, h3, h4⟩ := h
  exact ⟨b, f, h1, h2, h3.setOther (show b ≠ c by omega) x, h4⟩
theorem OwnSn.mono {B C : Nat} {W : World} {v : Value} {rs : List Sn} (h : OwnSn B W v rs) (hC : C ≤ B) : OwnSn C W v rs := by
  obtain ⟨b, f, h1, h2⟩ := h
  exact ⟨b, f, by omega, h2⟩
set_option maxHeartbeats 2000000 in
theorem toSns_any (v : Value) (rs : List Sn) (w : World) (h : RowSn w v rs) (hG : BdSn 1048576 rs) :
    Calls Tryz.prog 96 #[v] w fun e w' => ∃ v', e = .returned v' ∧ OwnSn w.heap.size w' v' rs ∧ Below w.heap.size w w' := by
  have hlen := hG.len
  obtain ⟨a, cap, rfl⟩ := h.val
  have H : Hid (RowSn w (.slice a rs.length cap) rs ∧ BdSn 1048576 rs) := ⟨h, hG⟩
  clear h hG
  obtain ⟨M, hM, hMs⟩ : ∃ M : Array Value, madeCells #[.int .i64 0, .int .i64 0, .int .i64 0] (rs.length * 3) = M ∧ M.size = rs.length * 3 := ⟨_, rfl, size_madeCells _ _⟩
  have hmk := run_make_Sn rs.length hlen
  rw [hM] at hmk
  obtain ⟨f0, hf0⟩ := fl_row w M 148 (rs.length * 3) hMs
  have HF0 : Hid ((w.alloc (.cells M 148)).rowIs w.heap.size 148 (rs.length * 3) f0) := hf0
  clear hM hMs hf0
  go_enter Tryz.func96, Tryz.ntmps96
  go_wp2
  go_loopw [4] (fun i wr => ∃ (k : Nat) (f : Nat → Value), i = .int .i64 (k : Int) ∧ k ≤ rs.length ∧ wr.rowIs w.heap.size 148 (rs.length * 3) f ∧ (∀ (j : Nat) (g : Sn), j < k → rs[j]? = some g → f (j * 3) = .int .i64 g.number ∧ f (j * 3 + 1) = .int .i64 g.answer ∧ f (j * 3 + 2) = .int .i64 g.code) ∧ Below w.heap.size w wr) (fun i _ => rs.length - (intOf i).toNat)
  case atStart => exact ⟨0, f0, rfl, by omega, HF0.out, fun j e hj => by omega, (Below.refl _ _).alloc (Nat.le_refl _) _⟩
  case round =>
    obtain ⟨k, f, rfl, hk, hR, hA, hb⟩ := hrel
    by_cases hlt : k < rs.length
    · have hlt' : (k : Int) < (rs.length : Int) := by omega
      obtain ⟨b, o, cap', g, ee, hs, ⟨q0, q1, q2⟩⟩ := (H.out.1.below hb).at hlt
      simp only [Value.slice.injEq, true_and] at ee
      obtain ⟨rfl, rfl⟩ := ee
      have HS : Hid (rs[k]? = some g ∧ wr.rowIs w.heap.size 148 (rs.length * 3) f ∧ (∀ (j : Nat) (g : Sn), j < k → rs[j]? = some g → f (j * 3) = .int .i64 g.number ∧ f (j * 3 + 1) = .int .i64 g.answer ∧ f (j * 3 + 2) = .int .i64 g.code) ∧ Below w.heap.size w wr) := ⟨hs, hR, hA, hb⟩
      clear hs hR hA hb
      go_wp2_with fail
      refine (toSn_any g _).mono ?_
      rintro ee w1 ⟨rfl, hb1⟩
      have hlt0 := HS.out.2.1.lt
      have hR1 : w1.rowIs w.heap.size 148 (rs.length * 3) f := HS.out.2.1.of_block (hb1.block _ hlt0)
      have hfz := hR1.frozen
      have k0 := hR1.cell (i := k * 3) (by omega)
      have k1 := hR1.cell (i := k * 3 + 1) (by omega)
      have k2 := hR1.cell (i := k * 3 + 2) (by omega)
      have H1 : Hid (rs[k]? = some g ∧ w1.rowIs w.heap.size 148 (rs.length * 3) f ∧ (∀ (j : Nat) (g : Sn), j < k → rs[j]? = some g → f (j * 3) = .int .i64 g.number ∧ f (j * 3 + 1) = .int .i64 g.answer ∧ f (j * 3 + 2) = .int .i64 g.code) ∧ Below w.heap.size w w1) := ⟨HS.out.1, hR1, HS.out.2.2.1, HS.out.2.2.2.trans (hb1.mono HS.out.2.2.2.size)⟩
      clear HS hR1 hb1
      go_wp2
      go_roundw
      case rel =>
        refine ⟨k + 1, _, by go_num, by omega, (((H1.out.2.1.set (k * 3) (.int .i64 g.number)).set (k * 3 + 1) (.int .i64 g.answer)).set (k * 3 + 2) (.int .i64 g.code)), fun j t hj ht => ?_, (((H1.out.2.2.2.setCell (Nat.le_refl _) _).setCell (Nat.le_refl _) _).setCell (Nat.le_refl _) _)⟩
        by_cases e1 : j = k
        · subst e1
          rw [H1.out.1] at ht
          cases ht
          refine ⟨?_, ?_, ?_⟩
          · rw [if_neg (by omega), if_neg (by omega), if_pos rfl]
          · rw [if_neg (by omega), if_pos rfl]
          · rw [if_pos rfl]
        · obtain ⟨r0, r1, r2⟩ := H1.out.2.2.1 j t (by omega) ht
          refine ⟨?_, ?_, ?_⟩
          all_goals rw [if_neg (by omega), if_neg (by omega), if_neg (by omega)]
          all_goals assumption
      case measure => simp [intOf]; omega
    · obtain rfl : k = rs.length := by omega
      have HS : Hid (wr.rowIs w.heap.size 148 (rs.length * 3) f ∧ (∀ (j : Nat) (g : Sn), j < rs.length → rs[j]? = some g → f (j * 3) = .int .i64 g.number ∧ f (j * 3 + 1) = .int .i64 g.answer ∧ f (j * 3 + 2) = .int .i64 g.code) ∧ Below w.heap.size w wr) := ⟨hR, hA, hb⟩
      clear hR hA hb
      go_wp2
      go_ret
      exact ⟨_, rfl, ⟨w.heap.size, f, Nat.le_refl _, rfl, HS.out.1, fun i e hi => HS.out.2.1 i e (List.getElem?_eq_some_iff.1 hi).1 hi⟩, HS.out.2.2⟩
end Go.Proofs.YtkgkahlhekecmaaGreat
