/- Texts of ours put together: SzCs, SzSt, SzOl, SzBk. -/
import Derived.Test.YtkgkahlhekecmaaGreatG00
import Derived.Test.YtkgkahlhekecmaaGreatG01
namespace Go.Proofs.YtkgkahlhekecmaaGreat
open Go.ChangeShapes Go.WideShapes Go.ChangeAt Go.RowKit
set_option maxHeartbeats 1000000 in
theorem szCs_any (g : Crs) (left : Int) (w : World) (hz : g.partner.size ≤ 9223372036854775807 ∧ g.theirs.size ≤ 9223372036854775807 ∧ g.own.size ≤ 9223372036854775807) (hl : 0 ≤ left ∧ left ≤ 1048576) :
    Calls Tryz.prog 45 #[.agg #[.string g.partner, .string g.theirs, .string g.own], .int .i64 left] w fun e w' => ∃ r : Int, e = .returned (.int .i64 r) ∧ (r = -1 ∨ (0 ≤ r ∧ r ≤ left ∧ g.partner.size ≤ left.toNat ∧ g.theirs.size ≤ left.toNat ∧ g.own.size ≤ left.toNat)) ∧ Below w.heap.size w w' := by
  obtain ⟨partner, theirs, own⟩ := g
  dsimp only at hz ⊢
  obtain ⟨hz0, hz1, hz2⟩ := hz
  by_cases h_partner : left - (partner.size : Int) < 0
  · go_enter Tryz.func45, Tryz.ntmps45
    go_wp2
    go_ret
    exact ⟨_, rfl, .inl rfl, (Below.refl _ _).alloc (Nat.le_refl _) _⟩
  by_cases h_theirs : left - (partner.size : Int) - (theirs.size : Int) < 0
  · go_enter Tryz.func45, Tryz.ntmps45
    go_wp2
    go_ret
    exact ⟨_, rfl, .inl rfl, (Below.refl _ _).alloc (Nat.le_refl _) _⟩
  by_cases h_own : left - (partner.size : Int) - (theirs.size : Int) - (own.size : Int) < 0
  · go_enter Tryz.func45, Tryz.ntmps45
    go_wp2
    go_ret
    exact ⟨_, rfl, .inl rfl, (Below.refl _ _).alloc (Nat.le_refl _) _⟩
  go_enter Tryz.func45, Tryz.ntmps45
  go_wp2
  go_ret
  exact ⟨_, rfl, .inr ⟨by omega, by omega, by omega, by omega, by omega⟩, (Below.refl _ _).alloc (Nat.le_refl _) _⟩
set_option maxHeartbeats 1000000 in
theorem szCss_any (v : Value) (rs : List Crs) (left : Int) (w : World) (h : RowCs w v rs) (hl : 0 ≤ left ∧ left ≤ 1048576) :
    Calls Tryz.prog 14 #[v, .int .i64 left] w fun e w' => ∃ q : Int, e = .returned (.int .i64 q) ∧ (q = -1 ∨ (0 ≤ q ∧ q ≤ left ∧ BdCs left.toNat rs)) ∧ Below w.heap.size w w' := by
  have hlen := h.len
  obtain ⟨a, cap, rfl⟩ := h.val
  have H : Hid (RowCs w (.slice a rs.length cap) rs) := h
  clear h
  by_cases hn : left < (rs.length : Int)
  · have hn' : left - (rs.length : Int) < 0 := by omega
    go_enter Tryz.func14, Tryz.ntmps14
    go_wp2
    go_ret
    exact ⟨_, rfl, .inl rfl, Below.refl _ _⟩
  · have hn' : ¬ left - (rs.length : Int) < 0 := by omega
    go_enter Tryz.func14, Tryz.ntmps14
    go_wp2
    go_loopw [1, 5] (fun l i wr => ∃ (k : Nat) (r : Int), l = .int .i64 r ∧ i = .int .i64 (k : Int) ∧ k ≤ rs.length ∧ 0 ≤ r ∧ r ≤ left ∧ (∀ (j : Nat) (g : Crs), j < k → rs[j]? = some g → g.partner.size ≤ left.toNat ∧ g.theirs.size ≤ left.toNat ∧ g.own.size ≤ left.toNat) ∧ Below w.heap.size w wr) (fun _ i _ => rs.length - (intOf i).toNat)
    case atStart => exact ⟨0, _, rfl, rfl, by omega, by omega, by omega, fun j s h => by omega, Below.refl _ _⟩
    case round =>
      obtain ⟨k, r, rfl, rfl, hk, hr0, hr1, hA, hb⟩ := hrel
      have HA : Hid ((∀ (j : Nat) (g : Crs), j < k → rs[j]? = some g → g.partner.size ≤ left.toNat ∧ g.theirs.size ≤ left.toNat ∧ g.own.size ≤ left.toNat) ∧ Below w.heap.size w wr) := ⟨hA, hb⟩
      clear hA hb
      by_cases hlt : k < rs.length
      · have hlt' : (k : Int) < (rs.length : Int) := by omega
        obtain ⟨b, o, cap', g, e, hs, ⟨q0, q1, q2⟩, hz⟩ := (H.out.below HA.out.2).at hlt
        simp only [Value.slice.injEq, true_and] at e
        obtain ⟨rfl, rfl⟩ := e
        have HS : Hid (rs[k]? = some g) := hs
        clear hs
        go_wp2_with fail
        refine (szCs_any g r _ hz ⟨hr0, by omega⟩).mono ?_
        rintro e w2 ⟨r2, rfl, hr2, hb2⟩
        have HB : Hid (Below w.heap.size w w2) := HA.out.2.trans (hb2.mono HA.out.2.size)
        clear hb2
        rcases hr2 with rfl | ⟨g0, g1, g2⟩
        · go_wp2
          go_ret
          exact ⟨_, rfl, .inl rfl, HB.out⟩
        · have H2 : Hid (g.partner.size ≤ r.toNat ∧ g.theirs.size ≤ r.toNat ∧ g.own.size ≤ r.toNat) := g2
          have g0' : ¬ r2 < 0 := by omega
          clear g2
          go_wp2
          go_roundw
          case rel =>
            refine ⟨k + 1, _, rfl, by go_num, by omega, by omega, by omega, fun j t hj ht => ?_, HB.out⟩
            rcases Nat.lt_or_ge j k with q | q
            · exact HA.out.1 j t q ht
            · obtain rfl : j = k := by omega
              rw [HS.out] at ht
              cases ht
              have := H2.out
              omega
          case measure => simp [intOf]; omega
      · obtain rfl : k = rs.length := by omega
        go_wp2
        go_ret
        refine ⟨r, rfl, .inr ⟨hr0, hr1, by omega, fun j s hj => HA.out.1 j s ?_ hj⟩, HA.out.2⟩
        exact (List.getElem?_eq_some_iff.1 hj).1
end Go.Proofs.YtkgkahlhekecmaaGreat
namespace Go.Proofs.YtkgkahlhekecmaaGreat
open Go.ChangeShapes Go.WideShapes Go.ChangeAt Go.RowKit
set_option maxHeartbeats 1000000 in
theorem szSt_any (g : Stk) (left : Int) (w : World) (hz : g.item.size ≤ 9223372036854775807) (hl : 0 ≤ left ∧ left ≤ 1048576) :
    Calls Tryz.prog 89 #[.agg #[.string g.item, .int .i64 g.hand], .int .i64 left] w fun e w' => ∃ r : Int, e = .returned (.int .i64 r) ∧ (r = -1 ∨ (0 ≤ r ∧ r ≤ left ∧ g.item.size ≤ left.toNat)) ∧ Below w.heap.size w w' := by
  obtain ⟨item, hand⟩ := g
  dsimp only at hz ⊢
  by_cases h_item : left - (item.size : Int) < 0
  · go_enter Tryz.func89, Tryz.ntmps89
    go_wp2
    go_ret
    exact ⟨_, rfl, .inl rfl, (Below.refl _ _).alloc (Nat.le_refl _) _⟩
  go_enter Tryz.func89, Tryz.ntmps89
  go_wp2
  go_ret
  exact ⟨_, rfl, .inr ⟨by omega, by omega, by omega⟩, (Below.refl _ _).alloc (Nat.le_refl _) _⟩
set_option maxHeartbeats 1000000 in
theorem szSts_any (v : Value) (rs : List Stk) (left : Int) (w : World) (h : RowSt w v rs) (hl : 0 ≤ left ∧ left ≤ 1048576) :
    Calls Tryz.prog 46 #[v, .int .i64 left] w fun e w' => ∃ q : Int, e = .returned (.int .i64 q) ∧ (q = -1 ∨ (0 ≤ q ∧ q ≤ left ∧ BdSt left.toNat rs)) ∧ Below w.heap.size w w' := by
  have hlen := h.len
  obtain ⟨a, cap, rfl⟩ := h.val
  have H : Hid (RowSt w (.slice a rs.length cap) rs) := h
  clear h
  by_cases hn : left < (rs.length : Int)
  · have hn' : left - (rs.length : Int) < 0 := by omega
    go_enter Tryz.func46, Tryz.ntmps46
    go_wp2
    go_ret
    exact ⟨_, rfl, .inl rfl, Below.refl _ _⟩
  · have hn' : ¬ left - (rs.length : Int) < 0 := by omega
    go_enter Tryz.func46, Tryz.ntmps46
    go_wp2
    go_loopw [1, 5] (fun l i wr => ∃ (k : Nat) (r : Int), l = .int .i64 r ∧ i = .int .i64 (k : Int) ∧ k ≤ rs.length ∧ 0 ≤ r ∧ r ≤ left ∧ (∀ (j : Nat) (g : Stk), j < k → rs[j]? = some g → g.item.size ≤ left.toNat) ∧ Below w.heap.size w wr) (fun _ i _ => rs.length - (intOf i).toNat)
    case atStart => exact ⟨0, _, rfl, rfl, by omega, by omega, by omega, fun j s h => by omega, Below.refl _ _⟩
    case round =>
      obtain ⟨k, r, rfl, rfl, hk, hr0, hr1, hA, hb⟩ := hrel
      have HA : Hid ((∀ (j : Nat) (g : Stk), j < k → rs[j]? = some g → g.item.size ≤ left.toNat) ∧ Below w.heap.size w wr) := ⟨hA, hb⟩
      clear hA hb
      by_cases hlt : k < rs.length
      · have hlt' : (k : Int) < (rs.length : Int) := by omega
        obtain ⟨b, o, cap', g, e, hs, ⟨q0, q1⟩, hz⟩ := (H.out.below HA.out.2).at hlt
        simp only [Value.slice.injEq, true_and] at e
        obtain ⟨rfl, rfl⟩ := e
        have HS : Hid (rs[k]? = some g) := hs
        clear hs
        go_wp2_with fail
        refine (szSt_any g r _ hz ⟨hr0, by omega⟩).mono ?_
        rintro e w2 ⟨r2, rfl, hr2, hb2⟩
        have HB : Hid (Below w.heap.size w w2) := HA.out.2.trans (hb2.mono HA.out.2.size)
        clear hb2
        rcases hr2 with rfl | ⟨g0, g1, g2⟩
        · go_wp2
          go_ret
          exact ⟨_, rfl, .inl rfl, HB.out⟩
        · have H2 : Hid (g.item.size ≤ r.toNat) := g2
          have g0' : ¬ r2 < 0 := by omega
          clear g2
          go_wp2
          go_roundw
          case rel =>
            refine ⟨k + 1, _, rfl, by go_num, by omega, by omega, by omega, fun j t hj ht => ?_, HB.out⟩
            rcases Nat.lt_or_ge j k with q | q
            · exact HA.out.1 j t q ht
            · obtain rfl : j = k := by omega
              rw [HS.out] at ht
              cases ht
              have := H2.out
              omega
          case measure => simp [intOf]; omega
      · obtain rfl : k = rs.length := by omega
        go_wp2
        go_ret
        refine ⟨r, rfl, .inr ⟨hr0, hr1, by omega, fun j s hj => HA.out.1 j s ?_ hj⟩, HA.out.2⟩
        exact (List.getElem?_eq_some_iff.1 hj).1
end Go.Proofs.YtkgkahlhekecmaaGreat
namespace Go.Proofs.YtkgkahlhekecmaaGreat
open Go.ChangeShapes Go.WideShapes Go.ChangeAt Go.RowKit
set_option maxHeartbeats 1000000 in
theorem szOl_any (g : OLn) (left : Int) (w : World) (hz : g.partner.size ≤ 9223372036854775807 ∧ g.ref.size ≤ 9223372036854775807 ∧ g.item.size ≤ 9223372036854775807) (hl : 0 ≤ left ∧ left ≤ 1048576) :
    Calls Tryz.prog 90 #[.agg #[.string g.partner, .string g.ref, .int .i64 g.no, .string g.item, .int .i64 g.ordered, .int .i64 g.sent, .int .i64 g.got, .int .i64 g.cut], .int .i64 left] w fun e w' => ∃ r : Int, e = .returned (.int .i64 r) ∧ (r = -1 ∨ (0 ≤ r ∧ r ≤ left ∧ g.partner.size ≤ left.toNat ∧ g.ref.size ≤ left.toNat ∧ g.item.size ≤ left.toNat)) ∧ Below w.heap.size w w' := by
  obtain ⟨partner, ref, no, item, ordered, sent, got, cut⟩ := g
  dsimp only at hz ⊢
  obtain ⟨hz0, hz1, hz2⟩ := hz
  by_cases h_partner : left - (partner.size : Int) < 0
  · go_enter Tryz.func90, Tryz.ntmps90
    go_wp2
    go_ret
    exact ⟨_, rfl, .inl rfl, (Below.refl _ _).alloc (Nat.le_refl _) _⟩
  by_cases h_ref : left - (partner.size : Int) - (ref.size : Int) < 0
  · go_enter Tryz.func90, Tryz.ntmps90
    go_wp2
    go_ret
    exact ⟨_, rfl, .inl rfl, (Below.refl _ _).alloc (Nat.le_refl _) _⟩
  by_cases h_item : left - (partner.size : Int) - (ref.size : Int) - (item.size : Int) < 0
  · go_enter Tryz.func90, Tryz.ntmps90
    go_wp2
    go_ret
    exact ⟨_, rfl, .inl rfl, (Below.refl _ _).alloc (Nat.le_refl _) _⟩
  go_enter Tryz.func90, Tryz.ntmps90
  go_wp2
  go_ret
  exact ⟨_, rfl, .inr ⟨by omega, by omega, by omega, by omega, by omega⟩, (Below.refl _ _).alloc (Nat.le_refl _) _⟩
set_option maxHeartbeats 1000000 in
theorem szOls_any (v : Value) (rs : List OLn) (left : Int) (w : World) (h : RowOl w v rs) (hl : 0 ≤ left ∧ left ≤ 1048576) :
    Calls Tryz.prog 47 #[v, .int .i64 left] w fun e w' => ∃ q : Int, e = .returned (.int .i64 q) ∧ (q = -1 ∨ (0 ≤ q ∧ q ≤ left ∧ BdOl left.toNat rs)) ∧ Below w.heap.size w w' := by
  have hlen := h.len
  obtain ⟨a, cap, rfl⟩ := h.val
  have H : Hid (RowOl w (.slice a rs.length cap) rs) := h
  clear h
  by_cases hn : left < (rs.length : Int)
  · have hn' : left - (rs.length : Int) < 0 := by omega
    go_enter Tryz.func47, Tryz.ntmps47
    go_wp2
    go_ret
    exact ⟨_, rfl, .inl rfl, Below.refl _ _⟩
  · have hn' : ¬ left - (rs.length : Int) < 0 := by omega
    go_enter Tryz.func47, Tryz.ntmps47
    go_wp2
    go_loopw [1, 5] (fun l i wr => ∃ (k : Nat) (r : Int), l = .int .i64 r ∧ i = .int .i64 (k : Int) ∧ k ≤ rs.length ∧ 0 ≤ r ∧ r ≤ left ∧ (∀ (j : Nat) (g : OLn), j < k → rs[j]? = some g → g.partner.size ≤ left.toNat ∧ g.ref.size ≤ left.toNat ∧ g.item.size ≤ left.toNat) ∧ Below w.heap.size w wr) (fun _ i _ => rs.length - (intOf i).toNat)
    case atStart => exact ⟨0, _, rfl, rfl, by omega, by omega, by omega, fun j s h => by omega, Below.refl _ _⟩
    case round =>
      obtain ⟨k, r, rfl, rfl, hk, hr0, hr1, hA, hb⟩ := hrel
      have HA : Hid ((∀ (j : Nat) (g : OLn), j < k → rs[j]? = some g → g.partner.size ≤ left.toNat ∧ g.ref.size ≤ left.toNat ∧ g.item.size ≤ left.toNat) ∧ Below w.heap.size w wr) := ⟨hA, hb⟩
      clear hA hb
      by_cases hlt : k < rs.length
      · have hlt' : (k : Int) < (rs.length : Int) := by omega
        obtain ⟨b, o, cap', g, e, hs, ⟨q0, q1, q2, q3, q4, q5, q6, q7⟩, hz⟩ := (H.out.below HA.out.2).at hlt
        simp only [Value.slice.injEq, true_and] at e
        obtain ⟨rfl, rfl⟩ := e
        have HS : Hid (rs[k]? = some g) := hs
        clear hs
        go_wp2_with fail
        refine (szOl_any g r _ hz ⟨hr0, by omega⟩).mono ?_
        rintro e w2 ⟨r2, rfl, hr2, hb2⟩
        have HB : Hid (Below w.heap.size w w2) := HA.out.2.trans (hb2.mono HA.out.2.size)
        clear hb2
        rcases hr2 with rfl | ⟨g0, g1, g2⟩
        · go_wp2
          go_ret
          exact ⟨_, rfl, .inl rfl, HB.out⟩
        · have H2 : Hid (g.partner.size ≤ r.toNat ∧ g.ref.size ≤ r.toNat ∧ g.item.size ≤ r.toNat) := g2
          have g0' : ¬ r2 < 0 := by omega
          clear g2
          go_wp2
          go_roundw
          case rel =>
            refine ⟨k + 1, _, rfl, by go_num, by omega, by omega, by omega, fun j t hj ht => ?_, HB.out⟩
            rcases Nat.lt_or_ge j k with q | q
            · exact HA.out.1 j t q ht
            · obtain rfl : j = k := by omega
              rw [HS.out] at ht
              cases ht
              have := H2.out
              omega
          case measure => simp [intOf]; omega
      · obtain rfl : k = rs.length := by omega
        go_wp2
        go_ret
        refine ⟨r, rfl, .inr ⟨hr0, hr1, by omega, fun j s hj => HA.out.1 j s ?_ hj⟩, HA.out.2⟩
        exact (List.getElem?_eq_some_iff.1 hj).1
end Go.Proofs.YtkgkahlhekecmaaGreat
namespace Go.Proofs.YtkgkahlhekecmaaGreat
open Go.ChangeShapes Go.WideShapes Go.ChangeAt Go.RowKit
set_option maxHeartbeats 1000000 in
theorem szBk_any (b : Bk) (us ul : Value) (left : Int) (w : World) (h : RBk w us ul b) (hl : 0 ≤ left ∧ left ≤ 1048576) :
    Calls Tryz.prog 15 #[.agg #[us, ul], .int .i64 left] w fun e w' => ∃ q : Int, e = .returned (.int .i64 q) ∧ (q = -1 ∨ (0 ≤ q ∧ q ≤ left ∧ BdBk left.toNat b)) ∧ Below w.heap.size w w' := by
  obtain ⟨stocks, lines⟩ := b
  obtain ⟨a, cap, a2, cap2, rfl, rfl⟩ := h.val
  dsimp only at h ⊢
  have b0 : Below w.heap.size w (w.alloc (.cells #[.slice a stocks.length cap, .slice a2 lines.length cap2] 27)) := (Below.refl _ _).alloc (Nat.le_refl _) _
  have hbx : (w.alloc (.cells #[.slice a stocks.length cap, .slice a2 lines.length cap2] 27)).heap[w.heap.size]? = some (.cells #[.slice a stocks.length cap, .slice a2 lines.length cap2] 27) := World.alloc_heap_new _ _
  have H : Hid (RowSt (w.alloc (.cells #[.slice a stocks.length cap, .slice a2 lines.length cap2] 27)) (.slice a stocks.length cap) stocks ∧ RowOl (w.alloc (.cells #[.slice a stocks.length cap, .slice a2 lines.length cap2] 27)) (.slice a2 lines.length cap2) lines) := ⟨h.st.below b0, h.ln.below b0⟩
  clear h
  go_enter Tryz.func15, Tryz.ntmps15
  go_wp2_with fail
  refine (szSts_any _ stocks left _ H.out.1 ⟨by omega, by omega⟩).mono ?_
  rintro e w1 ⟨q, rfl, hr, hb⟩
  have HB : Hid (Below w.heap.size w w1 ∧ Below (w.alloc (.cells #[.slice a stocks.length cap, .slice a2 lines.length cap2] 27)).heap.size (w.alloc (.cells #[.slice a stocks.length cap, .slice a2 lines.length cap2] 27)) w1) := ⟨b0.trans (hb.mono (by simp)), hb⟩
  obtain ⟨y0, y1⟩ := box2 ((hb.block _ (by simp)).trans hbx)
  clear hb hbx
  rcases hr with rfl | ⟨g0, g1, g2⟩
  · go_wp2
    go_ret
    exact ⟨_, rfl, .inl rfl, HB.out.1⟩
  · have g0' : ¬ q < 0 := by omega
    have H2 : Hid (BdSt left.toNat stocks) := g2
    clear g2
    go_wp2_with fail
    refine (szOls_any _ lines q _ (H.out.2.below HB.out.2) ⟨by omega, by omega⟩).mono ?_
    rintro e w2 ⟨q2, rfl, hr2, hb2⟩
    have HC : Hid (Below w.heap.size w w2) := HB.out.1.trans (hb2.mono HB.out.1.size)
    clear hb2 y0 y1
    rcases hr2 with rfl | ⟨k0, k1, k2⟩
    · go_wp2
      go_ret
      exact ⟨_, rfl, .inl rfl, HC.out⟩
    · have k0' : ¬ q2 < 0 := by omega
      have H3 : Hid (BdOl q.toNat lines) := k2
      clear k2
      go_wp2
      go_ret
      exact ⟨_, rfl, .inr ⟨by omega, by omega, H2.out, H3.out.mono (by omega)⟩, HC.out⟩
end Go.Proofs.YtkgkahlhekecmaaGreat
