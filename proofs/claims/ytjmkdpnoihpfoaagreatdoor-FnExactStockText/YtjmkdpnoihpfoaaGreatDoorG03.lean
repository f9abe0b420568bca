/- Texts of ours put together: RowBk, SzSt. -/
import Derived.Test.YtjmkdpnoihpfoaaGreatDoorG01
import Derived.Test.YtjmkdpnoihpfoaaGreatDoorG02
namespace Go.Proofs.YtjmkdpnoihpfoaaGreatDoor
open Go.ChangeShapes Go.WideShapes Go.ChangeAt Go.RowKit
/-- A Book. -/
structure Bk where
  stocks : List Stk
  lines : List OLn
/-- What stands behind its two cells. -/
structure RBk (W : World) (us ul : Value) (b : Bk) : Prop where
  st : RowSt W us b.stocks
  ln : RowOl W ul b.lines
theorem RBk.below {W W' : World} {us ul : Value} {b : Bk} (h : RBk W us ul b) (hb : Below W.heap.size W W') : RBk W' us ul b := ⟨h.st.below hb, h.ln.below hb⟩
def BdBk (n : Nat) (b : Bk) : Prop := BdSt n b.stocks ∧ BdOl n b.lines
theorem BdBk.mono {m n : Nat} {b : Bk} (h : BdBk m b) (hmn : m ≤ n) : BdBk n b := ⟨BdSt.mono h.1 hmn, BdOl.mono h.2 hmn⟩
theorem RBk.val {W : World} {us ul : Value} {b : Bk} (h : RBk W us ul b) : ∃ a c a' c', us = .slice a b.stocks.length c ∧ ul = .slice a' b.lines.length c' := by
  obtain ⟨a, c, e⟩ := h.st.val
  obtain ⟨a', c', e'⟩ := h.ln.val
  exact ⟨a, c, a', c', e, e'⟩
theorem box2 {W : World} {b t : Nat} {x0 x1 : Value} (h : W.heap[b]? = some (.cells #[x0, x1] t)) : W.cell? ⟨b, 0, none⟩ = some x0 ∧ W.cell? ⟨b, 1, none⟩ = some x1 := by
  refine ⟨?_, ?_⟩ <;> simp [World.cell?, h]
theorem frz2 {W : World} {b t : Nat} {x0 x1 : Value} (h : W.heap[b]? = some (.cells #[x0, x1] t)) : ∀ o, W.frozen? ⟨b, o, none⟩ = false := fun o => by simp [World.frozen?, h]
theorem set2a {W : World} {b t : Nat} {x0 x1 : Value} (y : Value) (h : W.heap[b]? = some (.cells #[x0, x1] t)) : (W.setCell ⟨b, 0, none⟩ y).heap[b]? = some (.cells #[y, x1] t) := by
  simp [World.setCell, Array.getElem?_modify, h]
theorem set2b {W : World} {b t : Nat} {x0 x1 : Value} (y : Value) (h : W.heap[b]? = some (.cells #[x0, x1] t)) : (W.setCell ⟨b, 1, none⟩ y).heap[b]? = some (.cells #[x0, y] t) := by
  simp [World.setCell, Array.getElem?_modify, h]
theorem setNe {W : World} {b c i : Nat} (y : Value) (h : b ≠ c) : (W.setCell ⟨c, i, none⟩ y).heap[b]? = W.heap[b]? := by
  simp [World.setCell, Array.getElem?_modify]
  intro e
  omega
end Go.Proofs.YtjmkdpnoihpfoaaGreatDoor
namespace Go.Proofs.YtjmkdpnoihpfoaaGreatDoor
open Go.ChangeShapes Go.WideShapes Go.ChangeAt Go.RowKit
set_option maxHeartbeats 1000000 in
theorem szSt_any (g : Stk) (left : Int) (w : World) (hz : g.item.size ≤ 9223372036854775807) (hl : 0 ≤ left ∧ left ≤ 1048576) :
    Calls Tryz.prog 24 #[.agg #[.string g.item, .int .i64 g.hand], .int .i64 left] w fun e w' => ∃ r : Int, e = .returned (.int .i64 r) ∧ (r = -1 ∨ (0 ≤ r ∧ r ≤ left ∧ g.item.size ≤ left.toNat)) ∧ Below w.heap.size w w' := by
  obtain ⟨item, hand⟩ := g
  dsimp only at hz ⊢
  by_cases h_item : left - (item.size : Int) < 0
  · go_enter Tryz.func24, Tryz.ntmps24
    go_wp2
    go_ret
    exact ⟨_, rfl, .inl rfl, (Below.refl _ _).alloc (Nat.le_refl _) _⟩
  go_enter Tryz.func24, Tryz.ntmps24
  go_wp2
  go_ret
  exact ⟨_, rfl, .inr ⟨by omega, by omega, by omega⟩, (Below.refl _ _).alloc (Nat.le_refl _) _⟩
set_option maxHeartbeats 1000000 in
theorem szSts_any (v : Value) (rs : List Stk) (left : Int) (w : World) (h : RowSt w v rs) (hl : 0 ≤ left ∧ left ≤ 1048576) :
    Calls Tryz.prog 9 #[v, .int .i64 left] w fun e w' => ∃ q : Int, e = .returned (.int .i64 q) ∧ (q = -1 ∨ (0 ≤ q ∧ q ≤ left ∧ BdSt left.toNat rs)) ∧ Below w.heap.size w w' := by
  have hlen := h.len
  obtain ⟨a, cap, rfl⟩ := h.val
  have H : Hid (RowSt w (.slice a rs.length cap) rs) := h
  clear h
  by_cases hn : left < (rs.length : Int)
  · have hn' : left - (rs.length : Int) < 0 := by omega
    go_enter Tryz.func9, Tryz.ntmps9
    go_wp2
    go_ret
    exact ⟨_, rfl, .inl rfl, Below.refl _ _⟩
  · have hn' : ¬ left - (rs.length : Int) < 0 := by omega
    go_enter Tryz.func9, Tryz.ntmps9
    go_wp2
    go_loopw [1, 5] (fun l i wr => ∃ (k : Nat) (r : Int), l = .int .i64 r ∧ i = .int .i64 (k : Int) ∧ k ≤ rs.length ∧ 0 ≤ r ∧ r ≤ left ∧ (∀ (j : Nat) (g : Stk), j < k → rs[j]? = some g → g.item.size ≤ left.toNat) ∧ Below w.heap.size w wr) (fun _ i _ => rs.length - (intOf i).toNat)
    case atStart => exact ⟨0, _, rfl, rfl, by omega, by omega, by omega, fun j s h => by omega, Below.refl _ _⟩
    case round =>
      obtain ⟨k, r, rfl, rfl, hk, hr0, hr1, hA, hb⟩ := hrel
      have HA : Hid ((∀ (j : Nat) (g : Stk), j < k → rs[j]? = some g → g.item.size ≤ left.toNat) ∧ Below w.heap.size w wr) := ⟨hA, hb⟩
      clear hA hb
      by_cases hlt : k < rs.length
      · have hlt' : (k : Int) < (rs.length : Int) := by omega
        obtain ⟨b, o, cap', g, e, hs, ⟨q0, q1⟩, hz⟩ := (H.out.below HA.out.2).at hlt
        simp only [Value.slice.injEq, true_and] at e
        obtain ⟨rfl, rfl⟩ := e
        have HS : Hid (rs[k]? = some g) := hs
        clear hs
        go_wp2_with fail
        refine (szSt_any g r _ hz ⟨hr0, by omega⟩).mono ?_
        rintro e w2 ⟨r2, rfl, hr2, hb2⟩
        have HB : Hid (Below w.heap.size w w2) := HA.out.2.trans (hb2.mono HA.out.2.size)
        clear hb2
        rcases hr2 with rfl | ⟨g0, g1, g2⟩
        · go_wp2
          go_ret
          exact ⟨_, rfl, .inl rfl, HB.out⟩
        · have H2 : Hid (g.item.size ≤ r.toNat) := g2
          have g0' : ¬ r2 < 0 := by omega
          clear g2
          go_wp2
          go_roundw
          case rel =>
            refine ⟨k + 1, _, rfl, by go_num, by omega, by omega, by omega, fun j t hj ht => ?_, HB.out⟩
            rcases Nat.lt_or_ge j k with q | q
            · exact HA.out.1 j t q ht
            · obtain rfl : j = k := by omega
              rw [HS.out] at ht
              cases ht
              have := H2.out
              omega
          case measure => simp [intOf]; omega
      · obtain rfl : k = rs.length := by omega
        go_wp2
        go_ret
        refine ⟨r, rfl, .inr ⟨hr0, hr1, by omega, fun j s hj => HA.out.1 j s ?_ hj⟩, HA.out.2⟩
        exact (List.getElem?_eq_some_iff.1 hj).1
end Go.Proofs.YtjmkdpnoihpfoaaGreatDoor
