/- Texts of ours put together: RowGt, SzSn, SzPt, SzPts. -/
import Derived.Test.YtmffigmidlgigaaGreatDoorG02
import Derived.Test.YtmffigmidlgigaaGreatDoorG03
import Derived.Test.YtmffigmidlgigaaGreatDoorG04
import Derived.Test.YtmffigmidlgigaaGreatDoorG05
import Derived.Test.YtmffigmidlgigaaGreatDoorG01
namespace Go.Proofs.YtmffigmidlgigaaGreatDoor
open Go.ChangeShapes Go.WideShapes Go.ChangeAt Go.RowKit
/-- A Gate. -/
structure Gat where
  name : ByteArray
  day : Int
  ptns : List Ptn
  crss : List Crs
  book : Bk
  dffs : List Dff
  outs : List OutR
/-- What stands behind its cells. -/
structure RGt (W : World) (up uc us ul ud uo : Value) (g : Gat) : Prop where
  nm : g.name.size ≤ 9223372036854775807
  pt : RowPt W up g.ptns
  cs : RowCs W uc g.crss
  bk : RBk W us ul g.book
  df : RowDf W ud g.dffs
  ou : RowOu W uo g.outs
theorem RGt.below {W W' : World} {up uc us ul ud uo : Value} {g : Gat} (h : RGt W up uc us ul ud uo g) (hb : Below W.heap.size W W') : RGt W' up uc us ul ud uo g := ⟨h.nm, h.pt.below hb, h.cs.below hb, h.bk.below hb, h.df.below hb, h.ou.below hb⟩
def BdGt (n : Nat) (g : Gat) : Prop := g.name.size ≤ n ∧ BdsPt n g.ptns ∧ BdCs n g.crss ∧ BdBk n g.book ∧ BdDf n g.dffs ∧ BdOu n g.outs
theorem RGt.val {W : World} {up uc us ul ud uo : Value} {g : Gat} (h : RGt W up uc us ul ud uo g) : ∃ a0 c0 a1 c1 a2 c2 a3 c3 a4 c4 a5 c5, up = (.slice a0 g.ptns.length c0) ∧ uc = (.slice a1 g.crss.length c1) ∧ us = (.slice a2 g.book.stocks.length c2) ∧ ul = (.slice a3 g.book.lines.length c3) ∧ ud = (.slice a4 g.dffs.length c4) ∧ uo = (.slice a5 g.outs.length c5) := by
  obtain ⟨a0, c0, e0⟩ := h.pt.val
  obtain ⟨a1, c1, e1⟩ := h.cs.val
  obtain ⟨a2, c2, a3, c3, e2, e3⟩ := h.bk.val
  obtain ⟨a4, c4, e4⟩ := h.df.val
  obtain ⟨a5, c5, e5⟩ := h.ou.val
  exact ⟨a0, c0, a1, c1, a2, c2, a3, c3, a4, c4, a5, c5, e0, e1, e2, e3, e4, e5⟩
theorem bx8 {W : World} {b t : Nat} {x0 x1 x2 x3 x4 x5 x6 x7 : Value} (h : W.heap[b]? = some (.cells #[x0, x1, x2, x3, x4, x5, x6, x7] t)) : W.cell? ⟨b, 0, none⟩ = some x0 ∧ W.cell? ⟨b, 1, none⟩ = some x1 ∧ W.cell? ⟨b, 2, none⟩ = some x2 ∧ W.cell? ⟨b, 3, none⟩ = some x3 ∧ W.cell? ⟨b, 4, none⟩ = some x4 ∧ W.cell? ⟨b, 5, none⟩ = some x5 ∧ W.cell? ⟨b, 6, none⟩ = some x6 ∧ W.cell? ⟨b, 7, none⟩ = some x7 := by
  refine ⟨?_, ?_, ?_, ?_, ?_, ?_, ?_, ?_⟩ <;> simp [World.cell?, h]
theorem fz8 {W : World} {b t : Nat} {cs : Array Value} (h : W.heap[b]? = some (.cells cs t)) : ∀ o, W.frozen? ⟨b, o, none⟩ = false := fun o => by simp [World.frozen?, h]
theorem st8_2 {W : World} {b t : Nat} {x0 x1 x2 x3 x4 x5 x6 x7 : Value} (y : Value) (h : W.heap[b]? = some (.cells #[x0, x1, x2, x3, x4, x5, x6, x7] t)) : (W.setCell ⟨b, 2, none⟩ y).heap[b]? = some (.cells #[x0, x1, y, x3, x4, x5, x6, x7] t) := by
  simp [World.setCell, Array.getElem?_modify, h]
theorem st8_3 {W : World} {b t : Nat} {x0 x1 x2 x3 x4 x5 x6 x7 : Value} (y : Value) (h : W.heap[b]? = some (.cells #[x0, x1, x2, x3, x4, x5, x6, x7] t)) : (W.setCell ⟨b, 3, none⟩ y).heap[b]? = some (.cells #[x0, x1, x2, y, x4, x5, x6, x7] t) := by
  simp [World.setCell, Array.getElem?_modify, h]
theorem st8_4 {W : World} {b t : Nat} {x0 x1 x2 x3 x4 x5 x6 x7 : Value} (y : Value) (h : W.heap[b]? = some (.cells #[x0, x1, x2, x3, x4, x5, x6, x7] t)) : (W.setCell ⟨b, 4, none⟩ y).heap[b]? = some (.cells #[x0, x1, x2, x3, y, x5, x6, x7] t) := by
  simp [World.setCell, Array.getElem?_modify, h]
theorem st8_5 {W : World} {b t : Nat} {x0 x1 x2 x3 x4 x5 x6 x7 : Value} (y : Value) (h : W.heap[b]? = some (.cells #[x0, x1, x2, x3, x4, x5, x6, x7] t)) : (W.setCell ⟨b, 5, none⟩ y).heap[b]? = some (.cells #[x0, x1, x2, x3, x4, y, x6, x7] t) := by
  simp [World.setCell, Array.getElem?_modify, h]
theorem st8_6 {W : World} {b t : Nat} {x0 x1 x2 x3 x4 x5 x6 x7 : Value} (y : Value) (h : W.heap[b]? = some (.cells #[x0, x1, x2, x3, x4, x5, x6, x7] t)) : (W.setCell ⟨b, 6, none⟩ y).heap[b]? = some (.cells #[x0, x1, x2, x3, x4, x5, y, x7] t) := by
  simp [World.setCell, Array.getElem?_modify, h]
theorem st8_7 {W : World} {b t : Nat} {x0 x1 x2 x3 x4 x5 x6 x7 : Value} (y : Value) (h : W.heap[b]? = some (.cells #[x0, x1, x2, x3, x4, x5, x6, x7] t)) : (W.setCell ⟨b, 7, none⟩ y).heap[b]? = some (.cells #[x0, x1, x2, x3, x4, x5, x6, y] t) := by
  simp [World.setCell, Array.getElem?_modify, h]
end Go.Proofs.YtmffigmidlgigaaGreatDoor
namespace Go.Proofs.YtmffigmidlgigaaGreatDoor
open Go.ChangeShapes Go.WideShapes Go.ChangeAt Go.RowKit
set_option maxHeartbeats 1000000 in
theorem szSns_any (v : Value) (rs : List Sn) (left : Int) (w : World) (h : RowSn w v rs) (hl : 0 ≤ left ∧ left ≤ 1048576) :
    Calls Tryz.prog 82 #[v, .int .i64 left] w fun e w' => ∃ q : Int, e = .returned (.int .i64 q) ∧ (q = -1 ∨ (0 ≤ q ∧ q + (rs.length : Int) ≤ left ∧ BdSn left.toNat rs)) ∧ Below w.heap.size w w' := by
  have hlen := h.len
  obtain ⟨a, cap, rfl⟩ := h.val
  have H : Hid (RowSn w (.slice a rs.length cap) rs) := h
  clear h
  by_cases hn : left < (rs.length : Int)
  · have hn' : left - (rs.length : Int) < 0 := by omega
    go_enter Tryz.func82, Tryz.ntmps82
    go_wp2
    go_ret
    exact ⟨_, rfl, .inl rfl, Below.refl _ _⟩
  · have hn' : ¬ left - (rs.length : Int) < 0 := by omega
    go_enter Tryz.func82, Tryz.ntmps82
    go_wp2
    go_ret
    exact ⟨_, rfl, .inr ⟨by omega, by omega, show rs.length ≤ left.toNat by omega⟩, Below.refl _ _⟩
end Go.Proofs.YtmffigmidlgigaaGreatDoor
namespace Go.Proofs.YtmffigmidlgigaaGreatDoor
open Go.ChangeShapes Go.WideShapes Go.ChangeAt Go.RowKit
set_option maxHeartbeats 1000000 in
theorem szPt_any (r : Ptn) (u : Value) (left : Int) (w : World) (h : RPt w u r) (hl : 0 ≤ left ∧ left ≤ 1048576) :
    Calls Tryz.prog 48 #[.agg #[.string r.name, .int .i64 r.low, .int .i64 r.next, u], .int .i64 left] w fun e w' => ∃ q : Int, e = .returned (.int .i64 q) ∧ (q = -1 ∨ (0 ≤ q ∧ q + (r.seen.length : Int) ≤ left ∧ BdPt left.toNat r)) ∧ Below w.heap.size w w' := by
  obtain ⟨name, low, next, seen⟩ := r
  have hz_name : name.size ≤ 9223372036854775807 := h.z_name
  obtain ⟨a, cap, rfl⟩ := h.ls.val
  dsimp only at h ⊢
  have b0 : Below w.heap.size w (w.alloc (.cells #[.string name, .int .i64 low, .int .i64 next, (.slice a seen.length cap)] 87)) := (Below.refl _ _).alloc (Nat.le_refl _) _
  have H : Hid (RowSn (w.alloc (.cells #[.string name, .int .i64 low, .int .i64 next, (.slice a seen.length cap)] 87)) (.slice a seen.length cap) seen) := h.ls.below b0
  clear h
  by_cases h_name : left - (name.size : Int) < 0
  · go_enter Tryz.func48, Tryz.ntmps48
    go_wp2
    go_ret
    exact ⟨_, rfl, .inl rfl, b0⟩
  go_enter Tryz.func48, Tryz.ntmps48
  go_wp2_with fail
  refine (szSns_any _ seen (left - (name.size : Int)) _ H.out ⟨by omega, by omega⟩).mono ?_
  rintro e w1 ⟨q, rfl, hr, hb⟩
  have HB : Hid (Below w.heap.size w w1) := b0.trans (hb.mono (by simp))
  clear hb
  rcases hr with rfl | ⟨g0, g1, g2⟩
  · go_wp2
    go_ret
    exact ⟨_, rfl, .inl rfl, HB.out⟩
  · have g0' : ¬ q < 0 := by omega
    have H2 : Hid (BdSn (left - (name.size : Int)).toNat seen) := g2
    clear g2
    go_wp2
    go_ret
    exact ⟨_, rfl, .inr ⟨by omega, by omega, show name.size ≤ left.toNat by omega, H2.out.mono (by omega)⟩, HB.out⟩
end Go.Proofs.YtmffigmidlgigaaGreatDoor
namespace Go.Proofs.YtmffigmidlgigaaGreatDoor
open Go.ChangeShapes Go.WideShapes Go.ChangeAt Go.RowKit
set_option maxHeartbeats 1000000 in
theorem szsPt_any (v : Value) (rs : List Ptn) (left : Int) (w : World) (h : RowPt w v rs) (hl : 0 ≤ left ∧ left ≤ 1048576) :
    Calls Tryz.prog 13 #[v, .int .i64 left] w fun e w' => ∃ q : Int, e = .returned (.int .i64 q) ∧ (q = -1 ∨ (0 ≤ q ∧ q + (snP rs : Int) ≤ left ∧ BdsPt left.toNat rs)) ∧ Below w.heap.size w w' := by
  have hlen := h.len
  obtain ⟨a, cap, rfl⟩ := h.val
  have H : Hid (RowPt w (.slice a rs.length cap) rs) := h
  clear h
  by_cases hn : left < (rs.length : Int)
  · have hn' : left - (rs.length : Int) < 0 := by omega
    go_enter Tryz.func13, Tryz.ntmps13
    go_wp2
    go_ret
    exact ⟨_, rfl, .inl rfl, Below.refl _ _⟩
  · have hn' : ¬ left - (rs.length : Int) < 0 := by omega
    go_enter Tryz.func13, Tryz.ntmps13
    go_wp2
    go_loopw [1, 5] (fun l i wr => ∃ (k : Nat) (r : Int), l = .int .i64 r ∧ i = .int .i64 (k : Int) ∧ k ≤ rs.length ∧ 0 ≤ r ∧ r + (snP (rs.take k) : Int) ≤ left ∧ (∀ (j : Nat) (g : Ptn), j < k → rs[j]? = some g → BdPt left.toNat g) ∧ Below w.heap.size w wr) (fun _ i _ => rs.length - (intOf i).toNat)
    case atStart => exact ⟨0, _, rfl, rfl, by omega, by omega, by simp [snP]; omega, fun j s h => by omega, Below.refl _ _⟩
    case round =>
      obtain ⟨k, r, rfl, rfl, hk, hr0, hr1, hA, hb⟩ := hrel
      have HA : Hid ((∀ (j : Nat) (g : Ptn), j < k → rs[j]? = some g → BdPt left.toNat g) ∧ Below w.heap.size w wr) := ⟨hA, hb⟩
      clear hA hb
      by_cases hlt : k < rs.length
      · have hlt' : (k : Int) < (rs.length : Int) := by omega
        obtain ⟨b, o, cap', g, u, e, hs, ⟨q0, q1, q2, q3⟩, hR⟩ := (H.out.below HA.out.2).at hlt
        simp only [Value.slice.injEq, true_and] at e
        obtain ⟨rfl, rfl⟩ := e
        obtain ⟨n0, c0, rfl⟩ := hR.ls.val
        have HS : Hid (rs[k]? = some g ∧ RPt wr (.slice n0 g.seen.length c0) g) := ⟨hs, hR⟩
        clear hs hR
        go_wp2_with fail
        refine (szPt_any g _ r _ HS.out.2 ⟨hr0, by omega⟩).mono ?_
        rintro e w2 ⟨r2, rfl, hr2, hb2⟩
        have HB : Hid (Below w.heap.size w w2) := HA.out.2.trans (hb2.mono HA.out.2.size)
        clear hb2
        rcases hr2 with rfl | ⟨g0, g1, g2⟩
        · go_wp2
          go_ret
          exact ⟨_, rfl, .inl rfl, HB.out⟩
        · have H2 : Hid (BdPt r.toNat g) := g2
          have g0' : ¬ r2 < 0 := by omega
          clear g2
          go_wp2
          go_roundw
          case rel =>
            refine ⟨k + 1, _, rfl, by go_num, by omega, by omega, by rw [snP_take_succ HS.out.1]; omega, fun j t hj ht => ?_, HB.out⟩
            rcases Nat.lt_or_ge j k with q | q
            · exact HA.out.1 j t q ht
            · obtain rfl : j = k := by omega
              rw [HS.out.1] at ht
              cases ht
              exact H2.out.mono (by omega)
          case measure => simp [intOf]; omega
      · obtain rfl : k = rs.length := by omega
        go_wp2
        go_ret
        refine ⟨r, rfl, .inr ⟨hr0, by rw [List.take_length] at hr1; exact hr1, by omega, fun j s hj => HA.out.1 j s ?_ hj⟩, HA.out.2⟩
        exact (List.getElem?_eq_some_iff.1 hj).1
end Go.Proofs.YtmffigmidlgigaaGreatDoor
