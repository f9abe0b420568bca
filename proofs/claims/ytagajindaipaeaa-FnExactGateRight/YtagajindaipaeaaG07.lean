/- Texts of ours put together: SzPt, SzPts. -/
import Derived.Test.YtagajindaipaeaaG02
import Derived.Test.YtagajindaipaeaaG06
namespace Go.Proofs.Ytagajindaipaeaa
open Go.ChangeShapes Go.WideShapes Go.ChangeAt Go.RowKit
set_option maxHeartbeats 1000000 in
theorem szPt_any (r : Ptn) (u : Value) (left : Int) (w : World) (h : RPt w u r) (hl : 0 ≤ left ∧ left ≤ 1048576) :
    Calls Try.prog 66 #[.agg #[.string r.name, .int .i64 r.low, .int .i64 r.next, u], .int .i64 left] w fun e w' => ∃ q : Int, e = .returned (.int .i64 q) ∧ (q = -1 ∨ (0 ≤ q ∧ q ≤ left ∧ BdPt left.toNat r)) ∧ Below w.heap.size w w' := by
  obtain ⟨name, low, next, seen⟩ := r
  have hz_name : name.size ≤ 9223372036854775807 := h.z_name
  obtain ⟨a, cap, rfl⟩ := h.ls.val
  dsimp only at h ⊢
  have b0 : Below w.heap.size w (w.alloc (.cells #[.string name, .int .i64 low, .int .i64 next, (.slice a seen.length cap)] 99)) := (Below.refl _ _).alloc (Nat.le_refl _) _
  have H : Hid (RowSn (w.alloc (.cells #[.string name, .int .i64 low, .int .i64 next, (.slice a seen.length cap)] 99)) (.slice a seen.length cap) seen) := h.ls.below b0
  clear h
  by_cases h_name : left - (name.size : Int) < 0
  · go_enter Try.func66, Try.ntmps66
    go_wp2
    go_ret
    exact ⟨_, rfl, .inl rfl, b0⟩
  go_enter Try.func66, Try.ntmps66
  go_wp2_with fail
  refine (szSns_any _ seen (left - (name.size : Int)) _ H.out ⟨by omega, by omega⟩).mono ?_
  rintro e w1 ⟨q, rfl, hr, hb⟩
  have HB : Hid (Below w.heap.size w w1) := b0.trans (hb.mono (by simp))
  clear hb
  rcases hr with rfl | ⟨g0, g1, g2⟩
  · go_wp2
    go_ret
    exact ⟨_, rfl, .inl rfl, HB.out⟩
  · have g0' : ¬ q < 0 := by omega
    have H2 : Hid (BdSn (left - (name.size : Int)).toNat seen) := g2
    clear g2
    go_wp2
    go_ret
    exact ⟨_, rfl, .inr ⟨by omega, by omega, show name.size ≤ left.toNat by omega, H2.out.mono (by omega)⟩, HB.out⟩
end Go.Proofs.Ytagajindaipaeaa
namespace Go.Proofs.Ytagajindaipaeaa
open Go.ChangeShapes Go.WideShapes Go.ChangeAt Go.RowKit
set_option maxHeartbeats 1000000 in
theorem szsPt_any (v : Value) (rs : List Ptn) (left : Int) (w : World) (h : RowPt w v rs) (hl : 0 ≤ left ∧ left ≤ 1048576) :
    Calls Try.prog 32 #[v, .int .i64 left] w fun e w' => ∃ q : Int, e = .returned (.int .i64 q) ∧ (q = -1 ∨ (0 ≤ q ∧ q ≤ left ∧ BdsPt left.toNat rs)) ∧ Below w.heap.size w w' := by
  have hlen := h.len
  obtain ⟨a, cap, rfl⟩ := h.val
  have H : Hid (RowPt w (.slice a rs.length cap) rs) := h
  clear h
  by_cases hn : left < (rs.length : Int)
  · have hn' : left - (rs.length : Int) < 0 := by omega
    go_enter Try.func32, Try.ntmps32
    go_wp2
    go_ret
    exact ⟨_, rfl, .inl rfl, Below.refl _ _⟩
  · have hn' : ¬ left - (rs.length : Int) < 0 := by omega
    go_enter Try.func32, Try.ntmps32
    go_wp2
    go_loopw [1, 5] (fun l i wr => ∃ (k : Nat) (r : Int), l = .int .i64 r ∧ i = .int .i64 (k : Int) ∧ k ≤ rs.length ∧ 0 ≤ r ∧ r ≤ left ∧ (∀ (j : Nat) (g : Ptn), j < k → rs[j]? = some g → BdPt left.toNat g) ∧ Below w.heap.size w wr) (fun _ i _ => rs.length - (intOf i).toNat)
    case atStart => exact ⟨0, _, rfl, rfl, by omega, by omega, by omega, fun j s h => by omega, Below.refl _ _⟩
    case round =>
      obtain ⟨k, r, rfl, rfl, hk, hr0, hr1, hA, hb⟩ := hrel
      have HA : Hid ((∀ (j : Nat) (g : Ptn), j < k → rs[j]? = some g → BdPt left.toNat g) ∧ Below w.heap.size w wr) := ⟨hA, hb⟩
      clear hA hb
      by_cases hlt : k < rs.length
      · have hlt' : (k : Int) < (rs.length : Int) := by omega
        obtain ⟨b, o, cap', g, u, e, hs, ⟨q0, q1, q2, q3⟩, hR⟩ := (H.out.below HA.out.2).at hlt
        simp only [Value.slice.injEq, true_and] at e
        obtain ⟨rfl, rfl⟩ := e
        obtain ⟨n0, c0, rfl⟩ := hR.ls.val
        have HS : Hid (rs[k]? = some g ∧ RPt wr (.slice n0 g.seen.length c0) g) := ⟨hs, hR⟩
        clear hs hR
        go_wp2_with fail
        refine (szPt_any g _ r _ HS.out.2 ⟨hr0, by omega⟩).mono ?_
        rintro e w2 ⟨r2, rfl, hr2, hb2⟩
        have HB : Hid (Below w.heap.size w w2) := HA.out.2.trans (hb2.mono HA.out.2.size)
        clear hb2
        rcases hr2 with rfl | ⟨g0, g1, g2⟩
        · go_wp2
          go_ret
          exact ⟨_, rfl, .inl rfl, HB.out⟩
        · have H2 : Hid (BdPt r.toNat g) := g2
          have g0' : ¬ r2 < 0 := by omega
          clear g2
          go_wp2
          go_roundw
          case rel =>
            refine ⟨k + 1, _, rfl, by go_num, by omega, by omega, by omega, fun j t hj ht => ?_, HB.out⟩
            rcases Nat.lt_or_ge j k with q | q
            · exact HA.out.1 j t q ht
            · obtain rfl : j = k := by omega
              rw [HS.out.1] at ht
              cases ht
              exact H2.out.mono (by omega)
          case measure => simp [intOf]; omega
      · obtain rfl : k = rs.length := by omega
        go_wp2
        go_ret
        refine ⟨r, rfl, .inr ⟨hr0, hr1, by omega, fun j s hj => HA.out.1 j s ?_ hj⟩, HA.out.2⟩
        exact (List.getElem?_eq_some_iff.1 hj).1
end Go.Proofs.Ytagajindaipaeaa
