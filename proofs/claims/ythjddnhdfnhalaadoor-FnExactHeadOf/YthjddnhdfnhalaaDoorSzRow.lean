/- Contracts of the laws' own measures: what they let pass is bounded. -/
import Derived.Test.YthjddnhdfnhalaaDoorDeepRow
import Derived.Test.YthjddnhdfnhalaaDoorSzS
namespace Go.Proofs.YthjddnhdfnhalaaDoor
open Go.ChangeShapes Go.WideShapes Go.ChangeAt Go.RowKit
set_option maxHeartbeats 400000 in
theorem szEl_any (v : Value) (ss : List ByteArray) (left : Int) (w : World) (h : RowS w v ss) (hl : 0 ≤ left ∧ left ≤ 1048576) :
    Calls Tryd.prog 46 #[.agg #[v], .int .i64 left] w fun e w' => ∃ r : Int, e = .returned (.int .i64 r) ∧ (r = -1 ∨ (0 ≤ r ∧ r ≤ left ∧ BdS left.toNat ss)) ∧ Below w.heap.size w w' := by
  obtain ⟨a, cap, rfl⟩ := h.val
  have H : Hid (RowS w (.slice a ss.length cap) ss) := h
  clear h
  go_enter Tryd.func46, Tryd.ntmps46
  go_wp2_with fail
  refine (szS_any _ ss left _ (H.out.below ((Below.refl _ _).alloc (Nat.le_refl _) _)) hl).mono ?_
  rintro e w1 ⟨r, rfl, hr, hb⟩
  have HB : Hid (Below w.heap.size w w1) := ((Below.refl _ _).alloc (Nat.le_refl _) _).trans (hb.mono (by simp))
  clear hb
  rcases hr with rfl | ⟨h0, h1, h2⟩
  · go_wp2
    go_ret
    exact ⟨_, rfl, .inl rfl, HB.out⟩
  · have h0' : ¬ r < 0 := by omega
    have H2 : Hid (BdS left.toNat ss) := h2
    clear h2
    go_wp2
    go_ret
    exact ⟨_, rfl, .inr ⟨h0, h1, H2.out⟩, HB.out⟩
set_option maxHeartbeats 1000000 in
theorem szE_any (v : Value) (es : List (List ByteArray)) (left : Int) (w : World) (h : RowE w v es) (hl : 0 ≤ left ∧ left ≤ 1048576) :
    Calls Tryd.prog 32 #[v, .int .i64 left] w fun e w' => ∃ r : Int, e = .returned (.int .i64 r) ∧ (r = -1 ∨ (0 ≤ r ∧ r ≤ left ∧ BdE left.toNat es)) ∧ Below w.heap.size w w' := by
  have hlen := h.len
  obtain ⟨a, cap, rfl⟩ := h.val
  have H : Hid (RowE w (.slice a es.length cap) es) := h
  clear h
  by_cases hn : left < (es.length : Int)
  · have hn' : left - (es.length : Int) < 0 := by omega
    go_enter Tryd.func32, Tryd.ntmps32
    go_wp2
    go_ret
    exact ⟨_, rfl, .inl rfl, Below.refl _ _⟩
  · have hn' : ¬ left - (es.length : Int) < 0 := by omega
    go_enter Tryd.func32, Tryd.ntmps32
    go_wp2
    go_loopw [1, 5] (fun l i wr => ∃ (k : Nat) (r : Int), l = .int .i64 r ∧ i = .int .i64 (k : Int) ∧ k ≤ es.length ∧ 0 ≤ r ∧ r ≤ left ∧ (∀ (j : Nat) (e : List ByteArray), j < k → es[j]? = some e → BdS left.toNat e) ∧ Below w.heap.size w wr) (fun _ i _ => es.length - (intOf i).toNat)
    case atStart => exact ⟨0, _, rfl, rfl, by omega, by omega, by omega, fun j s h => by omega, Below.refl _ _⟩
    case round =>
      obtain ⟨k, r, rfl, rfl, hk, hr0, hr1, hA, hb⟩ := hrel
      have HA : Hid ((∀ (j : Nat) (e : List ByteArray), j < k → es[j]? = some e → BdS left.toNat e) ∧ Below w.heap.size w wr) := ⟨hA, hb⟩
      clear hA hb
      by_cases hlt : k < es.length
      · have hlt' : (k : Int) < (es.length : Int) := by omega
        obtain ⟨b, o, cap', s, u, e, hs, hc, hS⟩ := (H.out.below HA.out.2).at hlt
        simp only [Value.slice.injEq, true_and] at e
        obtain ⟨rfl, rfl⟩ := e
        have HS : Hid (es[k]? = some s ∧ RowS wr u s) := ⟨hs, hS⟩
        clear hs hS
        go_wp2_with fail
        refine (szEl_any u s r _ HS.out.2 ⟨hr0, by omega⟩).mono ?_
        rintro e w2 ⟨r2, rfl, hr2, hb2⟩
        have HB : Hid (Below w.heap.size w w2) := HA.out.2.trans (hb2.mono HA.out.2.size)
        clear hb2
        rcases hr2 with rfl | ⟨g0, g1, g2⟩
        · go_wp2
          go_ret
          exact ⟨_, rfl, .inl rfl, HB.out⟩
        · have H2 : Hid (BdS r.toNat s) := g2
          have g0' : ¬ r2 < 0 := by omega
          clear g2
          go_wp2
          go_roundw
          case rel =>
            refine ⟨k + 1, _, rfl, by go_num, by omega, by omega, by omega, fun j t hj ht => ?_, HB.out⟩
            rcases Nat.lt_or_ge j k with g | g
            · exact HA.out.1 j t g ht
            · obtain rfl : j = k := by omega
              rw [HS.out.1] at ht
              cases ht
              exact H2.out.mono (by omega)
          case measure => simp [intOf]; omega
      · obtain rfl : k = es.length := by omega
        go_wp2
        go_ret
        refine ⟨r, rfl, .inr ⟨hr0, hr1, by omega, fun j s hj => HA.out.1 j s ?_ hj⟩, HA.out.2⟩
        exact (List.getElem?_eq_some_iff.1 hj).1
set_option maxHeartbeats 1000000 in
theorem szG_any (tag : ByteArray) (v : Value) (es : List (List ByteArray)) (left : Int) (w : World) (ht : tag.size ≤ 9223372036854775807) (h : RowE w v es) (hl : 0 ≤ left ∧ left ≤ 1048576) :
    Calls Tryd.prog 13 #[.agg #[.string tag, v], .int .i64 left] w fun e w' => ∃ r : Int, e = .returned (.int .i64 r) ∧ (r = -1 ∨ (0 ≤ r ∧ r ≤ left ∧ tag.size ≤ left.toNat ∧ BdE left.toNat es)) ∧ Below w.heap.size w w' := by
  obtain ⟨a, cap, rfl⟩ := h.val
  have H : Hid (RowE w (.slice a es.length cap) es) := h
  clear h
  by_cases hn : left - (tag.size : Int) < 0
  · go_enter Tryd.func13, Tryd.ntmps13
    go_wp2
    go_ret
    exact ⟨_, rfl, .inl rfl, (Below.refl _ _).alloc (Nat.le_refl _) _⟩
  · go_enter Tryd.func13, Tryd.ntmps13
    go_wp2_with fail
    refine (szE_any _ es (left - (tag.size : Int)) _ (H.out.below ((Below.refl _ _).alloc (Nat.le_refl _) _)) ⟨by omega, by omega⟩).mono ?_
    rintro e w1 ⟨r, rfl, hr, hb⟩
    have HB : Hid (Below w.heap.size w w1) := ((Below.refl _ _).alloc (Nat.le_refl _) _).trans (hb.mono (by simp))
    clear hb
    rcases hr with rfl | ⟨h0, h1, h2⟩
    · go_wp2
      go_ret
      exact ⟨_, rfl, .inl rfl, HB.out⟩
    · have h0' : ¬ r < 0 := by omega
      have H2 : Hid (BdE (left - (tag.size : Int)).toNat es) := h2
      clear h2
      go_wp2
      go_ret
      exact ⟨_, rfl, .inr ⟨h0, by omega, by omega, Nat.le_trans H2.out.1 (by omega), fun i e hi => (H2.out.2 i e hi).mono (by omega)⟩, HB.out⟩
end Go.Proofs.YthjddnhdfnhalaaDoor
