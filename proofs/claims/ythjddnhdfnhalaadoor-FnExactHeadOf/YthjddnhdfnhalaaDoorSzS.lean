/- The measure of a list of texts: what it lets pass is bounded. -/
import Derived.Test.YthjddnhdfnhalaaDoorDeepRow
namespace Go.Proofs.YthjddnhdfnhalaaDoor
open Go.ChangeShapes Go.WideShapes Go.ChangeAt Go.RowKit
set_option maxHeartbeats 1000000 in
theorem szS_any (v : Value) (ss : List ByteArray) (left : Int) (w : World) (h : RowS w v ss) (hl : 0 ≤ left ∧ left ≤ 1048576) :
    Calls Tryd.prog 56 #[v, .int .i64 left] w fun e w' => ∃ r : Int, e = .returned (.int .i64 r) ∧ (r = -1 ∨ (0 ≤ r ∧ r ≤ left ∧ BdS left.toNat ss)) ∧ Below w.heap.size w w' := by
  have hlen := h.len
  obtain ⟨a, cap, rfl⟩ := h.val
  have H : Hid (RowS w (.slice a ss.length cap) ss) := h
  clear h
  by_cases hn : left < (ss.length : Int)
  · have hn' : left - (ss.length : Int) < 0 := by omega
    go_enter Tryd.func56, Tryd.ntmps56
    go_wp2
    go_ret
    exact ⟨_, rfl, .inl rfl, Below.refl _ _⟩
  · have hn' : ¬ left - (ss.length : Int) < 0 := by omega
    go_enter Tryd.func56, Tryd.ntmps56
    go_wp2
    go_loopw [1, 5] (fun l i wr => ∃ (k : Nat) (r : Int), l = .int .i64 r ∧ i = .int .i64 (k : Int) ∧ k ≤ ss.length ∧ 0 ≤ r ∧ r ≤ left ∧ (∀ (j : Nat) (s : ByteArray), j < k → ss[j]? = some s → s.size ≤ left.toNat) ∧ wr = w) (fun _ i _ => ss.length - (intOf i).toNat)
    case atStart => exact ⟨0, _, rfl, rfl, by omega, by omega, by omega, fun j s h => by omega, rfl⟩
    case round =>
      obtain ⟨k, r, rfl, rfl, hk, hr0, hr1, hA, rfl⟩ := hrel
      have HA : Hid (∀ (j : Nat) (s : ByteArray), j < k → ss[j]? = some s → s.size ≤ left.toNat) := hA
      clear hA
      by_cases hlt : k < ss.length
      · have hlt' : (k : Int) < (ss.length : Int) := by omega
        obtain ⟨b, o, cap', s, e, hs, hc, hsz⟩ := H.out.at hlt
        simp only [Value.slice.injEq, true_and] at e
        obtain ⟨rfl, rfl⟩ := e
        have HS : Hid (ss[k]? = some s) := hs
        clear hs
        by_cases hneg : r - (s.size : Int) < 0
        · go_wp2
          go_ret
          exact ⟨_, rfl, .inl rfl, Below.refl _ _⟩
        · go_wp2
          go_roundw
          case rel =>
            refine ⟨k + 1, _, rfl, by go_num, by omega, by omega, by omega, fun j t hj ht => ?_, trivial⟩
            rcases Nat.lt_or_ge j k with g | g
            · exact HA.out j t g ht
            · obtain rfl : j = k := by omega
              rw [HS.out] at ht
              cases ht
              omega
          case measure => simp [intOf]; omega
      · obtain rfl : k = ss.length := by omega
        go_wp2
        go_ret
        refine ⟨r, rfl, .inr ⟨hr0, hr1, by omega, fun j s hj => HA.out j s ?_ hj⟩, Below.refl _ _⟩
        exact (List.getElem?_eq_some_iff.1 hj).1
theorem BdS.mono {m n : Nat} {ss : List ByteArray} (h : BdS m ss) (hmn : m ≤ n) : BdS n ss := ⟨Nat.le_trans h.1 hmn, fun i s hi => Nat.le_trans (h.2 i s hi) hmn⟩
end Go.Proofs.YthjddnhdfnhalaaDoor
