/- Contracts of isTag and isPart, and of the model's l02Tag and l02Part, at every text. -/
import Derived.Test.YtphgheojfnlgjaaDoorDeepRow
namespace Go.Proofs.YtphgheojfnlgjaaDoor
open Go.ChangeShapes Go.WideShapes Go.ChangeAt Go.RowKit
/-- Are all bytes within these limits? -/
def rngB (lo hi : Nat) (t : ByteArray) : Bool := t.data.toList.all fun x => decide (lo ≤ x.toNat) && decide (x.toNat ≤ hi)
theorem rngB_yes {lo hi : Nat} {t : ByteArray} (h : ∀ (j : Nat) (hj : j < t.size), lo ≤ (t[j]'hj).toNat ∧ (t[j]'hj).toNat ≤ hi) : rngB lo hi t = true := by
  unfold rngB
  rw [List.all_eq_true]
  intro x hx
  obtain ⟨j, hj, rfl⟩ := List.mem_iff_getElem.1 hx
  have := h j (by simpa using hj)
  simp only [Bool.and_eq_true, decide_eq_true_eq]
  exact this
theorem rngB_no {lo hi : Nat} {t : ByteArray} (j : Nat) (hj : j < t.size) (h : (t[j]'hj).toNat < lo ∨ hi < (t[j]'hj).toNat) : rngB lo hi t = false := by
  unfold rngB
  rw [List.all_eq_false]
  refine ⟨t[j]'hj, ?_, ?_⟩
  · have hj' : j < t.data.toList.length := by simpa using hj
    exact List.mem_iff_getElem.2 ⟨j, hj', rfl⟩
  · simp only [Bool.and_eq_true, decide_eq_true_eq]
    omega
def tagB (t : ByteArray) : Bool := decide (t.size = 3) && rngB 65 90 t
def partB (t : ByteArray) : Bool := decide (t.size ≤ 40) && rngB 32 126 t
set_option maxHeartbeats 1000000 in
theorem isPart_any (t : ByteArray) (w : World) : Calls Tryd.prog 48 #[.string t] w fun e w' => e = .returned (.bool (partB t)) ∧ w' = w := by
  by_cases hs : t.size ≤ 40
  · have hB : partB t = rngB 32 126 t := by simp [partB, hs]
    rw [hB]
    have hs' : ¬ (40 : Int) < (t.size : Int) := by omega
    have hs2 : (t.size : Int) ≤ 40 := by omega
    go_enter Tryd.func48, Tryd.ntmps48
    go_wp2
    go_loopw [9] (fun i wr => ∃ k : Nat, i = .int .i64 (k : Int) ∧ k ≤ t.size ∧ (∀ (j : Nat) (hj : j < t.size), j < k → 32 ≤ (t[j]'hj).toNat ∧ (t[j]'hj).toNat ≤ 126) ∧ wr = w) (fun i _ => t.size - (intOf i).toNat)
    case atStart => exact ⟨0, rfl, by omega, fun j hj h => by omega, rfl⟩
    case round =>
      obtain ⟨k, rfl, hk, hA, rfl⟩ := hrel
      have HA : Hid (∀ (j : Nat) (hj : j < t.size), j < k → 32 ≤ (t[j]'hj).toNat ∧ (t[j]'hj).toNat ≤ 126) := hA
      clear hA
      by_cases hlt : k < t.size
      · have hlt' : (k : Int) < (t.size : Int) := by omega
        skip
        have hx0 : 0 ≤ ((t[k]'hlt).toNat : Int) := by omega
        have hx1 : ((t[k]'hlt).toNat : Int) ≤ 255 := by have := (t[k]'hlt).toNat_lt; omega
        by_cases hlo : ((t[k]'hlt).toNat : Int) < 32
        · have d1 : decide (((t[k]'hlt).toNat : Int) < 32) = true := by simpa using hlo
          go_wp2
          go_ret
          exact ⟨ret_bool (rngB_no k hlt (by omega)).symm, rfl⟩
        · have d1 : decide (((t[k]'hlt).toNat : Int) < 32) = false := by simpa using hlo
          by_cases hhi : 126 < ((t[k]'hlt).toNat : Int)
          · have d2 : decide (126 < ((t[k]'hlt).toNat : Int)) = true := by simpa using hhi
            go_wp2
            go_ret
            exact ⟨ret_bool (rngB_no k hlt (by omega)).symm, rfl⟩
          · have d2 : decide (126 < ((t[k]'hlt).toNat : Int)) = false := by simpa using hhi
            go_wp2
            go_roundw
            case rel =>
              refine ⟨k + 1, by go_num, by omega, fun j hj h => ?_, trivial⟩
              rcases Nat.lt_or_ge j k with g | g
              · exact HA.out j hj g
              · obtain rfl : j = k := by omega
                omega
            case measure => simp [intOf]; omega
      · obtain rfl : k = t.size := by omega
        skip
        go_wp2
        go_ret
        exact ⟨ret_bool (rngB_yes fun j hj => HA.out j hj hj).symm, rfl⟩
  · have hB : partB t = false := by simp [partB, hs]
    rw [hB]
    have hs' : (40 : Int) < (t.size : Int) := by omega
    go_enter Tryd.func48, Tryd.ntmps48
    go_wp2
    go_ret
    exact ⟨rfl, rfl⟩
set_option maxHeartbeats 1000000 in
theorem l02Part_any (t : ByteArray) (w : World) : Calls Tryd.prog 38 #[.string t] w fun e w' => e = .returned (.bool (partB t)) ∧ w' = w := by
  by_cases hs : t.size ≤ 40
  · have hB : partB t = rngB 32 126 t := by simp [partB, hs]
    rw [hB]
    have hs' : ¬ (40 : Int) < (t.size : Int) := by omega
    have hs2 : (t.size : Int) ≤ 40 := by omega
    go_enter Tryd.func38, Tryd.ntmps38
    go_wp2
    go_loopw [3] (fun i wr => ∃ k : Nat, i = .int .i64 (k : Int) ∧ k ≤ t.size ∧ (∀ (j : Nat) (hj : j < t.size), j < k → 32 ≤ (t[j]'hj).toNat ∧ (t[j]'hj).toNat ≤ 126) ∧ wr = w) (fun i _ => t.size - (intOf i).toNat)
    case atStart => exact ⟨0, rfl, by omega, fun j hj h => by omega, rfl⟩
    case round =>
      obtain ⟨k, rfl, hk, hA, rfl⟩ := hrel
      have HA : Hid (∀ (j : Nat) (hj : j < t.size), j < k → 32 ≤ (t[j]'hj).toNat ∧ (t[j]'hj).toNat ≤ 126) := hA
      clear hA
      by_cases hlt : k < t.size
      · have hlt' : (k : Int) < (t.size : Int) := by omega
        skip
        have hx0 : 0 ≤ ((t[k]'hlt).toNat : Int) := by omega
        have hx1 : ((t[k]'hlt).toNat : Int) ≤ 255 := by have := (t[k]'hlt).toNat_lt; omega
        by_cases hlo : ((t[k]'hlt).toNat : Int) < 32
        · have d1 : decide (((t[k]'hlt).toNat : Int) < 32) = true := by simpa using hlo
          go_wp2
          go_ret
          exact ⟨ret_bool (rngB_no k hlt (by omega)).symm, rfl⟩
        · have d1 : decide (((t[k]'hlt).toNat : Int) < 32) = false := by simpa using hlo
          by_cases hhi : 126 < ((t[k]'hlt).toNat : Int)
          · have d2 : decide (126 < ((t[k]'hlt).toNat : Int)) = true := by simpa using hhi
            go_wp2
            go_ret
            exact ⟨ret_bool (rngB_no k hlt (by omega)).symm, rfl⟩
          · have d2 : decide (126 < ((t[k]'hlt).toNat : Int)) = false := by simpa using hhi
            go_wp2
            go_roundw
            case rel =>
              refine ⟨k + 1, by go_num, by omega, fun j hj h => ?_, trivial⟩
              rcases Nat.lt_or_ge j k with g | g
              · exact HA.out j hj g
              · obtain rfl : j = k := by omega
                omega
            case measure => simp [intOf]; omega
      · obtain rfl : k = t.size := by omega
        skip
        go_wp2
        go_ret
        exact ⟨ret_bool (rngB_yes fun j hj => HA.out j hj hj).symm, rfl⟩
  · have hB : partB t = false := by simp [partB, hs]
    rw [hB]
    have hs' : (40 : Int) < (t.size : Int) := by omega
    go_enter Tryd.func38, Tryd.ntmps38
    go_wp2
    go_ret
    exact ⟨rfl, rfl⟩
end Go.Proofs.YtphgheojfnlgjaaDoor
