/- Texts of ours put together: TagBs, TagB. -/
import Derived.Test.YtjnikogaleofaaaDoorG05
namespace Go.Proofs.YtjnikogaleofaaaDoor
open Go.ChangeShapes Go.WideShapes Go.ChangeAt Go.RowKit
set_option maxHeartbeats 1000000 in
theorem l02Tag_any (t : ByteArray) (w : World) : Calls Tryd.prog 27 #[.string t] w fun e w' => e = .returned (.bool (tagB t)) ∧ w' = w := by
  by_cases hs : t.size = 3
  · have hB : tagB t = rngB 65 90 t := by simp [tagB, hs]
    rw [hB]
    have hs' : ((t.size : Int) != 3) = false := by simp; omega
    have hs2 : (t.size : Int) ≤ 40 := by omega
    go_enter Tryd.func27, Tryd.ntmps27
    go_wp2
    go_loopw [3] (fun i wr => ∃ k : Nat, i = .int .i64 (k : Int) ∧ k ≤ t.size ∧ (∀ (j : Nat) (hj : j < t.size), j < k → 65 ≤ (t[j]'hj).toNat ∧ (t[j]'hj).toNat ≤ 90) ∧ wr = w) (fun i _ => t.size - (intOf i).toNat)
    case atStart => exact ⟨0, rfl, by omega, fun j hj h => by omega, rfl⟩
    case round =>
      obtain ⟨k, rfl, hk, hA, rfl⟩ := hrel
      have HA : Hid (∀ (j : Nat) (hj : j < t.size), j < k → 65 ≤ (t[j]'hj).toNat ∧ (t[j]'hj).toNat ≤ 90) := hA
      clear hA
      by_cases hlt : k < t.size
      · have hlt' : (k : Int) < (t.size : Int) := by omega
        have hlt3 : (k : Int) < 3 := by omega
        have hx0 : 0 ≤ ((t[k]'hlt).toNat : Int) := by omega
        have hx1 : ((t[k]'hlt).toNat : Int) ≤ 255 := by have := (t[k]'hlt).toNat_lt; omega
        by_cases hlo : ((t[k]'hlt).toNat : Int) < 65
        · have d1 : decide (((t[k]'hlt).toNat : Int) < 65) = true := by simpa using hlo
          go_wp2
          go_ret
          exact ⟨ret_bool (rngB_no k hlt (by omega)).symm, rfl⟩
        · have d1 : decide (((t[k]'hlt).toNat : Int) < 65) = false := by simpa using hlo
          by_cases hhi : 90 < ((t[k]'hlt).toNat : Int)
          · have d2 : decide (90 < ((t[k]'hlt).toNat : Int)) = true := by simpa using hhi
            go_wp2
            go_ret
            exact ⟨ret_bool (rngB_no k hlt (by omega)).symm, rfl⟩
          · have d2 : decide (90 < ((t[k]'hlt).toNat : Int)) = false := by simpa using hhi
            go_wp2
            go_roundw
            case rel =>
              refine ⟨k + 1, by go_num, by omega, fun j hj h => ?_, trivial⟩
              rcases Nat.lt_or_ge j k with g | g
              · exact HA.out j hj g
              · obtain rfl : j = k := by omega
                omega
            case measure => simp [intOf]; omega
      · obtain rfl : k = t.size := by omega
        have hlt3 : ¬ (t.size : Int) < 3 := by omega
        go_wp2
        go_ret
        exact ⟨ret_bool (rngB_yes fun j hj => HA.out j hj hj).symm, rfl⟩
  · have hB : tagB t = false := by simp [tagB, hs]
    rw [hB]
    have hs' : ((t.size : Int) != 3) = true := by simp; omega
    go_enter Tryd.func27, Tryd.ntmps27
    go_wp2
    go_ret
    exact ⟨rfl, rfl⟩
end Go.Proofs.YtjnikogaleofaaaDoor
namespace Go.Proofs.YtjnikogaleofaaaDoor
open Go.ChangeShapes Go.WideShapes Go.ChangeAt Go.RowKit
set_option maxHeartbeats 1000000 in
theorem isTag_any (t : ByteArray) (w : World) : Calls Tryd.prog 68 #[.string t] w fun e w' => e = .returned (.bool (tagB t)) ∧ w' = w := by
  by_cases hs : t.size = 3
  · have hB : tagB t = rngB 65 90 t := by simp [tagB, hs]
    rw [hB]
    have hs' : ((t.size : Int) != 3) = false := by simp; omega
    have hs2 : (t.size : Int) ≤ 40 := by omega
    go_enter Tryd.func68, Tryd.ntmps68
    go_wp2
    go_loopw [7] (fun i wr => ∃ k : Nat, i = .int .i64 (k : Int) ∧ k ≤ t.size ∧ (∀ (j : Nat) (hj : j < t.size), j < k → 65 ≤ (t[j]'hj).toNat ∧ (t[j]'hj).toNat ≤ 90) ∧ wr = w) (fun i _ => t.size - (intOf i).toNat)
    case atStart => exact ⟨0, rfl, by omega, fun j hj h => by omega, rfl⟩
    case round =>
      obtain ⟨k, rfl, hk, hA, rfl⟩ := hrel
      have HA : Hid (∀ (j : Nat) (hj : j < t.size), j < k → 65 ≤ (t[j]'hj).toNat ∧ (t[j]'hj).toNat ≤ 90) := hA
      clear hA
      by_cases hlt : k < t.size
      · have hlt' : (k : Int) < (t.size : Int) := by omega
        have hlt3 : (k : Int) < 3 := by omega
        have hx0 : 0 ≤ ((t[k]'hlt).toNat : Int) := by omega
        have hx1 : ((t[k]'hlt).toNat : Int) ≤ 255 := by have := (t[k]'hlt).toNat_lt; omega
        by_cases hlo : ((t[k]'hlt).toNat : Int) < 65
        · have d1 : decide (((t[k]'hlt).toNat : Int) < 65) = true := by simpa using hlo
          go_wp2
          go_ret
          exact ⟨ret_bool (rngB_no k hlt (by omega)).symm, rfl⟩
        · have d1 : decide (((t[k]'hlt).toNat : Int) < 65) = false := by simpa using hlo
          by_cases hhi : 90 < ((t[k]'hlt).toNat : Int)
          · have d2 : decide (90 < ((t[k]'hlt).toNat : Int)) = true := by simpa using hhi
            go_wp2
            go_ret
            exact ⟨ret_bool (rngB_no k hlt (by omega)).symm, rfl⟩
          · have d2 : decide (90 < ((t[k]'hlt).toNat : Int)) = false := by simpa using hhi
            go_wp2
            go_roundw
            case rel =>
              refine ⟨k + 1, by go_num, by omega, fun j hj h => ?_, trivial⟩
              rcases Nat.lt_or_ge j k with g | g
              · exact HA.out j hj g
              · obtain rfl : j = k := by omega
                omega
            case measure => simp [intOf]; omega
      · obtain rfl : k = t.size := by omega
        have hlt3 : ¬ (t.size : Int) < 3 := by omega
        go_wp2
        go_ret
        exact ⟨ret_bool (rngB_yes fun j hj => HA.out j hj hj).symm, rfl⟩
  · have hB : tagB t = false := by simp [tagB, hs]
    rw [hB]
    have hs' : ((t.size : Int) != 3) = true := by simp; omega
    go_enter Tryd.func68, Tryd.ntmps68
    go_wp2
    go_ret
    exact ⟨rfl, rfl⟩
end Go.Proofs.YtjnikogaleofaaaDoor
