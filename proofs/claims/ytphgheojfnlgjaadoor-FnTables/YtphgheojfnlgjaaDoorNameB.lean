/- Contracts of impl.isName and of the model's l01Name, at every text. -/
import Derived.Test.YtphgheojfnlgjaaDoorRet
import Derived.Test.YtphgheojfnlgjaaDoorKeep
namespace Go.Proofs.YtphgheojfnlgjaaDoor
open Go.ChangeShapes Go.WideShapes Go.ChangeAt Go.RowKit
def nmOk (c : UInt8) : Bool := decide (c.toNat = 45 ∨ (48 ≤ c.toNat ∧ c.toNat ≤ 57) ∨ (65 ≤ c.toNat ∧ c.toNat ≤ 90))
def nameB (t : ByteArray) : Bool := decide (1 ≤ t.size ∧ t.size ≤ 12) && (t.data.toList.head?.any fun c => decide (65 ≤ c.toNat ∧ c.toNat ≤ 90)) && t.data.toList.all nmOk
theorem nameB_size {t : ByteArray} (h : ¬ (1 ≤ t.size ∧ t.size ≤ 12)) : nameB t = false := by simp [nameB, h]
theorem nameB_head {t : ByteArray} (h0 : 0 < t.size) (h : ¬ (65 ≤ (t[0]'h0).toNat ∧ (t[0]'h0).toNat ≤ 90)) : nameB t = false := by
  have hh : t.data.toList.head? = some (t[0]'h0) := by rw [List.head?_eq_getElem?, List.getElem?_eq_getElem (by simpa using h0)]; rfl
  unfold nameB
  rw [hh]
  simp only [Option.any_some, h, decide_false, Bool.and_false, Bool.false_and]
theorem nameB_at {t : ByteArray} (k : Nat) (hk : k < t.size) (h : nmOk (t[k]'hk) = false) : nameB t = false := by
  have hk' : k < t.data.toList.length := by simpa using hk
  have : t.data.toList.all nmOk = false := by
    rw [← Bool.not_eq_true, List.all_eq_true]
    intro hall
    have h1 := hall (t.data.toList[k]) (List.getElem_mem hk')
    have e : t.data.toList[k] = t[k]'hk := rfl
    rw [e, h] at h1
    cases h1
  unfold nameB
  rw [this, Bool.and_false]
theorem nameB_yes {t : ByteArray} (h1 : 1 ≤ t.size ∧ t.size ≤ 12) (h0 : 0 < t.size) (h2 : 65 ≤ (t[0]'h0).toNat ∧ (t[0]'h0).toNat ≤ 90) (h3 : ∀ (j : Nat) (hj : j < t.size), nmOk (t[j]'hj) = true) : nameB t = true := by
  have hh : t.data.toList.head? = some (t[0]'h0) := by rw [List.head?_eq_getElem?, List.getElem?_eq_getElem (by simpa using h0)]; rfl
  have ha : t.data.toList.all nmOk = true := by
    rw [List.all_eq_true]
    intro x hx
    obtain ⟨j, hj, rfl⟩ := List.mem_iff_getElem.1 hx
    exact h3 j (by simpa using hj)
  unfold nameB
  rw [hh, ha]
  simp [h1, h2]
theorem nm_next {t : ByteArray} {k : Nat} {hlt : k < t.size} (h : ∀ (j : Nat) (hj : j < t.size), j < k → nmOk (t[j]'hj) = true) (hk : nmOk (t[k]'hlt) = true) : ∀ (j : Nat) (hj : j < t.size), j < k + 1 → nmOk (t[j]'hj) = true := by
  intro j hj hjk
  rcases Nat.lt_or_ge j k with g | g
  · exact h j hj g
  · obtain rfl : j = k := by omega
    exact hk
set_option maxHeartbeats 1000000 in
theorem isName_any (t : ByteArray) (w : World) : Calls Tryd.prog 47 #[.string t] w fun e w' => e = .returned (.bool (nameB t)) ∧ w' = w := by
  by_cases hs : 1 ≤ t.size ∧ t.size ≤ 12
  · have hs1 : (1 : Int) ≤ (t.size : Int) := by omega
    have hs2 : (t.size : Int) ≤ 12 := by omega
    have hs3 : decide ((t.size : Int) < 1) = false := by simp; omega
    have hs4 : decide ((12 : Int) < (t.size : Int)) = false := by simp; omega
    have h0 : 0 < t.size := by omega
    have h0' : (0 : Int) < (t.size : Int) := by omega
    have hx0 : 0 ≤ ((t[0]'h0).toNat : Int) := by omega
    have hx1 : ((t[0]'h0).toNat : Int) ≤ 255 := by have := (t[0]'h0).toNat_lt; omega
    by_cases hh : 65 ≤ (t[0]'h0).toNat ∧ (t[0]'h0).toNat ≤ 90
    · have d1 : decide (((t[0]'h0).toNat : Int) < 65) = false := by simp; omega
      have d2 : decide ((90 : Int) < ((t[0]'h0).toNat : Int)) = false := by simp; omega
      have HH : Hid ((1 ≤ t.size ∧ t.size ≤ 12) ∧ 65 ≤ (t[0]'h0).toNat ∧ (t[0]'h0).toNat ≤ 90) := ⟨hs, hh⟩
      clear hh hs
      go_enter Tryd.func47, Tryd.ntmps47
      go_wp2
      go_loopw [25] (fun i wr => ∃ k : Nat, i = .int .i64 (k : Int) ∧ k ≤ t.size ∧ (∀ (j : Nat) (hj : j < t.size), j < k → nmOk (t[j]'hj) = true) ∧ wr = w) (fun i _ => t.size - (intOf i).toNat)
      case atStart => exact ⟨0, rfl, by omega, fun j hj h => by omega, rfl⟩
      case round =>
        obtain ⟨k, rfl, hk, hA, rfl⟩ := hrel
        have HA : Hid (∀ (j : Nat) (hj : j < t.size), j < k → nmOk (t[j]'hj) = true) := hA
        clear hA
        by_cases hlt : k < t.size
        · have hlt' : (k : Int) < (t.size : Int) := by omega
          have hy0 : 0 ≤ ((t[k]'hlt).toNat : Int) := by omega
          have hy1 : ((t[k]'hlt).toNat : Int) ≤ 255 := by have := (t[k]'hlt).toNat_lt; omega
          clear d1 d2 hx0 hx1 hs3 hs4
          go_wp2
          all_goals first
            | (go_roundw; (case rel => exact ⟨k + 1, by go_num, by omega, nm_next HA.out (by simp [nmOk] at *; omega), trivial⟩); (case measure => simp [intOf]; omega))
            | (go_ret; exact ⟨ret_bool (nameB_at k hlt (by simp [nmOk] at *; omega)).symm, rfl⟩)
        · obtain rfl : k = t.size := by omega
          go_wp2
          go_ret
          exact ⟨ret_bool (nameB_yes HH.out.1 h0 HH.out.2 fun j hj => HA.out j hj hj).symm, rfl⟩
    · have HN : Hid (nameB t = false) := nameB_head h0 hh
      by_cases d1 : ((t[0]'h0).toNat : Int) < 65
      · have d1' : decide (((t[0]'h0).toNat : Int) < 65) = true := by simpa using d1
        go_enter Tryd.func47, Tryd.ntmps47
        go_wp2
        go_ret
        exact ⟨ret_bool HN.out.symm, rfl⟩
      · have d1' : decide (((t[0]'h0).toNat : Int) < 65) = false := by simpa using d1
        have d2 : decide ((90 : Int) < ((t[0]'h0).toNat : Int)) = true := by simp; omega
        go_enter Tryd.func47, Tryd.ntmps47
        go_wp2
        go_ret
        exact ⟨ret_bool HN.out.symm, rfl⟩
  · have HN : Hid (nameB t = false) := nameB_size hs
    by_cases h1 : t.size < 1
    · have h1' : (t.size : Int) < 1 := by omega
      go_enter Tryd.func47, Tryd.ntmps47
      go_wp2
      go_ret
      exact ⟨ret_bool HN.out.symm, rfl⟩
    · have h1' : (1 : Int) ≤ (t.size : Int) := by omega
      have h2' : (12 : Int) < (t.size : Int) := by omega
      go_enter Tryd.func47, Tryd.ntmps47
      go_wp2
      go_ret
      exact ⟨ret_bool HN.out.symm, rfl⟩
set_option maxHeartbeats 1000000 in
theorem l01Name_any (t : ByteArray) (w : World) : Calls Tryd.prog 35 #[.string t] w fun e w' => e = .returned (.bool (nameB t)) ∧ w' = w := by
  by_cases hs : 1 ≤ t.size ∧ t.size ≤ 12
  · have hs1 : (1 : Int) ≤ (t.size : Int) := by omega
    have hs2 : (t.size : Int) ≤ 12 := by omega
    have hs3 : decide ((t.size : Int) < 1) = false := by simp; omega
    have hs4 : decide ((12 : Int) < (t.size : Int)) = false := by simp; omega
    have h0 : 0 < t.size := by omega
    have h0' : (0 : Int) < (t.size : Int) := by omega
    have hx0 : 0 ≤ ((t[0]'h0).toNat : Int) := by omega
    have hx1 : ((t[0]'h0).toNat : Int) ≤ 255 := by have := (t[0]'h0).toNat_lt; omega
    by_cases hh : 65 ≤ (t[0]'h0).toNat ∧ (t[0]'h0).toNat ≤ 90
    · have d1 : decide (((t[0]'h0).toNat : Int) < 65) = false := by simp; omega
      have d2 : decide ((90 : Int) < ((t[0]'h0).toNat : Int)) = false := by simp; omega
      have HH : Hid ((1 ≤ t.size ∧ t.size ≤ 12) ∧ 65 ≤ (t[0]'h0).toNat ∧ (t[0]'h0).toNat ≤ 90) := ⟨hs, hh⟩
      clear hh hs
      go_enter Tryd.func35, Tryd.ntmps35
      go_wp2
      go_loopw [3] (fun i wr => ∃ k : Nat, i = .int .i64 (k : Int) ∧ k ≤ t.size ∧ (∀ (j : Nat) (hj : j < t.size), j < k → nmOk (t[j]'hj) = true) ∧ wr = w) (fun i _ => t.size - (intOf i).toNat)
      case atStart => exact ⟨0, rfl, by omega, fun j hj h => by omega, rfl⟩
      case round =>
        obtain ⟨k, rfl, hk, hA, rfl⟩ := hrel
        have HA : Hid (∀ (j : Nat) (hj : j < t.size), j < k → nmOk (t[j]'hj) = true) := hA
        clear hA
        by_cases hlt : k < t.size
        · have hlt' : (k : Int) < (t.size : Int) := by omega
          have hy0 : 0 ≤ ((t[k]'hlt).toNat : Int) := by omega
          have hy1 : ((t[k]'hlt).toNat : Int) ≤ 255 := by have := (t[k]'hlt).toNat_lt; omega
          clear d1 d2 hx0 hx1 hs3 hs4
          go_wp2
          all_goals first
            | (go_roundw; (case rel => exact ⟨k + 1, by go_num, by omega, nm_next HA.out (by simp [nmOk] at *; omega), trivial⟩); (case measure => simp [intOf]; omega))
            | (go_ret; exact ⟨ret_bool (nameB_at k hlt (by simp [nmOk] at *; omega)).symm, rfl⟩)
        · obtain rfl : k = t.size := by omega
          go_wp2
          go_ret
          exact ⟨ret_bool (nameB_yes HH.out.1 h0 HH.out.2 fun j hj => HA.out j hj hj).symm, rfl⟩
    · have HN : Hid (nameB t = false) := nameB_head h0 hh
      by_cases d1 : ((t[0]'h0).toNat : Int) < 65
      · have d1' : decide (((t[0]'h0).toNat : Int) < 65) = true := by simpa using d1
        go_enter Tryd.func35, Tryd.ntmps35
        go_wp2
        go_ret
        exact ⟨ret_bool HN.out.symm, rfl⟩
      · have d1' : decide (((t[0]'h0).toNat : Int) < 65) = false := by simpa using d1
        have d2 : decide ((90 : Int) < ((t[0]'h0).toNat : Int)) = true := by simp; omega
        go_enter Tryd.func35, Tryd.ntmps35
        go_wp2
        go_ret
        exact ⟨ret_bool HN.out.symm, rfl⟩
  · have HN : Hid (nameB t = false) := nameB_size hs
    by_cases h1 : t.size < 1
    · have h1' : (t.size : Int) < 1 := by omega
      go_enter Tryd.func35, Tryd.ntmps35
      go_wp2
      go_ret
      exact ⟨ret_bool HN.out.symm, rfl⟩
    · have h1' : (1 : Int) ≤ (t.size : Int) := by omega
      have h2' : (12 : Int) < (t.size : Int) := by omega
      go_enter Tryd.func35, Tryd.ntmps35
      go_wp2
      go_ret
      exact ⟨ret_bool HN.out.symm, rfl⟩
end Go.Proofs.YtphgheojfnlgjaaDoor
