/- Texts of ours put together: DecG. -/
import Derived.Test.YtjmkdpnoihpfoaaDoorG29
import Derived.Test.YtjmkdpnoihpfoaaDoorG24
namespace Go.Proofs.YtjmkdpnoihpfoaaDoor
open Go.ChangeShapes Go.WideShapes Go.ChangeAt Go.RowKit
set_option maxHeartbeats 1000000 in
theorem l01Dec_all (n : Int) (w : World) (h0 : -9223372036854775808 ≤ n) (h1 : n ≤ 9223372036854775807) :
    Calls Tryd.prog 14 #[.int .i64 n] w fun e w' => e = .returned (.string (strL (Lib.itoa n))) ∧ Below w.heap.size w w' := by
  by_cases hz : n = 0
  · subst hz
    go_enter Tryd.func14, Tryd.ntmps14
    go_wp2
    go_ret
    exact ⟨ret_str (by rw [show Lib.itoa 0 = [48] by unfold Lib.itoa; rw [if_neg (by omega)]; exact Lib.decDigits_one (by omega)]; rfl), Below.refl _ _⟩
  · have hz' : (n == 0) = false := by simpa using hz
    rcases Int.lt_or_le n 0 with hneg | hpos
    · obtain ⟨k0, rfl⟩ : ∃ k0 : Nat, n = -(k0 : Int) := ⟨n.natAbs, by omega⟩
      have hd : decide (-(k0 : Int) < 0) = true := by simpa using hneg
      have hk0 : 0 < k0 := by omega
      go_enter Tryd.func14, Tryd.ntmps14
      go_wp2
      go_loopw [0, 4] (fun kv o wr => ∃ (f j : Nat) (acc : ByteArray), kv = .int .i64 (-(j : Int)) ∧ o = .string acc ∧ j < 10 ^ f ∧ j ≤ 9223372036854775808 ∧ acc.size + f ≤ 19 ∧ preD j ++ acc.data.toList = Lib.decDigits k0 ∧ Below w.heap.size w wr) (fun kv _ _ => (intOf kv).natAbs)
      case atStart => exact ⟨19, k0, ⟨#[]⟩, rfl, rfl, by omega, by omega, by decide, by unfold preD; rw [if_neg (by omega)]; simp, Below.refl _ _⟩
      case round =>
        obtain ⟨f, j, acc, rfl, rfl, hjf, hj, hac, hd, hb⟩ := hrel
        have H : Hid (j < 10 ^ f ∧ preD j ++ acc.data.toList = Lib.decDigits k0 ∧ Below w.heap.size w wr) := ⟨hjf, hd, hb⟩
        have hwz := hb.size
        have hacs : acc.size ≤ 19 := by omega
        clear hjf hd hb
        have hcv := conv1 wr
        by_cases hp : 0 < j
        · have hp' : (-(j : Int) == 0) = false := by simp; omega
          obtain ⟨f, rfl⟩ : ∃ f', f = f' + 1 := by
            cases f with
            | zero =>
              have := H.out.1
              simp at this
              omega
            | succ f => exact ⟨f, rfl⟩
          have hlt : j / 10 < 10 ^ f := by
            have := H.out.1
            rw [Nat.pow_succ] at this
            omega
          by_cases hm : (j : Int) % 10 = 0
          · have hsn := one_size 48
            have hsn0 := one_size (48 + -((j : Int) % 10))
            have hm1 : ¬ 0 < (j : Int) % 10 := by omega
            go_wp2
            go_roundw
            case rel =>
              refine ⟨f, j / 10, _, by first | rfl | simp, rfl, hlt, by omega, by rw [ByteArray.size_append, one_size]; omega, preD_next hp H.out.2.1 (one_zero hm), H.out.2.2.alloc hwz _⟩
            case measure => simp [intOf]; omega
          · have hsn := one_size (48 + (j : Int) % 10)
            have hm1 : 0 < (j : Int) % 10 := by omega
            go_wp2
            go_roundw
            case rel =>
              refine ⟨f, j / 10, _, by first | rfl | simp, rfl, hlt, by omega, by rw [ByteArray.size_append, one_size]; omega, preD_next hp H.out.2.1 (one_mod j), H.out.2.2.alloc hwz _⟩
            case measure => simp [intOf]; omega
        · obtain rfl : j = 0 := by omega
          have hd := H.out.2.1
          have HD : Hid (acc.data.toList = Lib.decDigits k0) := by
            have e : preD 0 = [] := rfl
            rw [e, List.nil_append] at hd
            exact hd
          clear hd
          go_wp2
          go_ret
          exact ⟨ret_str (itoa_neg hk0 HD.out), H.out.2.2⟩
    · obtain ⟨k0, rfl⟩ : ∃ k0 : Nat, n = (k0 : Int) := ⟨n.toNat, by omega⟩
      have hd : decide ((k0 : Int) < 0) = false := by simp
      have hk0 : 0 < k0 := by omega
      go_enter Tryd.func14, Tryd.ntmps14
      go_wp2
      go_loopw [0, 4] (fun kv o wr => ∃ (f j : Nat) (acc : ByteArray), kv = .int .i64 ((j : Int)) ∧ o = .string acc ∧ j < 10 ^ f ∧ j ≤ 9223372036854775807 ∧ acc.size + f ≤ 19 ∧ preD j ++ acc.data.toList = Lib.decDigits k0 ∧ Below w.heap.size w wr) (fun kv _ _ => (intOf kv).natAbs)
      case atStart => exact ⟨19, k0, ⟨#[]⟩, rfl, rfl, by omega, by omega, by decide, by unfold preD; rw [if_neg (by omega)]; simp, Below.refl _ _⟩
      case round =>
        obtain ⟨f, j, acc, rfl, rfl, hjf, hj, hac, hdd, hb⟩ := hrel
        have H : Hid (j < 10 ^ f ∧ preD j ++ acc.data.toList = Lib.decDigits k0 ∧ Below w.heap.size w wr) := ⟨hjf, hdd, hb⟩
        have hwz := hb.size
        have hacs : acc.size ≤ 19 := by omega
        clear hjf hdd hb
        have hk1 : k0 ≤ 9223372036854775807 := by omega
        clear h0 h1 hz hz' hd hpos
        have hcv := conv1 wr
        by_cases hp : 0 < j
        · have hp' : (0 : Int) < (j : Int) := by omega
          obtain ⟨f, rfl⟩ : ∃ f', f = f' + 1 := by
            cases f with
            | zero =>
              have := H.out.1
              simp at this
              omega
            | succ f => exact ⟨f, rfl⟩
          have hlt : j / 10 < 10 ^ f := by
            have := H.out.1
            rw [Nat.pow_succ] at this
            omega
          · have hsn := one_size (48 + (j : Int) % 10)
            go_wp2
            go_roundw
            case rel =>
              refine ⟨f, j / 10, _, by first | rfl | simp, rfl, hlt, by omega, by rw [ByteArray.size_append, one_size]; omega, preD_next hp H.out.2.1 (one_mod j), H.out.2.2.alloc hwz _⟩
            case measure => simp [intOf]; omega
        · obtain rfl : j = 0 := by omega
          have hd := H.out.2.1
          have HD : Hid (acc.data.toList = Lib.decDigits k0) := by
            have e : preD 0 = [] := rfl
            rw [e, List.nil_append] at hd
            exact hd
          clear hd
          go_wp2
          go_ret
          exact ⟨ret_str (itoa_pos HD.out), H.out.2.2⟩
theorem decG_any (n : Int) (w : World) (h0 : -9223372036854775808 ≤ n) (h1 : n ≤ 9223372036854775807) :
    Calls Tryd.prog 14 #[.int .i64 n] w fun e w' => e = .returned (.string (decS n)) ∧ Below w.heap.size w w' := l01Dec_all n w h0 h1
theorem decS_long (n : Int) (h0 : -9223372036854775808 ≤ n) (h1 : n ≤ 9223372036854775807) : 1 ≤ (decS n).size ∧ (decS n).size ≤ 20 := by
  have hs : (decS n).size = (Lib.itoa n).length := by
    show (decS n).data.size = _
    simp [decS]
  rw [hs]
  unfold Lib.itoa
  split
  · have := dec_len 18 n.natAbs (by omega)
    simp only [List.length_cons]
    omega
  · have := dec_len 18 n.toNat (by omega)
    have h2 : (Lib.decDigits n.toNat).length ≠ 0 := fun e => dec_ne _ (List.eq_nil_of_length_eq_zero e)
    omega
end Go.Proofs.YtjmkdpnoihpfoaaDoor
