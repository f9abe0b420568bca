/- Contract of the model's l01Dec: it tells a number of less than thirteen digits. -/
import Derived.Test.YtphgheojfnlgjaaDoorNumP
import Derived.Test.YtphgheojfnlgjaaDoorConv1
import Derived.Test.YtphgheojfnlgjaaDoorRet
namespace Go.Proofs.YtphgheojfnlgjaaDoor
open Go.ChangeShapes Go.WideShapes Go.ChangeAt Go.RowKit
def preD (u : Nat) : List UInt8 := if u = 0 then [] else Lib.decDigits u
theorem preD_step (u : Nat) (h : 0 < u) : preD u = preD (u / 10) ++ [UInt8.ofNat (48 + u % 10)] := by
  unfold preD
  rw [if_neg (by omega)]
  by_cases h9 : u < 10
  · rw [Lib.decDigits_one h9, if_pos (by omega), show u % 10 = u by omega]
    rfl
  · rw [Lib.decDigits, dif_neg h9, if_neg (by omega)]
def strL (l : List UInt8) : ByteArray := ⟨l.toArray⟩
theorem one_str (k : Nat) : (strOfNums [48 + (k : Int)]).data.toList = [UInt8.ofNat (48 + k)] := by
  rw [strOfNums_data]
  simp only [List.map_cons, List.map_nil]
  congr 2
theorem one_mod (j : Nat) : (strOfNums [48 + (j : Int) % 10]).data.toList = [UInt8.ofNat (48 + j % 10)] := one_str (j % 10)
theorem one_zero {j : Nat} (h : (j : Int) % 10 = 0) : (strOfNums [48]).data.toList = [UInt8.ofNat (48 + j % 10)] := by
  have := one_mod j
  rw [h] at this
  exact this
theorem itoa_neg {k : Nat} {acc : ByteArray} (hk : 0 < k) (h : acc.data.toList = Lib.decDigits k) : (⟨#[45]⟩ : ByteArray) ++ acc = strL (Lib.itoa (-(k : Int))) := by
  unfold Lib.itoa strL
  rw [if_pos (by omega), show (-(k : Int)).natAbs = k by omega, ← h]
  apply ByteArray.ext
  rw [ByteArray.data_append]
  apply Array.toList_inj.1
  rw [Array.toList_append]
  rfl
theorem itoa_pos {k : Nat} {acc : ByteArray} (h : acc.data.toList = Lib.decDigits k) : acc = strL (Lib.itoa (k : Int)) := by
  unfold Lib.itoa strL
  rw [if_neg (by omega), Int.toNat_natCast, ← h]
theorem one_size (x : Int) : (strOfNums [x]).size = 1 := by rw [strOfNums_size]; rfl
theorem preD_next {j : Nat} {acc : ByteArray} {l : List UInt8} (hj : 0 < j) (h : preD j ++ acc.data.toList = l) {x : ByteArray} (hx : x.data.toList = [UInt8.ofNat (48 + j % 10)]) : preD (j / 10) ++ (x ++ acc).data.toList = l := by
  rw [ByteArray.data_append, Array.toList_append, hx, ← List.append_assoc, ← preD_step j hj]
  exact h
set_option maxHeartbeats 1000000 in
theorem l01Dec_any (n : Int) (w : World) (h0 : -1000000000000 < n) (h1 : n < 1000000000000) :
    Calls Tryd.prog 30 #[.int .i64 n] w fun e w' => e = .returned (.string (strL (Lib.itoa n))) ∧ Below w.heap.size w w' := by
  by_cases hz : n = 0
  · subst hz
    go_enter Tryd.func30, Tryd.ntmps30
    go_wp2
    go_ret
    exact ⟨ret_str (by rw [show Lib.itoa 0 = [48] by unfold Lib.itoa; rw [if_neg (by omega)]; exact Lib.decDigits_one (by omega)]; rfl), Below.refl _ _⟩
  · have hz' : (n == 0) = false := by simpa using hz
    rcases Int.lt_or_le n 0 with hneg | hpos
    · obtain ⟨k0, rfl⟩ : ∃ k0 : Nat, n = -(k0 : Int) := ⟨n.natAbs, by omega⟩
      have hd : decide (-(k0 : Int) < 0) = true := by simpa using hneg
      have hk0 : 0 < k0 := by omega
      go_enter Tryd.func30, Tryd.ntmps30
      go_wp2
      go_loopw [0, 4] (fun kv o wr => ∃ (f j : Nat) (acc : ByteArray), kv = .int .i64 (-(j : Int)) ∧ o = .string acc ∧ j < 10 ^ f ∧ j < 1000000000000 ∧ acc.size + f ≤ 12 ∧ preD j ++ acc.data.toList = Lib.decDigits k0 ∧ Below w.heap.size w wr) (fun kv _ _ => (intOf kv).natAbs)
      case atStart => exact ⟨12, k0, ⟨#[]⟩, rfl, rfl, by omega, by omega, by decide, by unfold preD; rw [if_neg (by omega)]; simp, Below.refl _ _⟩
      case round =>
        obtain ⟨f, j, acc, rfl, rfl, hjf, hj, hac, hd, hb⟩ := hrel
        have H : Hid (j < 10 ^ f ∧ preD j ++ acc.data.toList = Lib.decDigits k0 ∧ Below w.heap.size w wr) := ⟨hjf, hd, hb⟩
        have hwz := hb.size
        have hacs : acc.size ≤ 12 := by omega
        clear hjf hd hb
        have hcv := conv1 wr
        by_cases hp : 0 < j
        · have hp' : (-(j : Int) == 0) = false := by simp; omega
          obtain ⟨f, rfl⟩ : ∃ f', f = f' + 1 := by
            cases f with
            | zero =>
              have := H.out.1
              simp at this
              omega
            | succ f => exact ⟨f, rfl⟩
          have hlt : j / 10 < 10 ^ f := by
            have := H.out.1
            rw [Nat.pow_succ] at this
            omega
          by_cases hm : (j : Int) % 10 = 0
          · have hsn := one_size 48
            have hsn0 := one_size (48 + -((j : Int) % 10))
            have hm1 : ¬ 0 < (j : Int) % 10 := by omega
            go_wp2
            go_roundw
            case rel =>
              refine ⟨f, j / 10, _, by first | rfl | simp, rfl, hlt, by omega, by rw [ByteArray.size_append, one_size]; omega, preD_next hp H.out.2.1 (one_zero hm), H.out.2.2.alloc hwz _⟩
            case measure => simp [intOf]; omega
          · have hsn := one_size (48 + (j : Int) % 10)
            have hm1 : 0 < (j : Int) % 10 := by omega
            go_wp2
            go_roundw
            case rel =>
              refine ⟨f, j / 10, _, by first | rfl | simp, rfl, hlt, by omega, by rw [ByteArray.size_append, one_size]; omega, preD_next hp H.out.2.1 (one_mod j), H.out.2.2.alloc hwz _⟩
            case measure => simp [intOf]; omega
        · obtain rfl : j = 0 := by omega
          have hd := H.out.2.1
          have HD : Hid (acc.data.toList = Lib.decDigits k0) := by
            have e : preD 0 = [] := rfl
            rw [e, List.nil_append] at hd
            exact hd
          clear hd
          go_wp2
          go_ret
          exact ⟨ret_str (itoa_neg hk0 HD.out), H.out.2.2⟩
    · obtain ⟨k0, rfl⟩ : ∃ k0 : Nat, n = (k0 : Int) := ⟨n.toNat, by omega⟩
      have hd : decide ((k0 : Int) < 0) = false := by simp
      have hk0 : 0 < k0 := by omega
      go_enter Tryd.func30, Tryd.ntmps30
      go_wp2
      go_loopw [0, 4] (fun kv o wr => ∃ (f j : Nat) (acc : ByteArray), kv = .int .i64 ((j : Int)) ∧ o = .string acc ∧ j < 10 ^ f ∧ j < 1000000000000 ∧ acc.size + f ≤ 12 ∧ preD j ++ acc.data.toList = Lib.decDigits k0 ∧ Below w.heap.size w wr) (fun kv _ _ => (intOf kv).natAbs)
      case atStart => exact ⟨12, k0, ⟨#[]⟩, rfl, rfl, by omega, by omega, by decide, by unfold preD; rw [if_neg (by omega)]; simp, Below.refl _ _⟩
      case round =>
        obtain ⟨f, j, acc, rfl, rfl, hjf, hj, hac, hdd, hb⟩ := hrel
        have H : Hid (j < 10 ^ f ∧ preD j ++ acc.data.toList = Lib.decDigits k0 ∧ Below w.heap.size w wr) := ⟨hjf, hdd, hb⟩
        have hwz := hb.size
        have hacs : acc.size ≤ 12 := by omega
        clear hjf hdd hb
        have hk1 : k0 < 1000000000000 := by omega
        clear h0 h1 hz hz' hd hpos
        have hcv := conv1 wr
        by_cases hp : 0 < j
        · have hp' : (0 : Int) < (j : Int) := by omega
          obtain ⟨f, rfl⟩ : ∃ f', f = f' + 1 := by
            cases f with
            | zero =>
              have := H.out.1
              simp at this
              omega
            | succ f => exact ⟨f, rfl⟩
          have hlt : j / 10 < 10 ^ f := by
            have := H.out.1
            rw [Nat.pow_succ] at this
            omega
          · have hsn := one_size (48 + (j : Int) % 10)
            go_wp2
            go_roundw
            case rel =>
              refine ⟨f, j / 10, _, by first | rfl | simp, rfl, hlt, by omega, by rw [ByteArray.size_append, one_size]; omega, preD_next hp H.out.2.1 (one_mod j), H.out.2.2.alloc hwz _⟩
            case measure => simp [intOf]; omega
        · obtain rfl : j = 0 := by omega
          have hd := H.out.2.1
          have HD : Hid (acc.data.toList = Lib.decDigits k0) := by
            have e : preD 0 = [] := rfl
            rw [e, List.nil_append] at hd
            exact hd
          clear hd
          go_wp2
          go_ret
          exact ⟨ret_str (itoa_pos HD.out), H.out.2.2⟩
theorem dec_len : ∀ (k u : Nat), u < 10 ^ (k + 1) → (Lib.decDigits u).length ≤ k + 1
  | 0, u, h => by rw [Lib.decDigits_one (by omega)]; simp
  | k + 1, u, h => by
    by_cases h9 : u < 10
    · rw [Lib.decDigits_one h9]
      simp
    · rw [Lib.decDigits, dif_neg h9]
      have := dec_len k (u / 10) (by rw [Nat.pow_succ] at h; omega)
      simp
      omega
theorem dec_small (n : Nat) (w : World) (h : n < 1000000) : Calls Tryd.prog 30 #[.int .i64 (n : Int)] w fun e w' => ∃ s : ByteArray, e = .returned (.string s) ∧ s.size ≤ 6 ∧ Below w.heap.size w w' :=
  (l01Dec_any n w (by omega) (by omega)).mono fun _ _ ⟨h1, h2⟩ => ⟨_, h1, by
    unfold Lib.itoa strL
    rw [if_neg (by omega), Int.toNat_natCast]
    have := dec_len 5 n (by omega)
    show (Lib.decDigits n).toArray.size ≤ 6
    simpa using this, h2⟩
end Go.Proofs.YtphgheojfnlgjaaDoor
