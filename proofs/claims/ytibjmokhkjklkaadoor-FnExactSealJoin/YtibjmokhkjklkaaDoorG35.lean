/- Texts of ours put together: MkT. -/
import Derived.Test.YtibjmokhkjklkaaDoorG34
namespace Go.Proofs.YtibjmokhkjklkaaDoor
open Go.ChangeShapes Go.WideShapes Go.ChangeAt Go.RowKit
/-- The digits of a number ahead of a text. -/
def dgsM : Nat → Nat → ByteArray → ByteArray
  | 0, _, acc => acc
  | f + 1, k, acc => if k = 0 then acc else dgsM f (k / 10) (strOfNums [48 + ((k % 10 : Nat) : Int)] ++ acc)
theorem dgs_zero (f : Nat) (acc : ByteArray) : dgsM f 0 acc = acc := by cases f <;> simp [dgsM]
theorem dgs_size : ∀ (f k : Nat) (acc : ByteArray), (dgsM f k acc).size ≤ acc.size + f
  | 0, _, acc => Nat.le_refl _
  | f + 1, k, acc => by
    unfold dgsM
    split
    · omega
    · have := dgs_size f (k / 10) (strOfNums [48 + ((k % 10 : Nat) : Int)] ++ acc)
      rw [ByteArray.size_append, strOfNums_size] at this
      simp at this
      simp
      omega
def mtB (k : Nat) : ByteArray := ⟨#[109]⟩ ++ dgsM 12 k ⟨#[]⟩
theorem mtB_size (k : Nat) : (mtB k).size ≤ 13 := by
  unfold mtB
  have := dgs_size 12 k ⟨#[]⟩
  rw [ByteArray.size_append]
  have e1 : (⟨#[109]⟩ : ByteArray).size = 1 := rfl
  have e2 : (⟨#[]⟩ : ByteArray).size = 0 := rfl
  omega
set_option maxHeartbeats 1000000 in
theorem markText_b (z : Int) (k0 : Nat) (hz : z = (k0 : Int)) (w : World) (h0 : 0 < k0) (h1 : k0 < 1000000000000) :
    Calls Tryd.prog 28 #[.int .i64 z] w fun e w' => e = .returned (.string (mtB k0)) ∧ Below w.heap.size w w' := by
  subst hz
  have h0' : (0 : Int) < (k0 : Int) := by omega
  have h1' : (k0 : Int) < 1000000000000 := by omega
  have hz0 : decide (k0 = 0) = false := by simp; omega
  go_enter Tryd.func28, Tryd.ntmps28
  go_wp2
  go_loopw [0, 3] (fun kv o wr => ∃ (f j : Nat) (acc : ByteArray), kv = .int .i64 j ∧ o = .string acc ∧ j < 10 ^ f ∧ j < 1000000000000 ∧ acc.size + f ≤ 12 ∧ dgsM f j acc = dgsM 12 k0 ⟨#[]⟩ ∧ Below w.heap.size w wr) (fun kv _ _ => (intOf kv).toNat)
  case atStart =>
    have e12 : (10 : Nat) ^ 12 = 1000000000000 := by decide
    exact ⟨12, k0, ⟨#[]⟩, rfl, rfl, by omega, h1, by decide, rfl, Below.refl _ _⟩
  case round =>
    obtain ⟨f, j, acc, rfl, rfl, hj, hj2, hac, hd, hb⟩ := hrel
    have H : Hid (j < 10 ^ f ∧ dgsM f j acc = dgsM 12 k0 ⟨#[]⟩ ∧ Below w.heap.size w wr) := ⟨hj, hd, hb⟩
    have hwz := hb.size
    clear hj hd hb
    have hcv := conv1 wr
    by_cases hp : 0 < j
    · have hp' : (0 : Int) < (j : Int) := by omega
      have hsn : (strOfNums [48 + (j : Int) % 10]).size = 1 := by rw [strOfNums_size]; rfl
      go_wp2
      obtain ⟨f, rfl⟩ : ∃ f', f = f' + 1 := by
        cases f with
        | zero =>
          have := H.out.1
          simp at this
          omega
        | succ f => exact ⟨f, rfl⟩
      have hd := H.out.2.1
      unfold dgsM at hd
      rw [if_neg (by omega)] at hd
      have hlt : j / 10 < 10 ^ f := by
        have := H.out.1
        rw [Nat.pow_succ] at this
        omega
      go_roundw
      case rel => exact ⟨f, j / 10, strOfNums [48 + ((j % 10 : Nat) : Int)] ++ acc, by simp, by simp, hlt, by omega, by rw [ByteArray.size_append, strOfNums_size]; simp; omega, hd, H.out.2.2.alloc hwz _⟩
      case measure => simp [intOf]; omega
    · obtain rfl : j = 0 := by omega
      have hacc : acc.size ≤ 12 := by omega
      have hd := H.out.2.1
      rw [dgs_zero] at hd
      have HD : Hid (acc = dgsM 12 k0 ⟨#[]⟩) := hd
      clear hd
      go_wp2
      go_ret
      exact ⟨by unfold mtB; rw [← HD.out]; rfl, H.out.2.2⟩
end Go.Proofs.YtibjmokhkjklkaaDoor
