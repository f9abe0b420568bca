/- Texts of ours put together: BlP. -/
import Derived.Lib.Bytealg
import Derived.Test.YtibjmokhkjklkaaDoorG00
namespace Go.Proofs.YtibjmokhkjklkaaDoor
open Go.RowKit
open Go.Lib (compareBytes)
theorem u8_lt (a b : UInt8) : a < b ↔ a.toNat < b.toNat := UInt8.lt_iff_toNat_lt
theorem u8_eq (a b : UInt8) (h : a.toNat = b.toNat) : a = b := UInt8.toNat_inj.1 h
theorem cb_zero : ∀ a b : List UInt8, compareBytes a b = 0 ↔ a = b
  | [], [] => by simp [compareBytes]
  | [], _ :: _ => by simp [compareBytes]
  | _ :: _, [] => by simp [compareBytes]
  | a :: xs, b :: ys => by
    simp only [compareBytes, u8_lt]
    rcases Nat.lt_trichotomy a.toNat b.toNat with h | h | h
    · rw [if_pos h]
      have : a ≠ b := fun e => by rw [e] at h; omega
      simp [this]
    · have e := u8_eq a b h
      subst e
      rw [if_neg (by omega), if_neg (by omega), cb_zero xs ys]
      simp
    · rw [if_neg (by omega), if_pos h]
      have : a ≠ b := fun e => by rw [e] at h; omega
      simp [this]
theorem cb_pos : ∀ a b : List UInt8, 0 < compareBytes a b ↔ Op.bytesLess b a = true
  | [], [] => by simp [compareBytes, Op.bytesLess]
  | [], _ :: _ => by simp [compareBytes, Op.bytesLess]
  | _ :: _, [] => by simp [compareBytes, Op.bytesLess]
  | a :: xs, b :: ys => by
    simp only [compareBytes, Op.bytesLess, Bool.or_eq_true, Bool.and_eq_true, decide_eq_true_eq, beq_iff_eq, u8_lt]
    rcases Nat.lt_trichotomy a.toNat b.toNat with h | h | h
    · rw [if_pos h]
      have : b ≠ a := fun e => by rw [e] at h; omega
      simp [this]
      omega
    · have e := u8_eq a b h
      subst e
      rw [if_neg (by omega), if_neg (by omega), cb_pos xs ys]
      simp
    · rw [if_neg (by omega), if_pos h]
      simp [h]
theorem bl_trans : ∀ {a b c : List UInt8}, Op.bytesLess a b = true → Op.bytesLess b c = true → Op.bytesLess a c = true
  | _, [], _, h, _ => by simp [Op.bytesLess] at h
  | _, _ :: _, [], _, h => by simp [Op.bytesLess] at h
  | [], _ :: _, _ :: _, _, _ => rfl
  | a :: xs, b :: ys, c :: zs, h1, h2 => by
    simp only [Op.bytesLess, Bool.or_eq_true, Bool.and_eq_true, decide_eq_true_eq, beq_iff_eq, u8_lt] at h1 h2 ⊢
    rcases h1 with h1 | ⟨rfl, h1⟩ <;> rcases h2 with h2 | ⟨rfl, h2⟩
    · exact .inl (by omega)
    · exact .inl h1
    · exact .inl h2
    · exact .inr ⟨rfl, bl_trans h1 h2⟩
theorem bl_irrefl : ∀ a : List UInt8, Op.bytesLess a a = false
  | [] => rfl
  | a :: xs => by simp [Op.bytesLess, bl_irrefl xs]
theorem cb_neg : ∀ a b : List UInt8, compareBytes a b < 0 ↔ Op.bytesLess a b = true
  | [], [] => by simp [compareBytes, Op.bytesLess]
  | [], _ :: _ => by simp [compareBytes, Op.bytesLess]
  | _ :: _, [] => by simp [compareBytes, Op.bytesLess]
  | a :: xs, b :: ys => by
    simp only [compareBytes, Op.bytesLess, Bool.or_eq_true, Bool.and_eq_true, decide_eq_true_eq, beq_iff_eq, u8_lt]
    rcases Nat.lt_trichotomy a.toNat b.toNat with h | h | h
    · rw [if_pos h]
      simp [h]
    · have e := u8_eq a b h
      subst e
      rw [if_neg (by omega), if_neg (by omega), cb_neg xs ys]
      simp
    · rw [if_neg (by omega), if_pos h]
      have : a ≠ b := fun e => by rw [e] at h; omega
      simp [this]
      omega
theorem bl_asymm {a b : List UInt8} (h : Op.bytesLess a b = true) : Op.bytesLess b a = false := by
  cases e : Op.bytesLess b a with
  | false => rfl
  | true =>
    have := bl_trans h e
    rw [bl_irrefl] at this
    cases this
theorem bl_tri {a b : List UInt8} (h1 : Op.bytesLess a b = false) (h2 : Op.bytesLess b a = false) : a = b := by
  rw [← cb_zero]
  have h3 : ¬ compareBytes a b < 0 := fun g => by rw [cb_neg, h1] at g; cases g
  have h4 : ¬ 0 < compareBytes a b := fun g => by rw [cb_pos, h2] at g; cases g
  omega
end Go.Proofs.YtibjmokhkjklkaaDoor
