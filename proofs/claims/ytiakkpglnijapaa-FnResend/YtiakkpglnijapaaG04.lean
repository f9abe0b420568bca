/- Texts of ours put together: BlP, OuP. -/
import Derived.Lib.Bytealg
import Derived.Test.YtiakkpglnijapaaG00
import Derived.Test.YtiakkpglnijapaaG01
import Derived.Test.YtiakkpglnijapaaG02
import Derived.Test.YtiakkpglnijapaaG03
namespace Go.Proofs.Ytiakkpglnijapaa
open Go.RowKit
open Go.Lib (compareBytes)
theorem u8_lt (a b : UInt8) : a < b ↔ a.toNat < b.toNat := UInt8.lt_iff_toNat_lt
theorem u8_eq (a b : UInt8) (h : a.toNat = b.toNat) : a = b := UInt8.toNat_inj.1 h
theorem cb_zero : ∀ a b : List UInt8, compareBytes a b = 0 ↔ a = b
  | [], [] => by simp [compareBytes]
  | [], _ :: _ => by simp [compareBytes]
  | _ :: _, [] => by simp [compareBytes]
  | a :: xs, b :: ys => by
    simp only [compareBytes, u8_lt]
    rcases Nat.lt_trichotomy a.toNat b.toNat with h | h | h
    · rw [if_pos h]
      have : a ≠ b := fun e => by rw [e] at h; omega
      simp [this]
    · have e := u8_eq a b h
      subst e
      rw [if_neg (by omega), if_neg (by omega), cb_zero xs ys]
      simp
    · rw [if_neg (by omega), if_pos h]
      have : a ≠ b := fun e => by rw [e] at h; omega
      simp [this]
theorem cb_pos : ∀ a b : List UInt8, 0 < compareBytes a b ↔ Op.bytesLess b a = true
  | [], [] => by simp [compareBytes, Op.bytesLess]
  | [], _ :: _ => by simp [compareBytes, Op.bytesLess]
  | _ :: _, [] => by simp [compareBytes, Op.bytesLess]
  | a :: xs, b :: ys => by
    simp only [compareBytes, Op.bytesLess, Bool.or_eq_true, Bool.and_eq_true, decide_eq_true_eq, beq_iff_eq, u8_lt]
    rcases Nat.lt_trichotomy a.toNat b.toNat with h | h | h
    · rw [if_pos h]
      have : b ≠ a := fun e => by rw [e] at h; omega
      simp [this]
      omega
    · have e := u8_eq a b h
      subst e
      rw [if_neg (by omega), if_neg (by omega), cb_pos xs ys]
      simp
    · rw [if_neg (by omega), if_pos h]
      simp [h]
theorem bl_trans : ∀ {a b c : List UInt8}, Op.bytesLess a b = true → Op.bytesLess b c = true → Op.bytesLess a c = true
  | _, [], _, h, _ => by simp [Op.bytesLess] at h
  | _, _ :: _, [], _, h => by simp [Op.bytesLess] at h
  | [], _ :: _, _ :: _, _, _ => rfl
  | a :: xs, b :: ys, c :: zs, h1, h2 => by
    simp only [Op.bytesLess, Bool.or_eq_true, Bool.and_eq_true, decide_eq_true_eq, beq_iff_eq, u8_lt] at h1 h2 ⊢
    rcases h1 with h1 | ⟨rfl, h1⟩ <;> rcases h2 with h2 | ⟨rfl, h2⟩
    · exact .inl (by omega)
    · exact .inl h1
    · exact .inl h2
    · exact .inr ⟨rfl, bl_trans h1 h2⟩
theorem bl_irrefl : ∀ a : List UInt8, Op.bytesLess a a = false
  | [] => rfl
  | a :: xs => by simp [Op.bytesLess, bl_irrefl xs]
theorem cb_neg : ∀ a b : List UInt8, compareBytes a b < 0 ↔ Op.bytesLess a b = true
  | [], [] => by simp [compareBytes, Op.bytesLess]
  | [], _ :: _ => by simp [compareBytes, Op.bytesLess]
  | _ :: _, [] => by simp [compareBytes, Op.bytesLess]
  | a :: xs, b :: ys => by
    simp only [compareBytes, Op.bytesLess, Bool.or_eq_true, Bool.and_eq_true, decide_eq_true_eq, beq_iff_eq, u8_lt]
    rcases Nat.lt_trichotomy a.toNat b.toNat with h | h | h
    · rw [if_pos h]
      simp [h]
    · have e := u8_eq a b h
      subst e
      rw [if_neg (by omega), if_neg (by omega), cb_neg xs ys]
      simp
    · rw [if_neg (by omega), if_pos h]
      have : a ≠ b := fun e => by rw [e] at h; omega
      simp [this]
      omega
theorem bl_asymm {a b : List UInt8} (h : Op.bytesLess a b = true) : Op.bytesLess b a = false := by
  cases e : Op.bytesLess b a with
  | false => rfl
  | true =>
    have := bl_trans h e
    rw [bl_irrefl] at this
    cases this
theorem bl_tri {a b : List UInt8} (h1 : Op.bytesLess a b = false) (h2 : Op.bytesLess b a = false) : a = b := by
  rw [← cb_zero]
  have h3 : ¬ compareBytes a b < 0 := fun g => by rw [cb_neg, h1] at g; cases g
  have h4 : ¬ 0 < compareBytes a b := fun g => by rw [cb_pos, h2] at g; cases g
  omega
end Go.Proofs.Ytiakkpglnijapaa
namespace Go.Proofs.Ytiakkpglnijapaa
open Go.ChangeShapes Go.WideShapes Go.ChangeAt Go.RowKit
open Go.Lib (compareBytes)
/-- A day. -/
def dayB (z : Int) : Bool := decide (0 ≤ z ∧ z ≤ 100000)
theorem dayB_yes {z : Int} (h : 0 ≤ z ∧ z ≤ 100000) : dayB z = true := decide_eq_true h
theorem dayB_no {z : Int} (h : ¬ (0 ≤ z ∧ z ≤ 100000)) : dayB z = false := decide_eq_false h
theorem dayB_iff {z : Int} : dayB z = true ↔ 0 ≤ z ∧ z ≤ 100000 := by simp [dayB]
/-- It could stand in an outbox. -/
structure OuOk (l : OutR) : Prop where
  p : nameB l.partner = true
  n : ctlB l.number = true
  t1 : 1 ≤ l.text.size
  t2 : l.text.size ≤ 20000
  r0 : 0 ≤ l.tries
  r5 : l.tries ≤ 5
  d : 0 ≤ l.due ∧ l.due ≤ 100000
open Classical in
noncomputable def ouB (l : OutR) : Bool := decide (OuOk l)
theorem ouB_yes {l : OutR} (h : OuOk l) : ouB l = true := by simp [ouB, h]
theorem ouB_no {l : OutR} (h : ¬ OuOk l) : ouB l = false := by simp [ouB, h]
theorem ouB_iff {l : OutR} : ouB l = true ↔ OuOk l := by simp [ouB]
theorem ouB_iff' {l : OutR} : ouB l = false ↔ ¬ OuOk l := by simp [ouB]
theorem nameB_sizesU {t : ByteArray} (h : nameB t = true) : 1 ≤ t.size ∧ t.size ≤ 12 := by
  simp only [nameB, Bool.and_eq_true, decide_eq_true_eq] at h
  exact h.1.1
/-- Ahead of: by Partner, then by Number. -/
def befO (a b : OutR) : Bool := Op.bytesLess a.partner.toList b.partner.toList || (a.partner.toList == b.partner.toList && decide (a.number < b.number))
theorem befO_trans {a b c : OutR} (h1 : befO a b = true) (h2 : befO b c = true) : befO a c = true := by
  simp only [befO, Bool.or_eq_true, Bool.and_eq_true, beq_iff_eq, decide_eq_true_eq] at h1 h2 ⊢
  rcases h1 with h1 | ⟨e1, h1⟩ <;> rcases h2 with h2 | ⟨e2, h2⟩
  · exact .inl (bl_trans h1 h2)
  · exact .inl (e2 ▸ h1)
  · exact .inl (e1 ▸ h2)
  · exact .inr ⟨e1.trans e2, by omega⟩
theorem befO_irrefl (a : OutR) : befO a a = false := by simp [befO, bl_irrefl]
theorem befO_asymm {a b : OutR} (h : befO a b = true) : befO b a = false := by
  cases e : befO b a with
  | false => rfl
  | true =>
    have := befO_trans h e
    rw [befO_irrefl] at this
    cases this
/-- The two that they are told apart by. -/
def keyO (l : OutR) : ByteArray × Int := (l.partner, l.number)
theorem ba_listU {a b : ByteArray} (h : a.toList = b.toList) : a = b := by
  rw [ByteArray.toList_eq, ByteArray.toList_eq] at h
  exact ByteArray.ext (Array.toList_inj.1 h)
theorem befO_tri {a b : OutR} (h1 : befO a b = false) (h2 : befO b a = false) : keyO a = keyO b := by
  simp only [befO, Bool.or_eq_false_iff, Bool.and_eq_false_iff, beq_eq_false_iff_ne, decide_eq_false_iff_not] at h1 h2
  have ep := bl_tri h1.1 h2.1
  have h1n := h1.2.resolve_left (by simp [ep])
  have h2n := h2.2.resolve_left (by simp [ep])
  have en : a.number = b.number := by omega
  simp [keyO, ba_listU ep, en]
theorem befO_key {a b : OutR} (h : befO a b = true) : keyO a ≠ keyO b := fun e => by
  simp only [keyO, Prod.mk.injEq] at e
  simp [befO, e.1, e.2, bl_irrefl] at h
theorem befO_congr {a b c d : OutR} (h1 : keyO a = keyO c) (h2 : keyO b = keyO d) : befO a b = befO c d := by
  simp only [keyO, Prod.mk.injEq] at h1 h2
  simp [befO, h1.1, h1.2, h2.1, h2.2]
def cmpZU (x y : Int) : Int := if x < y then -1 else if y < x then 1 else 0
def orZU (x y : Int) : Int := if x = 0 then y else x
/-- compare's own answer. -/
def ocmp (a b : OutR) : Int := orZU (compareBytes a.partner.data.toList b.partner.data.toList) (cmpZU a.number b.number)
theorem ocmp_neg (a b : OutR) : ocmp a b < 0 ↔ befO a b = true := by
  simp only [ocmp, orZU, befO, Bool.or_eq_true, Bool.and_eq_true, beq_iff_eq, decide_eq_true_eq, ByteArray.toList_eq]
  by_cases h : compareBytes a.partner.data.toList b.partner.data.toList = 0
  · rw [if_pos h]
    have e := (cb_zero _ _).1 h
    rw [e]
    simp only [bl_irrefl, Bool.false_eq_true, true_and, false_or, cmpZU]
    split
    · simp [*]
    · split <;> simp [*]
  · rw [if_neg h, cb_neg]
    have e : ¬ a.partner.data.toList = b.partner.data.toList := fun e => h ((cb_zero _ _).2 e)
    simp [e]
theorem ocmp_pos (a b : OutR) : 0 < ocmp a b ↔ befO b a = true := by
  simp only [ocmp, orZU, befO, Bool.or_eq_true, Bool.and_eq_true, beq_iff_eq, decide_eq_true_eq, ByteArray.toList_eq]
  by_cases h : compareBytes a.partner.data.toList b.partner.data.toList = 0
  · rw [if_pos h]
    have e := (cb_zero _ _).1 h
    rw [e]
    simp only [bl_irrefl, Bool.false_eq_true, true_and, false_or, cmpZU]
    split
    · simp; omega
    · split <;> simp [*]
  · rw [if_neg h, cb_pos]
    have e : ¬ b.partner.data.toList = a.partner.data.toList := fun e => h ((cb_zero _ _).2 e.symm)
    simp [e]
theorem ocmp_zero (a b : OutR) : ocmp a b = 0 ↔ keyO a = keyO b := by
  constructor
  · intro h
    refine befO_tri ?_ ?_
    · rw [← Bool.not_eq_true, ← ocmp_neg]; omega
    · rw [← Bool.not_eq_true, ← ocmp_pos]; omega
  · intro h
    have h1 : ¬ ocmp a b < 0 := by rw [ocmp_neg]; intro g; exact befO_key g h
    have h2 : ¬ 0 < ocmp a b := by rw [ocmp_pos]; intro g; exact befO_key g h.symm
    omega
def zeroO : OutR := ⟨⟨#[]⟩, 0, ⟨#[]⟩, 0, 0⟩
theorem ocmp_first {c : OutR} (h : nameB c.partner = true) : 0 < ocmp c zeroO := by
  have h1 := (nameB_sizesU h).1
  rw [ocmp_pos]
  simp only [befO, zeroO, ByteArray.toList_eq, Bool.or_eq_true]
  refine .inl ?_
  cases hl : c.partner.data.toList with
  | nil =>
    have : c.partner.data.toList.length = 0 := by rw [hl]; rfl
    have e : c.partner.size = c.partner.data.toList.length := by simp
    omega
  | cons x r => simp [Op.bytesLess]
/-- What is asked at place i. -/
structure OkO (rs : List OutR) (i : Nat) (c : OutR) : Prop where
  ok : OuOk c
  rise : ∀ d, 0 < i → rs[i - 1]? = some d → befO d c = true
structure RightO (rs : List OutR) : Prop where
  len : rs.length ≤ 60
  at_ : ∀ i c, rs[i]? = some c → OkO rs i c
open Classical in
noncomputable def ousB (rs : List OutR) : Bool := decide (RightO rs)
theorem ousB_yes {rs : List OutR} (h : RightO rs) : ousB rs = true := by simp [ousB, h]
theorem ousB_no {rs : List OutR} (h : ¬ RightO rs) : ousB rs = false := by simp [ousB, h]
theorem ousB_iff {rs : List OutR} : ousB rs = true ↔ RightO rs := by simp [ousB]
theorem ousB_iff' {rs : List OutR} : ousB rs = false ↔ ¬ RightO rs := by simp [ousB]
theorem riseO_all {rs : List OutR} : ∀ {k : Nat}, (∀ i c, i ≤ k → rs[i]? = some c → OkO rs i c) → ∀ i d c, i < k → rs[i]? = some d → rs[k]? = some c → befO d c = true
  | 0, _, i, _, _, h, _, _ => by omega
  | k + 1, h, i, d, c, hi, hd, hc => by
    have hk : k < rs.length := by have := (List.getElem?_eq_some_iff.1 hc).1; omega
    have e := List.getElem?_eq_getElem hk
    have h1 := (h (k + 1) c (Nat.le_refl _) hc).rise rs[k] (by omega) e
    rcases Nat.lt_or_ge i k with g | g
    · exact befO_trans (riseO_all (fun i c hi => h i c (by omega)) i d rs[k] g hd e) h1
    · obtain rfl : i = k := by omega
      rw [hd] at e
      cases e
      exact h1
theorem RightO.pair {rs : List OutR} (h : RightO rs) : rs.Pairwise fun a b => befO a b = true := by
  rw [List.pairwise_iff_getElem]
  intro i j hi hj hij
  exact riseO_all (k := j) (fun i c _ hc => h.at_ i c hc) i _ _ hij (List.getElem?_eq_getElem hi) (List.getElem?_eq_getElem hj)
theorem RightO.ok {rs : List OutR} (h : RightO rs) : ∀ c ∈ rs, OuOk c := fun c hc => by
  obtain ⟨i, hi⟩ := List.mem_iff_getElem?.1 hc
  exact (h.at_ i c hi).ok
theorem RightO.of_pair {rs : List OutR} (hl : rs.length ≤ 60) (ho : ∀ c ∈ rs, OuOk c) (hp : rs.Pairwise fun a b => befO a b = true) : RightO rs := by
  rw [List.pairwise_iff_getElem] at hp
  refine ⟨hl, fun i c hc => ?_⟩
  obtain ⟨hi, e⟩ := List.getElem?_eq_some_iff.1 hc
  refine ⟨ho c (List.mem_of_getElem? hc), fun d h0 hd => ?_⟩
  obtain ⟨hi', e'⟩ := List.getElem?_eq_some_iff.1 hd
  have := hp (i - 1) i hi' hi (by omega)
  rwa [e, e'] at this
end Go.Proofs.Ytiakkpglnijapaa
