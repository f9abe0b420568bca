/- What it means that an order line, and a list of them, is right: pure. -/
import Derived.Lib.Bytealg
import Derived.Test.YtenjcmgkfemmgaaKeep
import Derived.Test.YtenjcmgkfemmgaaRet
import Derived.Test.YtenjcmgkfemmgaaRowOl
namespace Go.Proofs.Ytenjcmgkfemmgaa
open Go.RowKit
open Go.Lib (compareBytes)
theorem u8_lt (a b : UInt8) : a < b ↔ a.toNat < b.toNat := UInt8.lt_iff_toNat_lt
theorem u8_eq (a b : UInt8) (h : a.toNat = b.toNat) : a = b := UInt8.toNat_inj.1 h
theorem cb_zero : ∀ a b : List UInt8, compareBytes a b = 0 ↔ a = b
  | [], [] => by simp [compareBytes]
  | [], _ :: _ => by simp [compareBytes]
  | _ :: _, [] => by simp [compareBytes]
  | a :: xs, b :: ys => by
    simp only [compareBytes, u8_lt]
    rcases Nat.lt_trichotomy a.toNat b.toNat with h | h | h
    · rw [if_pos h]
      have : a ≠ b := fun e => by rw [e] at h; omega
      simp [this]
    · have e := u8_eq a b h
      subst e
      rw [if_neg (by omega), if_neg (by omega), cb_zero xs ys]
      simp
    · rw [if_neg (by omega), if_pos h]
      have : a ≠ b := fun e => by rw [e] at h; omega
      simp [this]
theorem cb_pos : ∀ a b : List UInt8, 0 < compareBytes a b ↔ Op.bytesLess b a = true
  | [], [] => by simp [compareBytes, Op.bytesLess]
  | [], _ :: _ => by simp [compareBytes, Op.bytesLess]
  | _ :: _, [] => by simp [compareBytes, Op.bytesLess]
  | a :: xs, b :: ys => by
    simp only [compareBytes, Op.bytesLess, Bool.or_eq_true, Bool.and_eq_true, decide_eq_true_eq, beq_iff_eq, u8_lt]
    rcases Nat.lt_trichotomy a.toNat b.toNat with h | h | h
    · rw [if_pos h]
      have : b ≠ a := fun e => by rw [e] at h; omega
      simp [this]
      omega
    · have e := u8_eq a b h
      subst e
      rw [if_neg (by omega), if_neg (by omega), cb_pos xs ys]
      simp
    · rw [if_neg (by omega), if_pos h]
      simp [h]
theorem bl_trans : ∀ {a b c : List UInt8}, Op.bytesLess a b = true → Op.bytesLess b c = true → Op.bytesLess a c = true
  | _, [], _, h, _ => by simp [Op.bytesLess] at h
  | _, _ :: _, [], _, h => by simp [Op.bytesLess] at h
  | [], _ :: _, _ :: _, _, _ => rfl
  | a :: xs, b :: ys, c :: zs, h1, h2 => by
    simp only [Op.bytesLess, Bool.or_eq_true, Bool.and_eq_true, decide_eq_true_eq, beq_iff_eq, u8_lt] at h1 h2 ⊢
    rcases h1 with h1 | ⟨rfl, h1⟩ <;> rcases h2 with h2 | ⟨rfl, h2⟩
    · exact .inl (by omega)
    · exact .inl h1
    · exact .inl h2
    · exact .inr ⟨rfl, bl_trans h1 h2⟩
theorem bl_irrefl : ∀ a : List UInt8, Op.bytesLess a a = false
  | [] => rfl
  | a :: xs => by simp [Op.bytesLess, bl_irrefl xs]
theorem cb_neg : ∀ a b : List UInt8, compareBytes a b < 0 ↔ Op.bytesLess a b = true
  | [], [] => by simp [compareBytes, Op.bytesLess]
  | [], _ :: _ => by simp [compareBytes, Op.bytesLess]
  | _ :: _, [] => by simp [compareBytes, Op.bytesLess]
  | a :: xs, b :: ys => by
    simp only [compareBytes, Op.bytesLess, Bool.or_eq_true, Bool.and_eq_true, decide_eq_true_eq, beq_iff_eq, u8_lt]
    rcases Nat.lt_trichotomy a.toNat b.toNat with h | h | h
    · rw [if_pos h]
      simp [h]
    · have e := u8_eq a b h
      subst e
      rw [if_neg (by omega), if_neg (by omega), cb_neg xs ys]
      simp
    · rw [if_neg (by omega), if_pos h]
      have : a ≠ b := fun e => by rw [e] at h; omega
      simp [this]
      omega
theorem bl_asymm {a b : List UInt8} (h : Op.bytesLess a b = true) : Op.bytesLess b a = false := by
  cases e : Op.bytesLess b a with
  | false => rfl
  | true =>
    have := bl_trans h e
    rw [bl_irrefl] at this
    cases this
theorem bl_tri {a b : List UInt8} (h1 : Op.bytesLess a b = false) (h2 : Op.bytesLess b a = false) : a = b := by
  rw [← cb_zero]
  have h3 : ¬ compareBytes a b < 0 := fun g => by rw [cb_neg, h1] at g; cases g
  have h4 : ¬ 0 < compareBytes a b := fun g => by rw [cb_pos, h2] at g; cases g
  omega
end Go.Proofs.Ytenjcmgkfemmgaa
namespace Go.Proofs.Ytenjcmgkfemmgaa
open Go.ChangeShapes Go.WideShapes Go.ChangeAt Go.RowKit
def nmOk (c : UInt8) : Bool := decide (c.toNat = 45 ∨ (48 ≤ c.toNat ∧ c.toNat ≤ 57) ∨ (65 ≤ c.toNat ∧ c.toNat ≤ 90))
def nameB (t : ByteArray) : Bool := decide (1 ≤ t.size ∧ t.size ≤ 12) && (t.data.toList.head?.any fun c => decide (65 ≤ c.toNat ∧ c.toNat ≤ 90)) && t.data.toList.all nmOk
theorem nameB_size {t : ByteArray} (h : ¬ (1 ≤ t.size ∧ t.size ≤ 12)) : nameB t = false := by simp [nameB, h]
theorem nameB_head {t : ByteArray} (h0 : 0 < t.size) (h : ¬ (65 ≤ (t[0]'h0).toNat ∧ (t[0]'h0).toNat ≤ 90)) : nameB t = false := by
  have hh : t.data.toList.head? = some (t[0]'h0) := by rw [List.head?_eq_getElem?, List.getElem?_eq_getElem (by simpa using h0)]; rfl
  unfold nameB
  rw [hh]
  simp only [Option.any_some, h, decide_false, Bool.and_false, Bool.false_and]
theorem nameB_at {t : ByteArray} (k : Nat) (hk : k < t.size) (h : nmOk (t[k]'hk) = false) : nameB t = false := by
  have hk' : k < t.data.toList.length := by simpa using hk
  have : t.data.toList.all nmOk = false := by
    rw [← Bool.not_eq_true, List.all_eq_true]
    intro hall
    have h1 := hall (t.data.toList[k]) (List.getElem_mem hk')
    have e : t.data.toList[k] = t[k]'hk := rfl
    rw [e, h] at h1
    cases h1
  unfold nameB
  rw [this, Bool.and_false]
theorem nameB_yes {t : ByteArray} (h1 : 1 ≤ t.size ∧ t.size ≤ 12) (h0 : 0 < t.size) (h2 : 65 ≤ (t[0]'h0).toNat ∧ (t[0]'h0).toNat ≤ 90) (h3 : ∀ (j : Nat) (hj : j < t.size), nmOk (t[j]'hj) = true) : nameB t = true := by
  have hh : t.data.toList.head? = some (t[0]'h0) := by rw [List.head?_eq_getElem?, List.getElem?_eq_getElem (by simpa using h0)]; rfl
  have ha : t.data.toList.all nmOk = true := by
    rw [List.all_eq_true]
    intro x hx
    obtain ⟨j, hj, rfl⟩ := List.mem_iff_getElem.1 hx
    exact h3 j (by simpa using hj)
  unfold nameB
  rw [hh, ha]
  simp [h1, h2]
theorem nm_next {t : ByteArray} {k : Nat} {hlt : k < t.size} (h : ∀ (j : Nat) (hj : j < t.size), j < k → nmOk (t[j]'hj) = true) (hk : nmOk (t[k]'hlt) = true) : ∀ (j : Nat) (hj : j < t.size), j < k + 1 → nmOk (t[j]'hj) = true := by
  intro j hj hjk
  rcases Nat.lt_or_ge j k with g | g
  · exact h j hj g
  · obtain rfl : j = k := by omega
    exact hk
set_option maxHeartbeats 1000000 in
theorem isName_any (t : ByteArray) (w : World) : Calls Try.prog 20 #[.string t] w fun e w' => e = .returned (.bool (nameB t)) ∧ w' = w := by
  by_cases hs : 1 ≤ t.size ∧ t.size ≤ 12
  · have hs1 : (1 : Int) ≤ (t.size : Int) := by omega
    have hs2 : (t.size : Int) ≤ 12 := by omega
    have hs3 : decide ((t.size : Int) < 1) = false := by simp; omega
    have hs4 : decide ((12 : Int) < (t.size : Int)) = false := by simp; omega
    have h0 : 0 < t.size := by omega
    have h0' : (0 : Int) < (t.size : Int) := by omega
    have hx0 : 0 ≤ ((t[0]'h0).toNat : Int) := by omega
    have hx1 : ((t[0]'h0).toNat : Int) ≤ 255 := by have := (t[0]'h0).toNat_lt; omega
    by_cases hh : 65 ≤ (t[0]'h0).toNat ∧ (t[0]'h0).toNat ≤ 90
    · have d1 : decide (((t[0]'h0).toNat : Int) < 65) = false := by simp; omega
      have d2 : decide ((90 : Int) < ((t[0]'h0).toNat : Int)) = false := by simp; omega
      have HH : Hid ((1 ≤ t.size ∧ t.size ≤ 12) ∧ 65 ≤ (t[0]'h0).toNat ∧ (t[0]'h0).toNat ≤ 90) := ⟨hs, hh⟩
      clear hh hs
      go_enter Try.func20, Try.ntmps20
      go_wp2
      go_loopw [25] (fun i wr => ∃ k : Nat, i = .int .i64 (k : Int) ∧ k ≤ t.size ∧ (∀ (j : Nat) (hj : j < t.size), j < k → nmOk (t[j]'hj) = true) ∧ wr = w) (fun i _ => t.size - (intOf i).toNat)
      case atStart => exact ⟨0, rfl, by omega, fun j hj h => by omega, rfl⟩
      case round =>
        obtain ⟨k, rfl, hk, hA, rfl⟩ := hrel
        have HA : Hid (∀ (j : Nat) (hj : j < t.size), j < k → nmOk (t[j]'hj) = true) := hA
        clear hA
        by_cases hlt : k < t.size
        · have hlt' : (k : Int) < (t.size : Int) := by omega
          have hy0 : 0 ≤ ((t[k]'hlt).toNat : Int) := by omega
          have hy1 : ((t[k]'hlt).toNat : Int) ≤ 255 := by have := (t[k]'hlt).toNat_lt; omega
          clear d1 d2 hx0 hx1 hs3 hs4
          go_wp2
          all_goals first
            | (go_roundw; (case rel => exact ⟨k + 1, by go_num, by omega, nm_next HA.out (by simp [nmOk] at *; omega), trivial⟩); (case measure => simp [intOf]; omega))
            | (go_ret; exact ⟨ret_bool (nameB_at k hlt (by simp [nmOk] at *; omega)).symm, rfl⟩)
        · obtain rfl : k = t.size := by omega
          go_wp2
          go_ret
          exact ⟨ret_bool (nameB_yes HH.out.1 h0 HH.out.2 fun j hj => HA.out j hj hj).symm, rfl⟩
    · have HN : Hid (nameB t = false) := nameB_head h0 hh
      by_cases d1 : ((t[0]'h0).toNat : Int) < 65
      · have d1' : decide (((t[0]'h0).toNat : Int) < 65) = true := by simpa using d1
        go_enter Try.func20, Try.ntmps20
        go_wp2
        go_ret
        exact ⟨ret_bool HN.out.symm, rfl⟩
      · have d1' : decide (((t[0]'h0).toNat : Int) < 65) = false := by simpa using d1
        have d2 : decide ((90 : Int) < ((t[0]'h0).toNat : Int)) = true := by simp; omega
        go_enter Try.func20, Try.ntmps20
        go_wp2
        go_ret
        exact ⟨ret_bool HN.out.symm, rfl⟩
  · have HN : Hid (nameB t = false) := nameB_size hs
    by_cases h1 : t.size < 1
    · have h1' : (t.size : Int) < 1 := by omega
      go_enter Try.func20, Try.ntmps20
      go_wp2
      go_ret
      exact ⟨ret_bool HN.out.symm, rfl⟩
    · have h1' : (1 : Int) ≤ (t.size : Int) := by omega
      have h2' : (12 : Int) < (t.size : Int) := by omega
      go_enter Try.func20, Try.ntmps20
      go_wp2
      go_ret
      exact ⟨ret_bool HN.out.symm, rfl⟩
set_option maxHeartbeats 1000000 in
theorem l01Name_any (t : ByteArray) (w : World) : Calls Try.prog 18 #[.string t] w fun e w' => e = .returned (.bool (nameB t)) ∧ w' = w := by
  by_cases hs : 1 ≤ t.size ∧ t.size ≤ 12
  · have hs1 : (1 : Int) ≤ (t.size : Int) := by omega
    have hs2 : (t.size : Int) ≤ 12 := by omega
    have hs3 : decide ((t.size : Int) < 1) = false := by simp; omega
    have hs4 : decide ((12 : Int) < (t.size : Int)) = false := by simp; omega
    have h0 : 0 < t.size := by omega
    have h0' : (0 : Int) < (t.size : Int) := by omega
    have hx0 : 0 ≤ ((t[0]'h0).toNat : Int) := by omega
    have hx1 : ((t[0]'h0).toNat : Int) ≤ 255 := by have := (t[0]'h0).toNat_lt; omega
    by_cases hh : 65 ≤ (t[0]'h0).toNat ∧ (t[0]'h0).toNat ≤ 90
    · have d1 : decide (((t[0]'h0).toNat : Int) < 65) = false := by simp; omega
      have d2 : decide ((90 : Int) < ((t[0]'h0).toNat : Int)) = false := by simp; omega
      have HH : Hid ((1 ≤ t.size ∧ t.size ≤ 12) ∧ 65 ≤ (t[0]'h0).toNat ∧ (t[0]'h0).toNat ≤ 90) := ⟨hs, hh⟩
      clear hh hs
      go_enter Try.func18, Try.ntmps18
      go_wp2
      go_loopw [3] (fun i wr => ∃ k : Nat, i = .int .i64 (k : Int) ∧ k ≤ t.size ∧ (∀ (j : Nat) (hj : j < t.size), j < k → nmOk (t[j]'hj) = true) ∧ wr = w) (fun i _ => t.size - (intOf i).toNat)
      case atStart => exact ⟨0, rfl, by omega, fun j hj h => by omega, rfl⟩
      case round =>
        obtain ⟨k, rfl, hk, hA, rfl⟩ := hrel
        have HA : Hid (∀ (j : Nat) (hj : j < t.size), j < k → nmOk (t[j]'hj) = true) := hA
        clear hA
        by_cases hlt : k < t.size
        · have hlt' : (k : Int) < (t.size : Int) := by omega
          have hy0 : 0 ≤ ((t[k]'hlt).toNat : Int) := by omega
          have hy1 : ((t[k]'hlt).toNat : Int) ≤ 255 := by have := (t[k]'hlt).toNat_lt; omega
          clear d1 d2 hx0 hx1 hs3 hs4
          go_wp2
          all_goals first
            | (go_roundw; (case rel => exact ⟨k + 1, by go_num, by omega, nm_next HA.out (by simp [nmOk] at *; omega), trivial⟩); (case measure => simp [intOf]; omega))
            | (go_ret; exact ⟨ret_bool (nameB_at k hlt (by simp [nmOk] at *; omega)).symm, rfl⟩)
        · obtain rfl : k = t.size := by omega
          go_wp2
          go_ret
          exact ⟨ret_bool (nameB_yes HH.out.1 h0 HH.out.2 fun j hj => HA.out j hj hj).symm, rfl⟩
    · have HN : Hid (nameB t = false) := nameB_head h0 hh
      by_cases d1 : ((t[0]'h0).toNat : Int) < 65
      · have d1' : decide (((t[0]'h0).toNat : Int) < 65) = true := by simpa using d1
        go_enter Try.func18, Try.ntmps18
        go_wp2
        go_ret
        exact ⟨ret_bool HN.out.symm, rfl⟩
      · have d1' : decide (((t[0]'h0).toNat : Int) < 65) = false := by simpa using d1
        have d2 : decide ((90 : Int) < ((t[0]'h0).toNat : Int)) = true := by simp; omega
        go_enter Try.func18, Try.ntmps18
        go_wp2
        go_ret
        exact ⟨ret_bool HN.out.symm, rfl⟩
  · have HN : Hid (nameB t = false) := nameB_size hs
    by_cases h1 : t.size < 1
    · have h1' : (t.size : Int) < 1 := by omega
      go_enter Try.func18, Try.ntmps18
      go_wp2
      go_ret
      exact ⟨ret_bool HN.out.symm, rfl⟩
    · have h1' : (1 : Int) ≤ (t.size : Int) := by omega
      have h2' : (12 : Int) < (t.size : Int) := by omega
      go_enter Try.func18, Try.ntmps18
      go_wp2
      go_ret
      exact ⟨ret_bool HN.out.symm, rfl⟩
end Go.Proofs.Ytenjcmgkfemmgaa
namespace Go.Proofs.Ytenjcmgkfemmgaa
open Go.ChangeShapes Go.WideShapes Go.ChangeAt Go.RowKit
open Go.Lib (compareBytes)
/-- A quantity. -/
def qtyB (z : Int) : Bool := decide (1 ≤ z ∧ z ≤ 1000000)
theorem qtyB_yes {z : Int} (h : 1 ≤ z ∧ z ≤ 1000000) : qtyB z = true := decide_eq_true h
theorem qtyB_no {z : Int} (h : ¬ (1 ≤ z ∧ z ≤ 1000000)) : qtyB z = false := decide_eq_false h
/-- A right line. -/
structure LnOk (l : OLn) : Prop where
  p : nameB l.partner = true
  r : nameB l.ref = true
  i : nameB l.item = true
  n1 : 1 ≤ l.no
  n2 : l.no ≤ 999
  o1 : 1 ≤ l.ordered
  o2 : l.ordered ≤ 1000000
  s0 : 0 ≤ l.sent
  g0 : 0 ≤ l.got
  c0 : 0 ≤ l.cut
  gs : l.got ≤ l.sent
  so : l.sent ≤ l.ordered
  co : l.cut ≤ l.ordered - l.sent
open Classical in
noncomputable def lnB (l : OLn) : Bool := decide (LnOk l)
theorem lnB_yes {l : OLn} (h : LnOk l) : lnB l = true := by simp [lnB, h]
theorem lnB_no {l : OLn} (h : ¬ LnOk l) : lnB l = false := by simp [lnB, h]
theorem lnB_iff {l : OLn} : lnB l = true ↔ LnOk l := by simp [lnB]
theorem lnB_iff' {l : OLn} : lnB l = false ↔ ¬ LnOk l := by simp [lnB]
/-- Its three texts are names, its No is one. -/
def nmdB (l : OLn) : Bool := nameB l.partner && (nameB l.ref && (nameB l.item && decide (1 ≤ l.no ∧ l.no ≤ 999)))
/-- Its numbers fit together. -/
def cntB (l : OLn) : Bool := decide (1 ≤ l.ordered ∧ l.ordered ≤ 1000000 ∧ 0 ≤ l.got ∧ l.got ≤ l.sent ∧ l.sent ≤ l.ordered ∧ 0 ≤ l.cut ∧ l.cut ≤ l.ordered - l.sent)
theorem lnB_split (l : OLn) : lnB l = (nmdB l && cntB l) := by
  cases h : (nmdB l && cntB l) with
  | true =>
    simp only [nmdB, cntB, Bool.and_eq_true, decide_eq_true_eq] at h
    obtain ⟨⟨h1, h2, h3, h4, h5⟩, h6, h7, h8, h9, h10, h11, h12⟩ := h
    exact lnB_yes ⟨h1, h2, h3, h4, h5, h6, h7, by omega, h8, h11, h9, h10, h12⟩
  | false =>
    refine lnB_no fun g => ?_
    have : (nmdB l && cntB l) = true := by
      simp only [nmdB, cntB, Bool.and_eq_true, decide_eq_true_eq]
      exact ⟨⟨g.p, g.r, g.i, g.n1, g.n2⟩, g.o1, g.o2, g.g0, g.gs, g.so, g.c0, g.co⟩
    rw [this] at h
    cases h
theorem nameB_sizes {t : ByteArray} (h : nameB t = true) : 1 ≤ t.size ∧ t.size ≤ 12 := by
  simp only [nameB, Bool.and_eq_true, decide_eq_true_eq] at h
  exact h.1.1
/-- Ahead of: by Partner, then by Ref, then by No. -/
def befL (a b : OLn) : Bool := Op.bytesLess a.partner.toList b.partner.toList || (a.partner.toList == b.partner.toList && (Op.bytesLess a.ref.toList b.ref.toList || (a.ref.toList == b.ref.toList && decide (a.no < b.no))))
theorem befL_trans {a b c : OLn} (h1 : befL a b = true) (h2 : befL b c = true) : befL a c = true := by
  simp only [befL, Bool.or_eq_true, Bool.and_eq_true, beq_iff_eq, decide_eq_true_eq] at h1 h2 ⊢
  rcases h1 with h1 | ⟨e1, h1⟩ <;> rcases h2 with h2 | ⟨e2, h2⟩
  · exact .inl (bl_trans h1 h2)
  · exact .inl (e2 ▸ h1)
  · exact .inl (e1 ▸ h2)
  · refine .inr ⟨e1.trans e2, ?_⟩
    rcases h1 with h1 | ⟨f1, h1⟩ <;> rcases h2 with h2 | ⟨f2, h2⟩
    · exact .inl (bl_trans h1 h2)
    · exact .inl (f2 ▸ h1)
    · exact .inl (f1 ▸ h2)
    · exact .inr ⟨f1.trans f2, by omega⟩
theorem befL_irrefl (a : OLn) : befL a a = false := by simp [befL, bl_irrefl]
theorem befL_asymm {a b : OLn} (h : befL a b = true) : befL b a = false := by
  cases e : befL b a with
  | false => rfl
  | true =>
    have := befL_trans h e
    rw [befL_irrefl] at this
    cases this
/-- The three that lines are told apart by. -/
def keyL (l : OLn) : ByteArray × ByteArray × Int := (l.partner, l.ref, l.no)
theorem ba_list {a b : ByteArray} (h : a.toList = b.toList) : a = b := by
  rw [ByteArray.toList_eq, ByteArray.toList_eq] at h
  exact ByteArray.ext (Array.toList_inj.1 h)
theorem befL_tri {a b : OLn} (h1 : befL a b = false) (h2 : befL b a = false) : keyL a = keyL b := by
  simp only [befL, Bool.or_eq_false_iff, Bool.and_eq_false_iff, beq_eq_false_iff_ne, decide_eq_false_iff_not] at h1 h2
  have ep := bl_tri h1.1 h2.1
  have h1' := h1.2.resolve_left (by simp [ep])
  have h2' := h2.2.resolve_left (by simp [ep])
  have er := bl_tri h1'.1 h2'.1
  have h1n := h1'.2.resolve_left (by simp [er])
  have h2n := h2'.2.resolve_left (by simp [er])
  have en : a.no = b.no := by omega
  simp [keyL, ba_list ep, ba_list er, en]
theorem befL_key {a b : OLn} (h : befL a b = true) : keyL a ≠ keyL b := fun e => by
  simp only [keyL, Prod.mk.injEq] at e
  simp [befL, e.1, e.2.1, e.2.2, bl_irrefl] at h
theorem befL_congr {a b c d : OLn} (h1 : keyL a = keyL c) (h2 : keyL b = keyL d) : befL a b = befL c d := by
  simp only [keyL, Prod.mk.injEq] at h1 h2
  simp [befL, h1.1, h1.2.1, h1.2.2, h2.1, h2.2.1, h2.2.2]
def cmpZ (x y : Int) : Int := if x < y then -1 else if y < x then 1 else 0
def orZ (x y : Int) : Int := if x = 0 then y else x
/-- compare's own answer. -/
def lcmp (a b : OLn) : Int := orZ (compareBytes a.partner.data.toList b.partner.data.toList) (orZ (compareBytes a.ref.data.toList b.ref.data.toList) (cmpZ a.no b.no))
theorem lcmp_neg (a b : OLn) : lcmp a b < 0 ↔ befL a b = true := by
  simp only [lcmp, orZ, befL, Bool.or_eq_true, Bool.and_eq_true, beq_iff_eq, decide_eq_true_eq, ByteArray.toList_eq]
  by_cases h : compareBytes a.partner.data.toList b.partner.data.toList = 0
  · rw [if_pos h]
    have e := (cb_zero _ _).1 h
    rw [e]
    simp only [bl_irrefl, Bool.false_eq_true, true_and, false_or]
    by_cases h2 : compareBytes a.ref.data.toList b.ref.data.toList = 0
    · rw [if_pos h2]
      have e2 := (cb_zero _ _).1 h2
      rw [e2]
      simp only [bl_irrefl, Bool.false_eq_true, true_and, false_or, cmpZ]
      split
      · simp [*]
      · split <;> simp [*]
    · rw [if_neg h2, cb_neg]
      have e2 : ¬ a.ref.data.toList = b.ref.data.toList := fun e => h2 ((cb_zero _ _).2 e)
      simp [e2]
  · rw [if_neg h, cb_neg]
    have e : ¬ a.partner.data.toList = b.partner.data.toList := fun e => h ((cb_zero _ _).2 e)
    simp [e]
theorem lcmp_pos (a b : OLn) : 0 < lcmp a b ↔ befL b a = true := by
  simp only [lcmp, orZ, befL, Bool.or_eq_true, Bool.and_eq_true, beq_iff_eq, decide_eq_true_eq, ByteArray.toList_eq]
  by_cases h : compareBytes a.partner.data.toList b.partner.data.toList = 0
  · rw [if_pos h]
    have e := (cb_zero _ _).1 h
    rw [e]
    simp only [bl_irrefl, Bool.false_eq_true, true_and, false_or]
    by_cases h2 : compareBytes a.ref.data.toList b.ref.data.toList = 0
    · rw [if_pos h2]
      have e2 := (cb_zero _ _).1 h2
      rw [e2]
      simp only [bl_irrefl, Bool.false_eq_true, true_and, false_or, cmpZ]
      split
      · simp; omega
      · split <;> simp [*]
    · rw [if_neg h2, cb_pos]
      have e2 : ¬ b.ref.data.toList = a.ref.data.toList := fun e => h2 ((cb_zero _ _).2 e.symm)
      simp [e2]
  · rw [if_neg h, cb_pos]
    have e : ¬ b.partner.data.toList = a.partner.data.toList := fun e => h ((cb_zero _ _).2 e.symm)
    simp [e]
theorem lcmp_zero (a b : OLn) : lcmp a b = 0 ↔ keyL a = keyL b := by
  constructor
  · intro h
    refine befL_tri ?_ ?_
    · rw [← Bool.not_eq_true, ← lcmp_neg]; omega
    · rw [← Bool.not_eq_true, ← lcmp_pos]; omega
  · intro h
    have h1 : ¬ lcmp a b < 0 := by rw [lcmp_neg]; intro g; exact befL_key g h
    have h2 : ¬ 0 < lcmp a b := by rw [lcmp_pos]; intro g; exact befL_key g h.symm
    omega
def zeroL : OLn := ⟨⟨#[]⟩, ⟨#[]⟩, 0, ⟨#[]⟩, 0, 0, 0, 0⟩
theorem lcmp_first {c : OLn} (h : nameB c.partner = true) : 0 < lcmp c zeroL := by
  have h1 := (nameB_sizes h).1
  rw [lcmp_pos]
  simp only [befL, zeroL, ByteArray.toList_eq, Bool.or_eq_true]
  refine .inl ?_
  cases hl : c.partner.data.toList with
  | nil =>
    have : c.partner.data.toList.length = 0 := by rw [hl]; rfl
    have e : c.partner.size = c.partner.data.toList.length := by simp
    omega
  | cons x r => simp [Op.bytesLess]
/-- What is asked at place i. -/
structure OkL (rs : List OLn) (i : Nat) (c : OLn) : Prop where
  ok : LnOk c
  rise : ∀ d, 0 < i → rs[i - 1]? = some d → befL d c = true
structure RightL (rs : List OLn) : Prop where
  len : rs.length ≤ 200
  at_ : ∀ i c, rs[i]? = some c → OkL rs i c
open Classical in
noncomputable def lnsB (rs : List OLn) : Bool := decide (RightL rs)
theorem lnsB_yes {rs : List OLn} (h : RightL rs) : lnsB rs = true := by simp [lnsB, h]
theorem lnsB_no {rs : List OLn} (h : ¬ RightL rs) : lnsB rs = false := by simp [lnsB, h]
theorem lnsB_iff {rs : List OLn} : lnsB rs = true ↔ RightL rs := by simp [lnsB]
theorem lnsB_iff' {rs : List OLn} : lnsB rs = false ↔ ¬ RightL rs := by simp [lnsB]
theorem riseL_all {rs : List OLn} : ∀ {k : Nat}, (∀ i c, i ≤ k → rs[i]? = some c → OkL rs i c) → ∀ i d c, i < k → rs[i]? = some d → rs[k]? = some c → befL d c = true
  | 0, _, i, _, _, h, _, _ => by omega
  | k + 1, h, i, d, c, hi, hd, hc => by
    have hk : k < rs.length := by have := (List.getElem?_eq_some_iff.1 hc).1; omega
    have e := List.getElem?_eq_getElem hk
    have h1 := (h (k + 1) c (Nat.le_refl _) hc).rise rs[k] (by omega) e
    rcases Nat.lt_or_ge i k with g | g
    · exact befL_trans (riseL_all (fun i c hi => h i c (by omega)) i d rs[k] g hd e) h1
    · obtain rfl : i = k := by omega
      rw [hd] at e
      cases e
      exact h1
theorem RightL.pair {rs : List OLn} (h : RightL rs) : rs.Pairwise fun a b => befL a b = true := by
  rw [List.pairwise_iff_getElem]
  intro i j hi hj hij
  exact riseL_all (k := j) (fun i c _ hc => h.at_ i c hc) i _ _ hij (List.getElem?_eq_getElem hi) (List.getElem?_eq_getElem hj)
theorem RightL.ok {rs : List OLn} (h : RightL rs) : ∀ c ∈ rs, LnOk c := fun c hc => by
  obtain ⟨i, hi⟩ := List.mem_iff_getElem?.1 hc
  exact (h.at_ i c hi).ok
theorem RightL.of_pair {rs : List OLn} (hl : rs.length ≤ 200) (ho : ∀ c ∈ rs, LnOk c) (hp : rs.Pairwise fun a b => befL a b = true) : RightL rs := by
  rw [List.pairwise_iff_getElem] at hp
  refine ⟨hl, fun i c hc => ?_⟩
  obtain ⟨hi, e⟩ := List.getElem?_eq_some_iff.1 hc
  refine ⟨ho c (List.mem_of_getElem? hc), fun d h0 hd => ?_⟩
  obtain ⟨hi', e'⟩ := List.getElem?_eq_some_iff.1 hd
  have := hp (i - 1) i hi' hi (by omega)
  rwa [e, e'] at this
/-- What is open of a line, and in transit. -/
noncomputable def opnT (l : OLn) : Int := if lnB l = true then l.ordered - l.sent - l.cut else 0
noncomputable def trnT (l : OLn) : Int := if lnB l = true then l.sent - l.got else 0
theorem opnT_yes {l : OLn} (h : LnOk l) : opnT l = l.ordered - l.sent - l.cut := if_pos (lnB_yes h)
theorem trnT_yes {l : OLn} (h : LnOk l) : trnT l = l.sent - l.got := if_pos (lnB_yes h)
theorem opnT_no {l : OLn} (h : ¬ LnOk l) : opnT l = 0 := if_neg (by simp [lnB_no h])
theorem trnT_no {l : OLn} (h : ¬ LnOk l) : trnT l = 0 := if_neg (by simp [lnB_no h])
end Go.Proofs.Ytenjcmgkfemmgaa
