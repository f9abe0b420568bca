/- Texts of ours put together: NameB, CtlB, PnP, BlP. -/
import Derived.Test.YtamlhbjcokkmeaaGreatDoorG00
import Derived.Test.YtamlhbjcokkmeaaGreatDoorG01
import Derived.Lib.Bytealg
namespace Go.Proofs.YtamlhbjcokkmeaaGreatDoor
open Go.ChangeShapes Go.WideShapes Go.ChangeAt Go.RowKit
def nmOk (c : UInt8) : Bool := decide (c.toNat = 45 ∨ (48 ≤ c.toNat ∧ c.toNat ≤ 57) ∨ (65 ≤ c.toNat ∧ c.toNat ≤ 90))
def nameB (t : ByteArray) : Bool := decide (1 ≤ t.size ∧ t.size ≤ 12) && (t.data.toList.head?.any fun c => decide (65 ≤ c.toNat ∧ c.toNat ≤ 90)) && t.data.toList.all nmOk
theorem nameB_size {t : ByteArray} (h : ¬ (1 ≤ t.size ∧ t.size ≤ 12)) : nameB t = false := by simp [nameB, h]
theorem nameB_head {t : ByteArray} (h0 : 0 < t.size) (h : ¬ (65 ≤ (t[0]'h0).toNat ∧ (t[0]'h0).toNat ≤ 90)) : nameB t = false := by
  have hh : t.data.toList.head? = some (t[0]'h0) := by rw [List.head?_eq_getElem?, List.getElem?_eq_getElem (by simpa using h0)]; rfl
  unfold nameB
  rw [hh]
  simp only [Option.any_some, h, decide_false, Bool.and_false, Bool.false_and]
theorem nameB_at {t : ByteArray} (k : Nat) (hk : k < t.size) (h : nmOk (t[k]'hk) = false) : nameB t = false := by
  have hk' : k < t.data.toList.length := by simpa using hk
  have : t.data.toList.all nmOk = false := by
    rw [← Bool.not_eq_true, List.all_eq_true]
    intro hall
    have h1 := hall (t.data.toList[k]) (List.getElem_mem hk')
    have e : t.data.toList[k] = t[k]'hk := rfl
    rw [e, h] at h1
    cases h1
  unfold nameB
  rw [this, Bool.and_false]
theorem nameB_yes {t : ByteArray} (h1 : 1 ≤ t.size ∧ t.size ≤ 12) (h0 : 0 < t.size) (h2 : 65 ≤ (t[0]'h0).toNat ∧ (t[0]'h0).toNat ≤ 90) (h3 : ∀ (j : Nat) (hj : j < t.size), nmOk (t[j]'hj) = true) : nameB t = true := by
  have hh : t.data.toList.head? = some (t[0]'h0) := by rw [List.head?_eq_getElem?, List.getElem?_eq_getElem (by simpa using h0)]; rfl
  have ha : t.data.toList.all nmOk = true := by
    rw [List.all_eq_true]
    intro x hx
    obtain ⟨j, hj, rfl⟩ := List.mem_iff_getElem.1 hx
    exact h3 j (by simpa using hj)
  unfold nameB
  rw [hh, ha]
  simp [h1, h2]
theorem nm_next {t : ByteArray} {k : Nat} {hlt : k < t.size} (h : ∀ (j : Nat) (hj : j < t.size), j < k → nmOk (t[j]'hj) = true) (hk : nmOk (t[k]'hlt) = true) : ∀ (j : Nat) (hj : j < t.size), j < k + 1 → nmOk (t[j]'hj) = true := by
  intro j hj hjk
  rcases Nat.lt_or_ge j k with g | g
  · exact h j hj g
  · obtain rfl : j = k := by omega
    exact hk
set_option maxHeartbeats 1000000 in
theorem isName_any (t : ByteArray) (w : World) : Calls Tryz.prog 63 #[.string t] w fun e w' => e = .returned (.bool (nameB t)) ∧ w' = w := by
  by_cases hs : 1 ≤ t.size ∧ t.size ≤ 12
  · have hs1 : (1 : Int) ≤ (t.size : Int) := by omega
    have hs2 : (t.size : Int) ≤ 12 := by omega
    have hs3 : decide ((t.size : Int) < 1) = false := by simp; omega
    have hs4 : decide ((12 : Int) < (t.size : Int)) = false := by simp; omega
    have h0 : 0 < t.size := by omega
    have h0' : (0 : Int) < (t.size : Int) := by omega
    have hx0 : 0 ≤ ((t[0]'h0).toNat : Int) := by omega
    have hx1 : ((t[0]'h0).toNat : Int) ≤ 255 := by have := (t[0]'h0).toNat_lt; omega
    by_cases hh : 65 ≤ (t[0]'h0).toNat ∧ (t[0]'h0).toNat ≤ 90
    · have d1 : decide (((t[0]'h0).toNat : Int) < 65) = false := by simp; omega
      have d2 : decide ((90 : Int) < ((t[0]'h0).toNat : Int)) = false := by simp; omega
      have HH : Hid ((1 ≤ t.size ∧ t.size ≤ 12) ∧ 65 ≤ (t[0]'h0).toNat ∧ (t[0]'h0).toNat ≤ 90) := ⟨hs, hh⟩
      clear hh hs
      go_enter Tryz.func63, Tryz.ntmps63
      go_wp2
      go_loopw [25] (fun i wr => ∃ k : Nat, i = .int .i64 (k : Int) ∧ k ≤ t.size ∧ (∀ (j : Nat) (hj : j < t.size), j < k → nmOk (t[j]'hj) = true) ∧ wr = w) (fun i _ => t.size - (intOf i).toNat)
      case atStart => exact ⟨0, rfl, by omega, fun j hj h => by omega, rfl⟩
      case round =>
        obtain ⟨k, rfl, hk, hA, rfl⟩ := hrel
        have HA : Hid (∀ (j : Nat) (hj : j < t.size), j < k → nmOk (t[j]'hj) = true) := hA
        clear hA
        by_cases hlt : k < t.size
        · have hlt' : (k : Int) < (t.size : Int) := by omega
          have hy0 : 0 ≤ ((t[k]'hlt).toNat : Int) := by omega
          have hy1 : ((t[k]'hlt).toNat : Int) ≤ 255 := by have := (t[k]'hlt).toNat_lt; omega
          clear d1 d2 hx0 hx1 hs3 hs4
          go_wp2
          all_goals first
            | (go_roundw; (case rel => exact ⟨k + 1, by go_num, by omega, nm_next HA.out (by simp [nmOk] at *; omega), trivial⟩); (case measure => simp [intOf]; omega))
            | (go_ret; exact ⟨ret_bool (nameB_at k hlt (by simp [nmOk] at *; omega)).symm, rfl⟩)
        · obtain rfl : k = t.size := by omega
          go_wp2
          go_ret
          exact ⟨ret_bool (nameB_yes HH.out.1 h0 HH.out.2 fun j hj => HA.out j hj hj).symm, rfl⟩
    · have HN : Hid (nameB t = false) := nameB_head h0 hh
      by_cases d1 : ((t[0]'h0).toNat : Int) < 65
      · have d1' : decide (((t[0]'h0).toNat : Int) < 65) = true := by simpa using d1
        go_enter Tryz.func63, Tryz.ntmps63
        go_wp2
        go_ret
        exact ⟨ret_bool HN.out.symm, rfl⟩
      · have d1' : decide (((t[0]'h0).toNat : Int) < 65) = false := by simpa using d1
        have d2 : decide ((90 : Int) < ((t[0]'h0).toNat : Int)) = true := by simp; omega
        go_enter Tryz.func63, Tryz.ntmps63
        go_wp2
        go_ret
        exact ⟨ret_bool HN.out.symm, rfl⟩
  · have HN : Hid (nameB t = false) := nameB_size hs
    by_cases h1 : t.size < 1
    · have h1' : (t.size : Int) < 1 := by omega
      go_enter Tryz.func63, Tryz.ntmps63
      go_wp2
      go_ret
      exact ⟨ret_bool HN.out.symm, rfl⟩
    · have h1' : (1 : Int) ≤ (t.size : Int) := by omega
      have h2' : (12 : Int) < (t.size : Int) := by omega
      go_enter Tryz.func63, Tryz.ntmps63
      go_wp2
      go_ret
      exact ⟨ret_bool HN.out.symm, rfl⟩
set_option maxHeartbeats 1000000 in
theorem l01Name_any (t : ByteArray) (w : World) : Calls Tryz.prog 44 #[.string t] w fun e w' => e = .returned (.bool (nameB t)) ∧ w' = w := by
  by_cases hs : 1 ≤ t.size ∧ t.size ≤ 12
  · have hs1 : (1 : Int) ≤ (t.size : Int) := by omega
    have hs2 : (t.size : Int) ≤ 12 := by omega
    have hs3 : decide ((t.size : Int) < 1) = false := by simp; omega
    have hs4 : decide ((12 : Int) < (t.size : Int)) = false := by simp; omega
    have h0 : 0 < t.size := by omega
    have h0' : (0 : Int) < (t.size : Int) := by omega
    have hx0 : 0 ≤ ((t[0]'h0).toNat : Int) := by omega
    have hx1 : ((t[0]'h0).toNat : Int) ≤ 255 := by have := (t[0]'h0).toNat_lt; omega
    by_cases hh : 65 ≤ (t[0]'h0).toNat ∧ (t[0]'h0).toNat ≤ 90
    · have d1 : decide (((t[0]'h0).toNat : Int) < 65) = false := by simp; omega
      have d2 : decide ((90 : Int) < ((t[0]'h0).toNat : Int)) = false := by simp; omega
      have HH : Hid ((1 ≤ t.size ∧ t.size ≤ 12) ∧ 65 ≤ (t[0]'h0).toNat ∧ (t[0]'h0).toNat ≤ 90) := ⟨hs, hh⟩
      clear hh hs
      go_enter Tryz.func44, Tryz.ntmps44
      go_wp2
      go_loopw [3] (fun i wr => ∃ k : Nat, i = .int .i64 (k : Int) ∧ k ≤ t.size ∧ (∀ (j : Nat) (hj : j < t.size), j < k → nmOk (t[j]'hj) = true) ∧ wr = w) (fun i _ => t.size - (intOf i).toNat)
      case atStart => exact ⟨0, rfl, by omega, fun j hj h => by omega, rfl⟩
      case round =>
        obtain ⟨k, rfl, hk, hA, rfl⟩ := hrel
        have HA : Hid (∀ (j : Nat) (hj : j < t.size), j < k → nmOk (t[j]'hj) = true) := hA
        clear hA
        by_cases hlt : k < t.size
        · have hlt' : (k : Int) < (t.size : Int) := by omega
          have hy0 : 0 ≤ ((t[k]'hlt).toNat : Int) := by omega
          have hy1 : ((t[k]'hlt).toNat : Int) ≤ 255 := by have := (t[k]'hlt).toNat_lt; omega
          clear d1 d2 hx0 hx1 hs3 hs4
          go_wp2
          all_goals first
            | (go_roundw; (case rel => exact ⟨k + 1, by go_num, by omega, nm_next HA.out (by simp [nmOk] at *; omega), trivial⟩); (case measure => simp [intOf]; omega))
            | (go_ret; exact ⟨ret_bool (nameB_at k hlt (by simp [nmOk] at *; omega)).symm, rfl⟩)
        · obtain rfl : k = t.size := by omega
          go_wp2
          go_ret
          exact ⟨ret_bool (nameB_yes HH.out.1 h0 HH.out.2 fun j hj => HA.out j hj hj).symm, rfl⟩
    · have HN : Hid (nameB t = false) := nameB_head h0 hh
      by_cases d1 : ((t[0]'h0).toNat : Int) < 65
      · have d1' : decide (((t[0]'h0).toNat : Int) < 65) = true := by simpa using d1
        go_enter Tryz.func44, Tryz.ntmps44
        go_wp2
        go_ret
        exact ⟨ret_bool HN.out.symm, rfl⟩
      · have d1' : decide (((t[0]'h0).toNat : Int) < 65) = false := by simpa using d1
        have d2 : decide ((90 : Int) < ((t[0]'h0).toNat : Int)) = true := by simp; omega
        go_enter Tryz.func44, Tryz.ntmps44
        go_wp2
        go_ret
        exact ⟨ret_bool HN.out.symm, rfl⟩
  · have HN : Hid (nameB t = false) := nameB_size hs
    by_cases h1 : t.size < 1
    · have h1' : (t.size : Int) < 1 := by omega
      go_enter Tryz.func44, Tryz.ntmps44
      go_wp2
      go_ret
      exact ⟨ret_bool HN.out.symm, rfl⟩
    · have h1' : (1 : Int) ≤ (t.size : Int) := by omega
      have h2' : (12 : Int) < (t.size : Int) := by omega
      go_enter Tryz.func44, Tryz.ntmps44
      go_wp2
      go_ret
      exact ⟨ret_bool HN.out.symm, rfl⟩
end Go.Proofs.YtamlhbjcokkmeaaGreatDoor
namespace Go.Proofs.YtamlhbjcokkmeaaGreatDoor
open Go.ChangeShapes Go.WideShapes Go.ChangeAt Go.RowKit
def ctlB (n : Int) : Bool := decide (1 ≤ n) && decide (n ≤ 999999)
theorem ctlB_iff {n : Int} : ctlB n = true ↔ 1 ≤ n ∧ n ≤ 999999 := by simp [ctlB]
theorem isControl_any (n : Int) (w : World) : Calls Tryz.prog 120 #[.int .i64 n] w fun e w' => e = .returned (.bool (ctlB n)) ∧ w' = w := by
  by_cases h1 : 1 ≤ n
  · by_cases h2 : n ≤ 999999
    · go_enter Tryz.func120, Tryz.ntmps120
      go_wp2
      go_ret
      exact ⟨ret_bool (by simp [ctlB, h1, h2]), rfl⟩
    · go_enter Tryz.func120, Tryz.ntmps120
      go_wp2
      go_ret
      exact ⟨ret_bool (by simp [ctlB, h1, h2]), rfl⟩
  · go_enter Tryz.func120, Tryz.ntmps120
    go_wp2
    go_ret
    exact ⟨ret_bool (by simp [ctlB]; omega), rfl⟩
theorem l01Control_any (n : Int) (w : World) : Calls Tryz.prog 96 #[.int .i64 n] w fun e w' => e = .returned (.bool (ctlB n)) ∧ w' = w := by
  by_cases h1 : 1 ≤ n
  · by_cases h2 : n ≤ 999999
    · go_enter Tryz.func96, Tryz.ntmps96
      go_wp2
      go_ret
      exact ⟨ret_bool (by simp [ctlB, h1, h2]), rfl⟩
    · go_enter Tryz.func96, Tryz.ntmps96
      go_wp2
      go_ret
      exact ⟨ret_bool (by simp [ctlB, h1, h2]), rfl⟩
  · go_enter Tryz.func96, Tryz.ntmps96
    go_wp2
    go_ret
    exact ⟨ret_bool (by simp [ctlB]; omega), rfl⟩
end Go.Proofs.YtamlhbjcokkmeaaGreatDoor
namespace Go.Proofs.YtamlhbjcokkmeaaGreatDoor
open Go.ChangeShapes Go.WideShapes Go.ChangeAt Go.RowKit
def codeB (c : Int) : Bool := decide (0 ≤ c) && decide (c ≤ 13)
/-- One that may stand there, its number at least so great. -/
def snB (low least : Int) (s : Sn) : Bool := decide (least ≤ s.number) && (decide (s.number < low + 32) && (decide (s.number ≤ 999999) && (ctlB s.answer && codeB s.code)))
def seenB (low : Int) : Int → List Sn → Bool
  | _, [] => true
  | least, s :: r => snB low least s && seenB low (s.number + 1) r
def ptnB (p : Ptn) : Bool := nameB p.name && (ctlB p.low && (ctlB p.next && seenB p.low p.low p.seen))
theorem seenB_len {low : Int} : ∀ {rs : List Sn} {least : Int}, seenB low least rs = true → least ≤ low + 32 → least + rs.length ≤ low + 32
  | [], least, _, h => by simpa using h
  | s :: r, least, h, _ => by
    simp only [seenB, snB, Bool.and_eq_true, decide_eq_true_eq] at h
    have := seenB_len h.2 (by omega)
    simp only [List.length_cons]
    omega
theorem drop_at {α : Type} {l : List α} {k : Nat} {x : α} (h : l[k]? = some x) : l.drop k = x :: l.drop (k + 1) := by
  obtain ⟨hk, rfl⟩ := List.getElem?_eq_some_iff.1 h
  exact List.drop_eq_getElem_cons hk
theorem seen_step {low z : Int} {rs : List Sn} {k : Nat} {g : Sn} (h : rs[k]? = some g) : seenB low z (rs.drop k) = (snB low z g && seenB low (g.number + 1) (rs.drop (k + 1))) := by
  rw [drop_at h]
  rfl
theorem seen_end {low z : Int} {rs : List Sn} : seenB low z (rs.drop rs.length) = true := by
  rw [List.drop_length]
  rfl
end Go.Proofs.YtamlhbjcokkmeaaGreatDoor
namespace Go.Proofs.YtamlhbjcokkmeaaGreatDoor
open Go.RowKit
open Go.Lib (compareBytes)
theorem u8_lt (a b : UInt8) : a < b ↔ a.toNat < b.toNat := UInt8.lt_iff_toNat_lt
theorem u8_eq (a b : UInt8) (h : a.toNat = b.toNat) : a = b := UInt8.toNat_inj.1 h
theorem cb_zero : ∀ a b : List UInt8, compareBytes a b = 0 ↔ a = b
  | [], [] => by simp [compareBytes]
  | [], _ :: _ => by simp [compareBytes]
  | _ :: _, [] => by simp [compareBytes]
  | a :: xs, b :: ys => by
    simp only [compareBytes, u8_lt]
    rcases Nat.lt_trichotomy a.toNat b.toNat with h | h | h
    · rw [if_pos h]
      have : a ≠ b := fun e => by rw [e] at h; omega
      simp [this]
    · have e := u8_eq a b h
      subst e
      rw [if_neg (by omega), if_neg (by omega), cb_zero xs ys]
      simp
    · rw [if_neg (by omega), if_pos h]
      have : a ≠ b := fun e => by rw [e] at h; omega
      simp [this]
theorem cb_pos : ∀ a b : List UInt8, 0 < compareBytes a b ↔ Op.bytesLess b a = true
  | [], [] => by simp [compareBytes, Op.bytesLess]
  | [], _ :: _ => by simp [compareBytes, Op.bytesLess]
  | _ :: _, [] => by simp [compareBytes, Op.bytesLess]
  | a :: xs, b :: ys => by
    simp only [compareBytes, Op.bytesLess, Bool.or_eq_true, Bool.and_eq_true, decide_eq_true_eq, beq_iff_eq, u8_lt]
    rcases Nat.lt_trichotomy a.toNat b.toNat with h | h | h
    · rw [if_pos h]
      have : b ≠ a := fun e => by rw [e] at h; omega
      simp [this]
      omega
    · have e := u8_eq a b h
      subst e
      rw [if_neg (by omega), if_neg (by omega), cb_pos xs ys]
      simp
    · rw [if_neg (by omega), if_pos h]
      simp [h]
theorem bl_trans : ∀ {a b c : List UInt8}, Op.bytesLess a b = true → Op.bytesLess b c = true → Op.bytesLess a c = true
  | _, [], _, h, _ => by simp [Op.bytesLess] at h
  | _, _ :: _, [], _, h => by simp [Op.bytesLess] at h
  | [], _ :: _, _ :: _, _, _ => rfl
  | a :: xs, b :: ys, c :: zs, h1, h2 => by
    simp only [Op.bytesLess, Bool.or_eq_true, Bool.and_eq_true, decide_eq_true_eq, beq_iff_eq, u8_lt] at h1 h2 ⊢
    rcases h1 with h1 | ⟨rfl, h1⟩ <;> rcases h2 with h2 | ⟨rfl, h2⟩
    · exact .inl (by omega)
    · exact .inl h1
    · exact .inl h2
    · exact .inr ⟨rfl, bl_trans h1 h2⟩
theorem bl_irrefl : ∀ a : List UInt8, Op.bytesLess a a = false
  | [] => rfl
  | a :: xs => by simp [Op.bytesLess, bl_irrefl xs]
theorem cb_neg : ∀ a b : List UInt8, compareBytes a b < 0 ↔ Op.bytesLess a b = true
  | [], [] => by simp [compareBytes, Op.bytesLess]
  | [], _ :: _ => by simp [compareBytes, Op.bytesLess]
  | _ :: _, [] => by simp [compareBytes, Op.bytesLess]
  | a :: xs, b :: ys => by
    simp only [compareBytes, Op.bytesLess, Bool.or_eq_true, Bool.and_eq_true, decide_eq_true_eq, beq_iff_eq, u8_lt]
    rcases Nat.lt_trichotomy a.toNat b.toNat with h | h | h
    · rw [if_pos h]
      simp [h]
    · have e := u8_eq a b h
      subst e
      rw [if_neg (by omega), if_neg (by omega), cb_neg xs ys]
      simp
    · rw [if_neg (by omega), if_pos h]
      have : a ≠ b := fun e => by rw [e] at h; omega
      simp [this]
      omega
theorem bl_asymm {a b : List UInt8} (h : Op.bytesLess a b = true) : Op.bytesLess b a = false := by
  cases e : Op.bytesLess b a with
  | false => rfl
  | true =>
    have := bl_trans h e
    rw [bl_irrefl] at this
    cases this
theorem bl_tri {a b : List UInt8} (h1 : Op.bytesLess a b = false) (h2 : Op.bytesLess b a = false) : a = b := by
  rw [← cb_zero]
  have h3 : ¬ compareBytes a b < 0 := fun g => by rw [cb_neg, h1] at g; cases g
  have h4 : ¬ 0 < compareBytes a b := fun g => by rw [cb_pos, h2] at g; cases g
  omega
end Go.Proofs.YtamlhbjcokkmeaaGreatDoor
