/- What the head of an interchange tells: a number told and read again, and the answer of HeadOf. -/
import Derived.Test.YthjddnhdfnhalaaDoorNumP
import Derived.Test.YthjddnhdfnhalaaDoorNum
import Derived.Test.YthjddnhdfnhalaaDoorIxQa
import Derived.Test.YthjddnhdfnhalaaDoorNameB
import Derived.Test.YthjddnhdfnhalaaDoorCtlB
import Derived.Test.YthjddnhdfnhalaaDoorPartS
namespace Go.Proofs.YthjddnhdfnhalaaDoor
open Go.ChangeShapes Go.WideShapes Go.ChangeAt Go.RowKit
theorem dgVal_dec (u : Nat) : dgVal 0 (Lib.decDigits u) = u := by
  induction u using Nat.strongRecOn with
  | _ u ih =>
    by_cases h : u < 10
    · rw [Lib.decDigits_one h, dgVal_cons, dgVal_nil]
      rw [UInt8.toNat_ofNat']
      omega
    · rw [Lib.decDigits, dif_neg h, dgVal_snoc, ih (u / 10) (by omega)]
      rw [UInt8.toNat_ofNat']
      omega
theorem numT_dec {n : Int} (h : 0 < n) : numT (Lib.itoa n) = some n := by
  obtain ⟨k, rfl⟩ := Int.eq_ofNat_of_zero_le (Int.le_of_lt h)
  rw [Lib.itoa_nonneg]
  have hp := dec_plain k
  obtain ⟨hne, hall, _⟩ := plainD_facts hp
  have hh : (Lib.decDigits k).head? ≠ some 45 := by
    intro e
    cases hd : Lib.decDigits k with
    | nil => exact hne hd
    | cons c r =>
      rw [hd] at e hall
      simp only [List.head?_cons, Option.some.injEq] at e
      subst e
      simp [dgOk] at hall
  unfold numT
  rw [if_neg hh, if_pos hp, dgVal_dec]
theorem numT_itoa {l : List UInt8} {n : Int} (h : numT l = some n) (h0 : 0 < n) : Lib.itoa n = l := by
  unfold numT at h
  by_cases hh : l.head? = some 45
  · rw [if_pos hh] at h
    split at h
    · simp only [Option.some.injEq] at h
      omega
    · cases h
  · rw [if_neg hh] at h
    by_cases hp : plainD l = true
    · rw [if_pos hp] at h
      simp only [Option.some.injEq] at h
      rw [← h, Lib.itoa_nonneg]
      exact plain_dec hp
    · rw [if_neg hp] at h; cases h
theorem decS_of {c : ByteArray} {n : Int} (h : numT c.data.toList = some n) (h0 : 0 < n) : decS n = c := by
  have := numT_itoa h h0
  unfold decS
  rw [this]
theorem numT_decS {n : Int} (h : 0 < n) : numT (decS n).data.toList = some n := numT_dec h
/-- What a head tells. -/
def hdT (tag : ByteArray) (es : List (List ByteArray)) : Option (ByteArray × ByteArray × Int) :=
  if tag = tIXH then match es with
    | [[a], [b], [c]] => match numIn c.data.toList 1 999999 with
      | some n => if nameB a && nameB b then some (a, b, n) else none
      | none => none
    | _ => none
  else none
theorem hdT_some {tag : ByteArray} {es : List (List ByteArray)} {a b : ByteArray} {n : Int} (h : hdT tag es = some (a, b, n)) : tag = tIXH ∧ 1 ≤ n ∧ n ≤ 999999 ∧ es = [[a], [b], [decS n]] ∧ nameB a = true ∧ nameB b = true ∧ numT (decS n).data.toList = some n := by
  unfold hdT at h
  by_cases ht : tag = tIXH
  · rw [if_pos ht] at h
    split at h
    · rename_i a' b' c'
      cases hn : numIn c'.data.toList 1 999999 with
      | none => rw [hn] at h; cases h
      | some m =>
        rw [hn] at h
        simp only [] at h
        split at h
        · rename_i hab
          simp only [Option.some.injEq, Prod.mk.injEq] at h
          obtain ⟨rfl, rfl, rfl⟩ := h
          unfold numIn at hn
          cases hm : numT c'.data.toList with
          | none => rw [hm] at hn; cases hn
          | some v =>
            rw [hm] at hn
            simp only [] at hn
            split at hn
            · rename_i hv
              simp only [Option.some.injEq] at hn
              subst hn
              have := decS_of hm (by omega)
              simp only [Bool.and_eq_true] at hab
              exact ⟨ht, hv.1, hv.2, by rw [this], hab.1, hab.2, by rw [this]; exact hm⟩
            · cases hn
        · cases h
    · cases h
  · rw [if_neg ht] at h; cases h
theorem hdT_of {es : List (List ByteArray)} {a b : ByteArray} {n : Int} (h1 : 1 ≤ n) (h2 : n ≤ 999999) (he : es = [[a], [b], [decS n]]) (ha : nameB a = true) (hb : nameB b = true) : hdT tIXH es = some (a, b, n) := by
  subst he
  have : numIn (decS n).data.toList 1 999999 = some n := by
    unfold numIn
    rw [numT_decS (by omega)]
    simp only []
    rw [if_pos ⟨h1, h2⟩]
  unfold hdT
  rw [if_pos rfl]
  simp only [this, ha, hb, Bool.and_self, if_true]
/-- The answer: names, number, whether there is a head, code. -/
def hdO : List Seg → ByteArray × ByteArray × Int × Bool × Int
  | [] => (⟨#[]⟩, ⟨#[]⟩, 0, false, 6)
  | (tag, es) :: r => if 400 < r.length + 1 then (⟨#[]⟩, ⟨#[]⟩, 0, false, 2) else match hdT tag es with
    | some (a, b, n) => (a, b, n, true, 0)
    | none => (⟨#[]⟩, ⟨#[]⟩, 0, false, 3)
/-- As the value that HeadOf hands back. -/
def hdV (o : ByteArray × ByteArray × Int × Bool × Int) : Value := .agg #[.string o.1, .string o.2.1, .int .i64 o.2.2.1, .slice none 0 0, .bool o.2.2.2.1, .int .i64 0, .int .i64 o.2.2.2.2]
end Go.Proofs.YthjddnhdfnhalaaDoor
