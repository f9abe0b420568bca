/- Contracts of the model's functions on numbers in texts: l01Dec tells a number of less than thirteen digits, l01Num reads one. -/
import Derived.Test.YtphgheojfnlgjaaDoorDecS
import Derived.Test.YtphgheojfnlgjaaDoorNum
namespace Go.Proofs.YtphgheojfnlgjaaDoor
open Go.ChangeShapes Go.WideShapes Go.ChangeAt Go.RowKit
theorem take_snoc (d : ByteArray) (k : Nat) (h : k < d.size) : dgVal 0 (d.data.toList.take (k + 1)) = dgVal 0 (d.data.toList.take k) * 10 + ((d[k]'h).toNat - 48) := by
  have hk : k < d.data.toList.length := by simpa using h
  rw [List.take_add_one, List.getElem?_eq_getElem hk]
  exact dgVal_snoc _ _ 0
theorem take_bd {d : ByteArray} {k : Nat} (h : ∀ (j : Nat) (hj : j < d.size), j < k → 48 ≤ (d[j]'hj).toNat ∧ (d[j]'hj).toNat ≤ 57) (hk : k ≤ d.size) (hs : d.size ≤ 12) : dgVal 0 (d.data.toList.take k) < 1000000000000 := by
  have ha : (d.data.toList.take k).all dgOk = true := by
    rw [List.all_eq_true]
    intro x hx
    obtain ⟨j, hj, rfl⟩ := List.mem_iff_getElem.1 hx
    simp only [List.length_take] at hj
    have := h j (by omega) (by omega)
    simp only [List.getElem_take, dgOk, decide_eq_true_eq]
    exact this
  have h1 := dgVal_lt _ ha 0
  have h2 : 10 ^ (d.data.toList.take k).length ≤ 10 ^ 12 := Nat.pow_le_pow_right (by omega) (by simp; omega)
  omega
def Sg (neg : Bool) (t d : ByteArray) : Prop := (t.data.toList = if neg then 45 :: d.data.toList else d.data.toList) ∧ (neg = false → t.data.toList.head? ≠ some 45)
/-- What the model's reading tells. -/
def L1Out (t : ByteArray) (w : World) (e : Ending) (w' : World) : Prop :=
  ∃ (n : Int) (b : Bool), e = .returned (.tuple #[.int .i64 n, .bool b]) ∧ ((b = true ∧ numT t.data.toList = some n) ∨ (b = false ∧ ∀ v : Int, numT t.data.toList = some v → v ≤ -1000000000000 ∨ 1000000000000 ≤ v)) ∧ Below w.heap.size w w'
theorem told_of {neg : Bool} {t d : ByteArray} (h : Sg neg t d) (ha : d.data.toList.all dgOk = true) (h1 : 0 < d.size) :
    (Lib.itoa (if neg then -(dgVal 0 d.data.toList : Int) else (dgVal 0 d.data.toList : Int)) = t.data.toList ↔ numT t.data.toList = some (if neg then -(dgVal 0 d.data.toList : Int) else (dgVal 0 d.data.toList : Int))) ∧ ∀ v : Int, numT t.data.toList = some v → v = if neg then -(dgVal 0 d.data.toList : Int) else (dgVal 0 d.data.toList : Int) := by
  refine ⟨numT_told h.1 h.2 ha fun e => ?_, fun v hv => num_val h.1 h.2 hv⟩
  have : d.data.toList.length = d.size := rfl
  rw [e] at this
  simp at this
  omega
theorem told_out {n : Int} {t : ByteArray} {w w1 : World} (h : (Lib.itoa n = t.data.toList ↔ numT t.data.toList = some n) ∧ ∀ v : Int, numT t.data.toList = some v → v = n) (hb : Below w.heap.size w w1) :
    L1Out t w (.returned (.tuple #[.int .i64 n, .bool ((strL (Lib.itoa n)).toList == t.toList)])) w1 := by
  refine ⟨n, _, rfl, ?_, hb⟩
  rw [Lib.toList_data, Lib.toList_data]
  show (((Lib.itoa n) == t.data.toList) = true ∧ _) ∨ (((Lib.itoa n) == t.data.toList) = false ∧ _)
  by_cases e : Lib.itoa n = t.data.toList
  · exact .inl ⟨by simpa using e, h.1.1 e⟩
  · refine .inr ⟨by simpa using e, fun v hv => ?_⟩
    have := h.2 v hv
    subst this
    exact absurd (h.1.2 hv) e
theorem sg_neg {t d : ByteArray} (h0 : 0 < t.size) (hz : (((t[0]'h0).toNat : Int) == 45) = true) (hd : t.extract 1 t.size = d) : Sg true t d := by
  refine ⟨?_, fun h => by cases h⟩
  have e : t[0]'h0 = 45 := by
    have : (t[0]'h0).toNat = 45 := by have := beq_iff_eq.1 hz; omega
    have e2 : UInt8.ofNat (t[0]'h0).toNat = UInt8.ofNat 45 := by rw [this]
    simpa using e2
  subst hd
  rw [Lib.extract_data]
  have hl : t.data.toList.length = t.size := rfl
  have hh := head_of h0
  cases hc : t.data.toList with
  | nil => rw [hc] at hl; simp at hl; omega
  | cons c r =>
    rw [hc] at hh hl
    simp only [List.head?_cons, Option.some.injEq] at hh
    rw [hh, e]
    simp only [List.length_cons] at hl
    simp only [if_true, List.drop_succ_cons, List.drop_zero]
    rw [List.take_of_length_le (by omega)]
theorem sg_pos {t : ByteArray} (h0 : 0 < t.size) (hz : (((t[0]'h0).toNat : Int) == 45) = false) : Sg false t t := by
  refine ⟨rfl, fun _ e => ?_⟩
  rw [head_of h0] at e
  simp only [Option.some.injEq] at e
  rw [e] at hz
  simp at hz
set_option maxHeartbeats 2000000 in
theorem l01Num_any (t : ByteArray) (w : World) (hts : t.size ≤ 281474976710656) : Calls Tryd.prog 34 #[.string t] w fun e w' => L1Out t w e w' := by
  go_enter Tryd.func34, Tryd.ntmps34
  by_cases h0 : 0 < t.size
  · have h0' : (0 : Int) < (t.size : Int) := by omega
    have h0'' : (1 : Int) ≤ (t.size : Int) := by omega
    have hx0 : 0 ≤ ((t[0]'h0).toNat : Int) := by omega
    have hx1 : ((t[0]'h0).toNat : Int) ≤ 255 := by have := (t[0]'h0).toNat_lt; omega
    by_cases hz : (((t[0]'h0).toNat : Int) == 45) = true
    · obtain ⟨d, hd⟩ : ∃ d, t.extract 1 t.size = d := ⟨_, rfl⟩
      have hSg : Sg true t d := sg_neg h0 hz hd
      have hdz : d.size ≤ 281474976710656 := by rw [← hd]; simp; omega
      have HT : Hid (Sg true t d) := hSg
      clear hSg
      have hds : d.size ≤ 281474976710656 := hdz
      by_cases hs1 : d.size < 1
      · have hs1' : (d.size : Int) < 1 := by omega
        have HN : Hid (∀ v : Int, numT t.data.toList = some v → v ≤ -1000000000000 ∨ 1000000000000 ≤ v) := fun v hv => by rw [num_none HT.out.1 HT.out.2 (.inr (List.eq_nil_of_length_eq_zero (show d.data.toList.length = 0 from by have : d.data.toList.length = d.size := rfl; omega)))] at hv; cases hv
        go_wp2
        go_ret2
        exact ⟨0, false, rfl, .inr ⟨rfl, HN.out⟩, Below.refl _ _⟩
      · have hs1' : (1 : Int) ≤ (d.size : Int) := by omega
        by_cases hs12 : 12 < d.size
        · have hs12' : (12 : Int) < (d.size : Int) := by omega
          have HN : Hid (∀ v : Int, numT t.data.toList = some v → v ≤ -1000000000000 ∨ 1000000000000 ≤ v) := fun v hv => num_big HT.out.1 HT.out.2 (show 12 < d.data.toList.length from hs12) hv
          go_wp2
          go_ret2
          exact ⟨0, false, rfl, .inr ⟨rfl, HN.out⟩, Below.refl _ _⟩
        · have hs12' : (d.size : Int) ≤ 12 := by omega
          go_wp2
          go_loopw [6, 7] (fun nv i wr => ∃ k : Nat, i = .int .i64 (k : Int) ∧ k ≤ d.size ∧ nv = .int .i64 ((dgVal 0 (d.data.toList.take k) : Nat) : Int) ∧ (∀ (j : Nat) (hj : j < d.size), j < k → 48 ≤ (d[j]'hj).toNat ∧ (d[j]'hj).toNat ≤ 57) ∧ wr = w) (fun _ i _ => d.size - (intOf i).toNat)
          case atStart => exact ⟨0, rfl, by omega, by simp [dgVal_nil], fun j hj h => by omega, rfl⟩
          case round =>
            obtain ⟨k, rfl, hk, rfl, hA, rfl⟩ := hrel
            have HA : Hid (∀ (j : Nat) (hj : j < d.size), j < k → 48 ≤ (d[j]'hj).toNat ∧ (d[j]'hj).toNat ≤ 57) := hA
            clear hA
            have hbd := take_bd HA.out hk (by omega)
            by_cases hlt : k < d.size
            · have hlt' : (k : Int) < (d.size : Int) := by omega
              have hy0 : 0 ≤ ((d[k]'hlt).toNat : Int) := by omega
              have hy1 : ((d[k]'hlt).toNat : Int) ≤ 255 := by have := (d[k]'hlt).toNat_lt; omega
              have HS : Hid (dgVal 0 (d.data.toList.take (k + 1)) = dgVal 0 (d.data.toList.take k) * 10 + ((d[k]'hlt).toNat - 48)) := take_snoc d k hlt
              generalize dgVal 0 (d.data.toList.take k) = m at HS hbd
              have hbd' : (m : Int) < 1000000000000 := by omega
              by_cases hlo : ((d[k]'hlt).toNat : Int) < 48
              · have d1 : decide (((d[k]'hlt).toNat : Int) < 48) = true := by simpa using hlo
                have HN : Hid (∀ v : Int, numT t.data.toList = some v → v ≤ -1000000000000 ∨ 1000000000000 ≤ v) := fun v hv => by rw [num_none HT.out.1 HT.out.2 (.inl (all_dg_no k hlt (.inl hlo)))] at hv; cases hv
                go_wp2
                go_ret2
                exact ⟨0, false, rfl, .inr ⟨rfl, HN.out⟩, Below.refl _ _⟩
              · have d1 : decide (((d[k]'hlt).toNat : Int) < 48) = false := by simpa using hlo
                have hlo' : (48 : Int) ≤ ((d[k]'hlt).toNat : Int) := by omega
                by_cases hhi : 57 < ((d[k]'hlt).toNat : Int)
                · have d2 : decide (57 < ((d[k]'hlt).toNat : Int)) = true := by simpa using hhi
                  have HN : Hid (∀ v : Int, numT t.data.toList = some v → v ≤ -1000000000000 ∨ 1000000000000 ≤ v) := fun v hv => by rw [num_none HT.out.1 HT.out.2 (.inl (all_dg_no k hlt (.inr hhi)))] at hv; cases hv
                  go_wp2
                  go_ret2
                  exact ⟨0, false, rfl, .inr ⟨rfl, HN.out⟩, Below.refl _ _⟩
                · have d2 : decide (57 < ((d[k]'hlt).toNat : Int)) = false := by simpa using hhi
                  have hhi' : ((d[k]'hlt).toNat : Int) ≤ 57 := by omega
                  go_wp2
                  go_roundw
                  case rel =>
                    refine ⟨k + 1, by go_num, by omega, ?_, fun j hj h => ?_, trivial⟩
                    · rw [HS.out]
                      congr 1
                      omega
                    · rcases Nat.lt_or_ge j k with g | g
                      · exact HA.out j hj g
                      · obtain rfl : j = k := by omega
                        omega
                  case measure => simp [intOf]; omega
            · obtain rfl : k = d.size := by omega
              have htk : d.data.toList.take d.size = d.data.toList := List.take_length
              have HTo := told_of HT.out (all_dg fun j hj => HA.out j hj hj) (by omega)
              rw [htk] at hbd ⊢
              clear htk
              generalize dgVal 0 d.data.toList = m at *
              have HT2 : Hid ((Lib.itoa (-(m : Int)) = t.data.toList ↔ numT t.data.toList = some (-(m : Int))) ∧ ∀ v : Int, numT t.data.toList = some v → v = -(m : Int)) := HTo
              clear HTo
              have hbd' : (m : Int) < 1000000000000 := by omega
              go_wp2_with (go_at_call 30; refine (l01Dec_any _ _ (by omega) (by omega)).mono ?_; rintro e w1 ⟨rfl, hb⟩; try dsimp only)
              go_ret2
              exact told_out HT2.out hb
    · have hz' : (((t[0]'h0).toNat : Int) == 45) = false := by simpa using hz
      clear hz
      have hSg : Sg false t t := sg_pos h0 hz'
      have hdz : t.size ≤ 281474976710656 := hts
      clear hts
      have HT : Hid (Sg false t t) := hSg
      clear hSg
      have hds : t.size ≤ 281474976710656 := hdz
      by_cases hs1 : t.size < 1
      · have hs1' : (t.size : Int) < 1 := by omega
        have HN : Hid (∀ v : Int, numT t.data.toList = some v → v ≤ -1000000000000 ∨ 1000000000000 ≤ v) := fun v hv => by rw [num_none HT.out.1 HT.out.2 (.inr (List.eq_nil_of_length_eq_zero (show t.data.toList.length = 0 from by have : t.data.toList.length = t.size := rfl; omega)))] at hv; cases hv
        go_wp2
        go_ret2
        exact ⟨0, false, rfl, .inr ⟨rfl, HN.out⟩, Below.refl _ _⟩
      · have hs1' : (1 : Int) ≤ (t.size : Int) := by omega
        by_cases hs12 : 12 < t.size
        · have hs12' : (12 : Int) < (t.size : Int) := by omega
          have HN : Hid (∀ v : Int, numT t.data.toList = some v → v ≤ -1000000000000 ∨ 1000000000000 ≤ v) := fun v hv => num_big HT.out.1 HT.out.2 (show 12 < t.data.toList.length from hs12) hv
          go_wp2
          go_ret2
          exact ⟨0, false, rfl, .inr ⟨rfl, HN.out⟩, Below.refl _ _⟩
        · have hs12' : (t.size : Int) ≤ 12 := by omega
          go_wp2
          go_loopw [6, 7] (fun nv i wr => ∃ k : Nat, i = .int .i64 (k : Int) ∧ k ≤ t.size ∧ nv = .int .i64 ((dgVal 0 (t.data.toList.take k) : Nat) : Int) ∧ (∀ (j : Nat) (hj : j < t.size), j < k → 48 ≤ (t[j]'hj).toNat ∧ (t[j]'hj).toNat ≤ 57) ∧ wr = w) (fun _ i _ => t.size - (intOf i).toNat)
          case atStart => exact ⟨0, rfl, by omega, by simp [dgVal_nil], fun j hj h => by omega, rfl⟩
          case round =>
            obtain ⟨k, rfl, hk, rfl, hA, rfl⟩ := hrel
            have HA : Hid (∀ (j : Nat) (hj : j < t.size), j < k → 48 ≤ (t[j]'hj).toNat ∧ (t[j]'hj).toNat ≤ 57) := hA
            clear hA
            have hbd := take_bd HA.out hk (by omega)
            by_cases hlt : k < t.size
            · have hlt' : (k : Int) < (t.size : Int) := by omega
              have hy0 : 0 ≤ ((t[k]'hlt).toNat : Int) := by omega
              have hy1 : ((t[k]'hlt).toNat : Int) ≤ 255 := by have := (t[k]'hlt).toNat_lt; omega
              have HS : Hid (dgVal 0 (t.data.toList.take (k + 1)) = dgVal 0 (t.data.toList.take k) * 10 + ((t[k]'hlt).toNat - 48)) := take_snoc t k hlt
              generalize dgVal 0 (t.data.toList.take k) = m at HS hbd
              have hbd' : (m : Int) < 1000000000000 := by omega
              by_cases hlo : ((t[k]'hlt).toNat : Int) < 48
              · have d1 : decide (((t[k]'hlt).toNat : Int) < 48) = true := by simpa using hlo
                have HN : Hid (∀ v : Int, numT t.data.toList = some v → v ≤ -1000000000000 ∨ 1000000000000 ≤ v) := fun v hv => by rw [num_none HT.out.1 HT.out.2 (.inl (all_dg_no k hlt (.inl hlo)))] at hv; cases hv
                go_wp2
                go_ret2
                exact ⟨0, false, rfl, .inr ⟨rfl, HN.out⟩, Below.refl _ _⟩
              · have d1 : decide (((t[k]'hlt).toNat : Int) < 48) = false := by simpa using hlo
                have hlo' : (48 : Int) ≤ ((t[k]'hlt).toNat : Int) := by omega
                by_cases hhi : 57 < ((t[k]'hlt).toNat : Int)
                · have d2 : decide (57 < ((t[k]'hlt).toNat : Int)) = true := by simpa using hhi
                  have HN : Hid (∀ v : Int, numT t.data.toList = some v → v ≤ -1000000000000 ∨ 1000000000000 ≤ v) := fun v hv => by rw [num_none HT.out.1 HT.out.2 (.inl (all_dg_no k hlt (.inr hhi)))] at hv; cases hv
                  go_wp2
                  go_ret2
                  exact ⟨0, false, rfl, .inr ⟨rfl, HN.out⟩, Below.refl _ _⟩
                · have d2 : decide (57 < ((t[k]'hlt).toNat : Int)) = false := by simpa using hhi
                  have hhi' : ((t[k]'hlt).toNat : Int) ≤ 57 := by omega
                  go_wp2
                  go_roundw
                  case rel =>
                    refine ⟨k + 1, by go_num, by omega, ?_, fun j hj h => ?_, trivial⟩
                    · rw [HS.out]
                      congr 1
                      omega
                    · rcases Nat.lt_or_ge j k with g | g
                      · exact HA.out j hj g
                      · obtain rfl : j = k := by omega
                        omega
                  case measure => simp [intOf]; omega
            · obtain rfl : k = t.size := by omega
              have htk : t.data.toList.take t.size = t.data.toList := List.take_length
              have HTo := told_of HT.out (all_dg fun j hj => HA.out j hj hj) (by omega)
              rw [htk] at hbd ⊢
              clear htk
              generalize dgVal 0 t.data.toList = m at *
              have HT2 : Hid ((Lib.itoa ((m : Int)) = t.data.toList ↔ numT t.data.toList = some ((m : Int))) ∧ ∀ v : Int, numT t.data.toList = some v → v = (m : Int)) := HTo
              clear HTo
              have hbd' : (m : Int) < 1000000000000 := by omega
              go_wp2_with (go_at_call 30; refine (l01Dec_any _ _ (by omega) (by omega)).mono ?_; rintro e w1 ⟨rfl, hb⟩; try dsimp only)
              go_ret2
              exact told_out HT2.out hb
  · have h0' : ¬ (0 : Int) < (t.size : Int) := by omega
    have hs1' : (t.size : Int) < 1 := by omega
    have HN : Hid (∀ v : Int, numT t.data.toList = some v → v ≤ -1000000000000 ∨ 1000000000000 ≤ v) := fun v hv => by
      have e : t.data.toList = [] := List.eq_nil_of_length_eq_zero (show t.data.toList.length = 0 from by have : t.data.toList.length = t.size := rfl; omega)
      rw [e] at hv
      cases hv
    go_wp2
    go_ret2
    exact ⟨0, false, rfl, .inr ⟨rfl, HN.out⟩, Below.refl _ _⟩
end Go.Proofs.YtphgheojfnlgjaaDoor
