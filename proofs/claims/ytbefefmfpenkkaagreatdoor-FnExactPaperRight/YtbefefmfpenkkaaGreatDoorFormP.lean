/- Plain lemmas on forms: the letters of a form and how many are needed, told by cutting at the mark and by going through; which element is the first that is none. -/
import Derived.Test.YtbefefmfpenkkaaGreatDoorRet
import Derived.Test.YtbefefmfpenkkaaGreatDoorKeep
import Derived.Test.YtbefefmfpenkkaaGreatDoorNum
import Derived.Test.YtbefefmfpenkkaaGreatDoorNumS
import Derived.Test.YtbefefmfpenkkaaGreatDoorPartB
import Derived.Lib.Bytealg
import Derived.Lib.SlTrimSet
namespace Go.Proofs.YtbefefmfpenkkaaGreatDoor
open Go.ChangeShapes Go.WideShapes Go.ChangeAt Go.RowKit
def nmOk (c : UInt8) : Bool := decide (c.toNat = 45 ∨ (48 ≤ c.toNat ∧ c.toNat ≤ 57) ∨ (65 ≤ c.toNat ∧ c.toNat ≤ 90))
def nameB (t : ByteArray) : Bool := decide (1 ≤ t.size ∧ t.size ≤ 12) && (t.data.toList.head?.any fun c => decide (65 ≤ c.toNat ∧ c.toNat ≤ 90)) && t.data.toList.all nmOk
theorem nameB_size {t : ByteArray} (h : ¬ (1 ≤ t.size ∧ t.size ≤ 12)) : nameB t = false := by simp [nameB, h]
theorem nameB_head {t : ByteArray} (h0 : 0 < t.size) (h : ¬ (65 ≤ (t[0]'h0).toNat ∧ (t[0]'h0).toNat ≤ 90)) : nameB t = false := by
  have hh : t.data.toList.head? = some (t[0]'h0) := by rw [List.head?_eq_getElem?, List.getElem?_eq_getElem (by simpa using h0)]; rfl
  unfold nameB
  rw [hh]
  simp only [Option.any_some, h, decide_false, Bool.and_false, Bool.false_and]
theorem nameB_at {t : ByteArray} (k : Nat) (hk : k < t.size) (h : nmOk (t[k]'hk) = false) : nameB t = false := by
  have hk' : k < t.data.toList.length := by simpa using hk
  have : t.data.toList.all nmOk = false := by
    rw [← Bool.not_eq_true, List.all_eq_true]
    intro hall
    have h1 := hall (t.data.toList[k]) (List.getElem_mem hk')
    have e : t.data.toList[k] = t[k]'hk := rfl
    rw [e, h] at h1
    cases h1
  unfold nameB
  rw [this, Bool.and_false]
theorem nameB_yes {t : ByteArray} (h1 : 1 ≤ t.size ∧ t.size ≤ 12) (h0 : 0 < t.size) (h2 : 65 ≤ (t[0]'h0).toNat ∧ (t[0]'h0).toNat ≤ 90) (h3 : ∀ (j : Nat) (hj : j < t.size), nmOk (t[j]'hj) = true) : nameB t = true := by
  have hh : t.data.toList.head? = some (t[0]'h0) := by rw [List.head?_eq_getElem?, List.getElem?_eq_getElem (by simpa using h0)]; rfl
  have ha : t.data.toList.all nmOk = true := by
    rw [List.all_eq_true]
    intro x hx
    obtain ⟨j, hj, rfl⟩ := List.mem_iff_getElem.1 hx
    exact h3 j (by simpa using hj)
  unfold nameB
  rw [hh, ha]
  simp [h1, h2]
theorem nm_next {t : ByteArray} {k : Nat} {hlt : k < t.size} (h : ∀ (j : Nat) (hj : j < t.size), j < k → nmOk (t[j]'hj) = true) (hk : nmOk (t[k]'hlt) = true) : ∀ (j : Nat) (hj : j < t.size), j < k + 1 → nmOk (t[j]'hj) = true := by
  intro j hj hjk
  rcases Nat.lt_or_ge j k with g | g
  · exact h j hj g
  · obtain rfl : j = k := by omega
    exact hk
set_option maxHeartbeats 1000000 in
theorem isName_any (t : ByteArray) (w : World) : Calls Tryz.prog 117 #[.string t] w fun e w' => e = .returned (.bool (nameB t)) ∧ w' = w := by
  by_cases hs : 1 ≤ t.size ∧ t.size ≤ 12
  · have hs1 : (1 : Int) ≤ (t.size : Int) := by omega
    have hs2 : (t.size : Int) ≤ 12 := by omega
    have hs3 : decide ((t.size : Int) < 1) = false := by simp; omega
    have hs4 : decide ((12 : Int) < (t.size : Int)) = false := by simp; omega
    have h0 : 0 < t.size := by omega
    have h0' : (0 : Int) < (t.size : Int) := by omega
    have hx0 : 0 ≤ ((t[0]'h0).toNat : Int) := by omega
    have hx1 : ((t[0]'h0).toNat : Int) ≤ 255 := by have := (t[0]'h0).toNat_lt; omega
    by_cases hh : 65 ≤ (t[0]'h0).toNat ∧ (t[0]'h0).toNat ≤ 90
    · have d1 : decide (((t[0]'h0).toNat : Int) < 65) = false := by simp; omega
      have d2 : decide ((90 : Int) < ((t[0]'h0).toNat : Int)) = false := by simp; omega
      have HH : Hid ((1 ≤ t.size ∧ t.size ≤ 12) ∧ 65 ≤ (t[0]'h0).toNat ∧ (t[0]'h0).toNat ≤ 90) := ⟨hs, hh⟩
      clear hh hs
      go_enter Tryz.func117, Tryz.ntmps117
      go_wp2
      go_loopw [25] (fun i wr => ∃ k : Nat, i = .int .i64 (k : Int) ∧ k ≤ t.size ∧ (∀ (j : Nat) (hj : j < t.size), j < k → nmOk (t[j]'hj) = true) ∧ wr = w) (fun i _ => t.size - (intOf i).toNat)
      case atStart => exact ⟨0, rfl, by omega, fun j hj h => by omega, rfl⟩
      case round =>
        obtain ⟨k, rfl, hk, hA, rfl⟩ := hrel
        have HA : Hid (∀ (j : Nat) (hj : j < t.size), j < k → nmOk (t[j]'hj) = true) := hA
        clear hA
        by_cases hlt : k < t.size
        · have hlt' : (k : Int) < (t.size : Int) := by omega
          have hy0 : 0 ≤ ((t[k]'hlt).toNat : Int) := by omega
          have hy1 : ((t[k]'hlt).toNat : Int) ≤ 255 := by have := (t[k]'hlt).toNat_lt; omega
          clear d1 d2 hx0 hx1 hs3 hs4
          go_wp2
          all_goals first
            | (go_roundw; (case rel => exact ⟨k + 1, by go_num, by omega, nm_next HA.out (by simp [nmOk] at *; omega), trivial⟩); (case measure => simp [intOf]; omega))
            | (go_ret; exact ⟨ret_bool (nameB_at k hlt (by simp [nmOk] at *; omega)).symm, rfl⟩)
        · obtain rfl : k = t.size := by omega
          go_wp2
          go_ret
          exact ⟨ret_bool (nameB_yes HH.out.1 h0 HH.out.2 fun j hj => HA.out j hj hj).symm, rfl⟩
    · have HN : Hid (nameB t = false) := nameB_head h0 hh
      by_cases d1 : ((t[0]'h0).toNat : Int) < 65
      · have d1' : decide (((t[0]'h0).toNat : Int) < 65) = true := by simpa using d1
        go_enter Tryz.func117, Tryz.ntmps117
        go_wp2
        go_ret
        exact ⟨ret_bool HN.out.symm, rfl⟩
      · have d1' : decide (((t[0]'h0).toNat : Int) < 65) = false := by simpa using d1
        have d2 : decide ((90 : Int) < ((t[0]'h0).toNat : Int)) = true := by simp; omega
        go_enter Tryz.func117, Tryz.ntmps117
        go_wp2
        go_ret
        exact ⟨ret_bool HN.out.symm, rfl⟩
  · have HN : Hid (nameB t = false) := nameB_size hs
    by_cases h1 : t.size < 1
    · have h1' : (t.size : Int) < 1 := by omega
      go_enter Tryz.func117, Tryz.ntmps117
      go_wp2
      go_ret
      exact ⟨ret_bool HN.out.symm, rfl⟩
    · have h1' : (1 : Int) ≤ (t.size : Int) := by omega
      have h2' : (12 : Int) < (t.size : Int) := by omega
      go_enter Tryz.func117, Tryz.ntmps117
      go_wp2
      go_ret
      exact ⟨ret_bool HN.out.symm, rfl⟩
set_option maxHeartbeats 1000000 in
theorem l01Name_any (t : ByteArray) (w : World) : Calls Tryz.prog 89 #[.string t] w fun e w' => e = .returned (.bool (nameB t)) ∧ w' = w := by
  by_cases hs : 1 ≤ t.size ∧ t.size ≤ 12
  · have hs1 : (1 : Int) ≤ (t.size : Int) := by omega
    have hs2 : (t.size : Int) ≤ 12 := by omega
    have hs3 : decide ((t.size : Int) < 1) = false := by simp; omega
    have hs4 : decide ((12 : Int) < (t.size : Int)) = false := by simp; omega
    have h0 : 0 < t.size := by omega
    have h0' : (0 : Int) < (t.size : Int) := by omega
    have hx0 : 0 ≤ ((t[0]'h0).toNat : Int) := by omega
    have hx1 : ((t[0]'h0).toNat : Int) ≤ 255 := by have := (t[0]'h0).toNat_lt; omega
    by_cases hh : 65 ≤ (t[0]'h0).toNat ∧ (t[0]'h0).toNat ≤ 90
    · have d1 : decide (((t[0]'h0).toNat : Int) < 65) = false := by simp; omega
      have d2 : decide ((90 : Int) < ((t[0]'h0).toNat : Int)) = false := by simp; omega
      have HH : Hid ((1 ≤ t.size ∧ t.size ≤ 12) ∧ 65 ≤ (t[0]'h0).toNat ∧ (t[0]'h0).toNat ≤ 90) := ⟨hs, hh⟩
      clear hh hs
      go_enter Tryz.func89, Tryz.ntmps89
      go_wp2
      go_loopw [3] (fun i wr => ∃ k : Nat, i = .int .i64 (k : Int) ∧ k ≤ t.size ∧ (∀ (j : Nat) (hj : j < t.size), j < k → nmOk (t[j]'hj) = true) ∧ wr = w) (fun i _ => t.size - (intOf i).toNat)
      case atStart => exact ⟨0, rfl, by omega, fun j hj h => by omega, rfl⟩
      case round =>
        obtain ⟨k, rfl, hk, hA, rfl⟩ := hrel
        have HA : Hid (∀ (j : Nat) (hj : j < t.size), j < k → nmOk (t[j]'hj) = true) := hA
        clear hA
        by_cases hlt : k < t.size
        · have hlt' : (k : Int) < (t.size : Int) := by omega
          have hy0 : 0 ≤ ((t[k]'hlt).toNat : Int) := by omega
          have hy1 : ((t[k]'hlt).toNat : Int) ≤ 255 := by have := (t[k]'hlt).toNat_lt; omega
          clear d1 d2 hx0 hx1 hs3 hs4
          go_wp2
          all_goals first
            | (go_roundw; (case rel => exact ⟨k + 1, by go_num, by omega, nm_next HA.out (by simp [nmOk] at *; omega), trivial⟩); (case measure => simp [intOf]; omega))
            | (go_ret; exact ⟨ret_bool (nameB_at k hlt (by simp [nmOk] at *; omega)).symm, rfl⟩)
        · obtain rfl : k = t.size := by omega
          go_wp2
          go_ret
          exact ⟨ret_bool (nameB_yes HH.out.1 h0 HH.out.2 fun j hj => HA.out j hj hj).symm, rfl⟩
    · have HN : Hid (nameB t = false) := nameB_head h0 hh
      by_cases d1 : ((t[0]'h0).toNat : Int) < 65
      · have d1' : decide (((t[0]'h0).toNat : Int) < 65) = true := by simpa using d1
        go_enter Tryz.func89, Tryz.ntmps89
        go_wp2
        go_ret
        exact ⟨ret_bool HN.out.symm, rfl⟩
      · have d1' : decide (((t[0]'h0).toNat : Int) < 65) = false := by simpa using d1
        have d2 : decide ((90 : Int) < ((t[0]'h0).toNat : Int)) = true := by simp; omega
        go_enter Tryz.func89, Tryz.ntmps89
        go_wp2
        go_ret
        exact ⟨ret_bool HN.out.symm, rfl⟩
  · have HN : Hid (nameB t = false) := nameB_size hs
    by_cases h1 : t.size < 1
    · have h1' : (t.size : Int) < 1 := by omega
      go_enter Tryz.func89, Tryz.ntmps89
      go_wp2
      go_ret
      exact ⟨ret_bool HN.out.symm, rfl⟩
    · have h1' : (1 : Int) ≤ (t.size : Int) := by omega
      have h2' : (12 : Int) < (t.size : Int) := by omega
      go_enter Tryz.func89, Tryz.ntmps89
      go_wp2
      go_ret
      exact ⟨ret_bool HN.out.symm, rfl⟩
end Go.Proofs.YtbefefmfpenkkaaGreatDoor
namespace Go.Proofs.YtbefefmfpenkkaaGreatDoor
open Go.ChangeShapes Go.WideShapes Go.ChangeAt Go.RowKit
def inB (l : List UInt8) (lo hi : Int) : Bool := match numT l with
  | some v => decide (lo ≤ v ∧ v ≤ hi)
  | none => false
def zB (l : List UInt8) : Bool := match numT l with
  | some v => decide (-1000000 ≤ v ∧ v ≤ 1000000 ∧ v ≠ 0)
  | none => false
theorem numIn_inB (l : List UInt8) (lo hi : Int) : (numIn l lo hi).isSome = inB l lo hi := by
  unfold numIn inB
  cases numT l with
  | none => rfl
  | some v =>
    simp only
    by_cases h : lo ≤ v ∧ v ≤ hi
    · rw [if_pos h]; simp [h]
    · rw [if_neg h]; simp [h]
theorem nwV_snd (l : List UInt8) (lo hi : Int) : ∃ n, nwV l lo hi = .tuple #[.int .i64 n, .bool (inB l lo hi)] := by
  rw [← numIn_inB]
  unfold nwV
  cases numIn l lo hi with
  | none => exact ⟨0, rfl⟩
  | some v => exact ⟨v, rfl⟩
theorem plain_pos {l : List UInt8} (h : plainD l = true) (h0 : l.head? ≠ some 48) : 1 ≤ dgVal 0 l := by
  obtain ⟨hne, hall, _⟩ := plainD_facts h
  cases l with
  | nil => exact absurd rfl hne
  | cons x r =>
    have hx := hall
    simp only [List.all_cons, Bool.and_eq_true, dgOk, decide_eq_true_eq] at hx
    have hx1 : x.toNat ≠ 48 := by
      intro e
      apply h0
      simp only [List.head?_cons, Option.some.injEq]
      have : UInt8.ofNat x.toNat = UInt8.ofNat 48 := by rw [e]
      simpa using this
    have := dgVal_le r (0 * 10 + (x.toNat - 48))
    rw [dgVal_cons]
    omega
theorem plain_45 {l : List UInt8} (h : plainD l = true) : l.head? ≠ some 45 := by
  obtain ⟨hne, hall, _⟩ := plainD_facts h
  cases l with
  | nil => exact absurd rfl hne
  | cons x r =>
    have hx := hall
    simp only [List.all_cons, Bool.and_eq_true, dgOk, decide_eq_true_eq] at hx
    simp only [List.head?_cons, ne_eq, Option.some.injEq]
    intro e
    subst e
    have e45 : (45 : UInt8).toNat = 45 := rfl
    rw [e45] at hx
    omega
theorem z_eq (l : List UInt8) : inB (Lib.trimPrefix l [45]) 1 1000000 = zB l := by
  rw [trim45]
  split
  · rename_i h45
    cases l with
    | nil => simp at h45
    | cons c r =>
      simp only [List.head?_cons, Option.some.injEq] at h45
      subst h45
      simp only [List.tail_cons]
      have hN : numT (45 :: r) = if plainD r && (r.head? != some 48) then some (-(dgVal 0 r : Int)) else none := rfl
      unfold zB
      rw [hN]
      by_cases hp : (plainD r && (r.head? != some 48)) = true
      · rw [if_pos hp]
        simp only [Bool.and_eq_true, bne_iff_ne] at hp
        have h1 := plain_pos hp.1 hp.2
        have hR : numT r = some (dgVal 0 r : Int) := by
          unfold numT
          rw [if_neg (plain_45 hp.1), if_pos hp.1]
        unfold inB
        rw [hR]
        simp only
        rw [Bool.eq_iff_iff, decide_eq_true_eq, decide_eq_true_eq]
        omega
      · rw [if_neg hp]
        unfold inB
        cases hR : numT r with
        | none => rfl
        | some v =>
          simp only [decide_eq_false_iff_not]
          rintro ⟨h1, h2⟩
          unfold numT at hR
          split at hR
          · split at hR
            · cases hR; omega
            · cases hR
          · split at hR
            · rename_i hpl
              cases hR
              apply hp
              simp only [Bool.and_eq_true, bne_iff_ne]
              refine ⟨hpl, fun e => ?_⟩
              have hl := (plainD_facts hpl).2.2 e
              cases r with
              | nil => simp at e
              | cons x q =>
                simp only [List.length_cons] at hl
                have hq : q = [] := List.eq_nil_of_length_eq_zero (by omega)
                subst hq
                simp only [List.head?_cons, Option.some.injEq] at e
                subst e
                rw [dgVal_cons, dgVal_nil] at h1
                simp at h1
            · cases hR
  · rename_i h45
    unfold inB zB
    cases hR : numT l with
    | none => rfl
    | some v =>
      have h0 : 0 ≤ v := by
        unfold numT at hR
        rw [if_neg h45] at hR
        split at hR
        · cases hR; omega
        · cases hR
      simp only
      rw [Bool.eq_iff_iff, decide_eq_true_eq, decide_eq_true_eq]
      omega
def emptyB (t : ByteArray) : Bool := t.toList.isEmpty
/-- Is the text what the letter asks for? -/
def wordB (c : Int) (t : ByteArray) : Bool :=
  if c = 114 then nameB t else if c = 116 then !emptyB t && partB t else if c = 100 then inB t.data.toList 0 100000
  else if c = 122 then zB t.data.toList else if c = 113 then inB t.data.toList 1 1000000 else inB t.data.toList 0 1000000000
def letterB (c : Int) : Bool := decide (c = 114 ∨ c = 116 ∨ c = 100 ∨ c = 122 ∨ c = 113 ∨ c = 110)
def elemB (c : Int) (ss : List ByteArray) : Bool := decide (ss.length = 1) && wordB c (ss[0]?.getD ⟨#[]⟩)
set_option maxHeartbeats 1000000 in
theorem isDay_any (t : ByteArray) (w : World) (hs : t.size ≤ 281474976710656) (hE : ErrsAt w) : Calls Tryz.prog 119 #[.string t] w fun e w' => e = .returned (.bool (inB t.data.toList 0 100000)) ∧ Below w.heap.size w w' := by
  obtain ⟨n, hn⟩ := nwV_snd t.data.toList 0 100000
  go_enter Tryz.func119, Tryz.ntmps119
  go_wp2_with fail
  refine (numberWithin_any t 0 100000 w hs (by omega) (by omega) hE).mono ?_
  rintro e w1 ⟨rfl, hb⟩
  rw [hn]
  go_wp2
  go_ret
  exact ⟨rfl, hb⟩
set_option maxHeartbeats 2000000 in
theorem wordIsOf_any (c : Int) (t : ByteArray) (w : World) (hc : letterB c = true) (hs : t.size ≤ 281474976710656) (hE : ErrsAt w) :
    Calls Tryz.prog 101 #[.int .u8 c, .string t] w fun e w' => e = .returned (.bool (wordB c t)) ∧ Below w.heap.size w w' := by
  simp only [letterB, decide_eq_true_eq] at hc
  rcases hc with rfl | rfl | rfl | rfl | rfl | rfl
  · go_enter Tryz.func101, Tryz.ntmps101
    go_wp2_with (go_at_call 117; refine (isName_any _ _).mono ?_; rintro e w1 ⟨rfl, rfl⟩; try dsimp only)
    go_ret
    exact ⟨ret_bool (by simp [wordB]), Below.refl _ _⟩
  · have hW : wordB 116 t = (!emptyB t && partB t) := by simp [wordB]
    rw [hW]
    have HE : emptyB t = t.toList.isEmpty := rfl
    cases hE : t.toList.isEmpty with
    | true =>
      rw [HE, hE]
      go_enter Tryz.func101, Tryz.ntmps101
      go_wp2_with (go_at_call 118; refine (isPart_any _ _).mono ?_; rintro e w1 ⟨rfl, rfl⟩; try dsimp only)
      go_ret
      exact ⟨ret_bool rfl, Below.refl _ _⟩
    | false =>
      rw [HE, hE]
      go_enter Tryz.func101, Tryz.ntmps101
      go_wp2_with (go_at_call 118; refine (isPart_any _ _).mono ?_; rintro e w1 ⟨rfl, rfl⟩; try dsimp only)
      go_ret
      exact ⟨ret_bool (by simp), Below.refl _ _⟩
  · go_enter Tryz.func101, Tryz.ntmps101
    go_wp2_with (go_at_call 119; refine (isDay_any t w hs hE).mono ?_; rintro e w1 ⟨rfl, hb⟩; try dsimp only)
    go_ret
    exact ⟨ret_bool (by simp [wordB]), hb⟩
  · have hW : wordB 122 t = zB t.data.toList := by simp [wordB]
    rw [hW, ← z_eq]
    go_enter Tryz.func101, Tryz.ntmps101
    go_wp2_with fail
    refine (trimPrefix_ex _ _ _).mono ?_
    rintro e w1 ⟨d, rfl, hd, hds, rfl⟩
    obtain ⟨n, hn⟩ := nwV_snd d.data.toList 1 1000000
    have Hn : Hid (nwV d.data.toList 1 1000000 = .tuple #[.int .i64 n, .bool (inB d.data.toList 1 1000000)]) := hn
    clear hn
    go_wp2_with (go_at_call 121; refine (numberWithin_any d 1 1000000 _ (by omega) (by omega) (by omega) hE).mono ?_; rintro e w2 ⟨rfl, hb⟩; rw [Hn.out]; try dsimp only)
    go_ret
    exact ⟨ret_bool (by rw [hd.out]), hb⟩
  · obtain ⟨n, hn⟩ := nwV_snd t.data.toList 1 1000000
    have Hn : Hid (nwV t.data.toList 1 1000000 = .tuple #[.int .i64 n, .bool (inB t.data.toList 1 1000000)]) := hn
    clear hn
    go_enter Tryz.func101, Tryz.ntmps101
    go_wp2_with (go_at_call 121; refine (numberWithin_any t 1 1000000 _ (by omega) (by omega) (by omega) hE).mono ?_; rintro e w2 ⟨rfl, hb⟩; rw [Hn.out]; try dsimp only)
    go_ret
    exact ⟨ret_bool (by simp [wordB]), hb⟩
  · obtain ⟨n, hn⟩ := nwV_snd t.data.toList 0 1000000000
    have Hn : Hid (nwV t.data.toList 0 1000000000 = .tuple #[.int .i64 n, .bool (inB t.data.toList 0 1000000000)]) := hn
    clear hn
    go_enter Tryz.func101, Tryz.ntmps101
    go_wp2_with (go_at_call 121; refine (numberWithin_any t 0 1000000000 _ (by omega) (by omega) (by omega) hE).mono ?_; rintro e w2 ⟨rfl, hb⟩; rw [Hn.out]; try dsimp only)
    go_ret
    exact ⟨ret_bool (by simp [wordB]), hb⟩
theorem elemB_one {c : Int} {ss : List ByteArray} {s : ByteArray} (h1 : ss.length = 1) (hs : ss[0]? = some s) : elemB c ss = wordB c s := by
  unfold elemB
  rw [hs]
  simp [h1]
theorem elemB_no {c : Int} {ss : List ByteArray} (h1 : ¬ ss.length = 1) : elemB c ss = false := by simp [elemB, h1]
set_option maxHeartbeats 1000000 in
theorem isOf_any (c : Int) (v : Value) (ss : List ByteArray) (w : World) (hc : letterB c = true) (h : RowS w v ss) (hB : BdS 1048576 ss) (hE : ErrsAt w) :
    Calls Tryz.prog 93 #[.int .u8 c, .agg #[v]] w fun e w' => e = .returned (.bool (elemB c ss)) ∧ Below w.heap.size w w' := by
  obtain ⟨a, cap, rfl⟩ := h.val
  by_cases h1 : ss.length = 1
  · have h1' : ((ss.length : Int) == 1) = true := by rw [beq_iff_eq]; omega
    have hk : 0 < ss.length := by omega
    have hE1 : ErrsAt (w.alloc (.cells #[.slice a ss.length cap] 67)) := hE.below ((Below.refl _ _).alloc (Nat.le_refl _) _)
    obtain ⟨b, o, c1, s, e, hs, hcl, hsz⟩ := (h.below ((Below.refl _ _).alloc (Nat.le_refl _) (.cells #[.slice a ss.length cap] 67))).at hk
    simp only [Value.slice.injEq, true_and] at e
    obtain ⟨rfl, rfl⟩ := e
    have hss : s.size ≤ 281474976710656 := by have := hB.2 0 s hs; omega
    rw [elemB_one h1 hs]
    clear hs h hB
    have hk' : (0 : Int) < (ss.length : Int) := by omega
    rw [Nat.add_zero] at hcl
    clear h1 hk
    go_enter Tryz.func93, Tryz.ntmps93
    go_wp2_with (go_at_call 101; refine (wordIsOf_any c s _ hc hss hE1).mono ?_; rintro e w1 ⟨rfl, hb⟩; try dsimp only)
    go_ret
    exact ⟨ret_bool (by simp), ((Below.refl _ _).alloc (Nat.le_refl _) _).trans (hb.mono (by simp))⟩
  · have h1' : ((ss.length : Int) == 1) = false := by rw [beq_eq_false_iff_ne]; omega
    rw [elemB_no h1]
    clear h
    go_enter Tryz.func93, Tryz.ntmps93
    go_wp2_with (go_at_call 101; fail)
    go_ret
    exact ⟨ret_bool rfl, (Below.refl _ _).alloc (Nat.le_refl _) _⟩
set_option maxHeartbeats 1000000 in
theorem l01Qty_any (n : Int) (w : World) : Calls Tryz.prog 90 #[.int .i64 n] w fun e w' => e = .returned (.bool (decide (1 ≤ n ∧ n ≤ 1000000))) ∧ w' = w := by
  go_enter Tryz.func90, Tryz.ntmps90
  go_wp2
  all_goals
    go_ret
    refine ⟨ret_bool ?_, rfl⟩
    simp at *
    try omega
set_option maxHeartbeats 1000000 in
theorem l01Day_any (n : Int) (w : World) : Calls Tryz.prog 91 #[.int .i64 n] w fun e w' => e = .returned (.bool (decide (0 ≤ n ∧ n ≤ 100000))) ∧ w' = w := by
  go_enter Tryz.func91, Tryz.ntmps91
  go_wp2
  all_goals
    go_ret
    refine ⟨ret_bool ?_, rfl⟩
    simp at *
    try omega
/-- What the model's reading leaves of a test on the number. -/
def L1 (t : ByteArray) (n : Int) (b : Bool) : Prop := (b = true ∧ numT t.data.toList = some n) ∨ (b = false ∧ ∀ v : Int, numT t.data.toList = some v → v ≤ -1000000000000 ∨ 1000000000000 ≤ v)
theorem L1.inB {t : ByteArray} {n : Int} {b : Bool} (h : L1 t n b) {lo hi : Int} (h0 : -1000000000000 < lo) (h1 : hi < 1000000000000) : inB t.data.toList lo hi = (b && decide (lo ≤ n ∧ n ≤ hi)) := by
  unfold Go.Proofs.YtbefefmfpenkkaaGreatDoor.inB
  rcases h with ⟨rfl, e⟩ | ⟨rfl, hv⟩
  · rw [e]; simp
  · cases hn : numT t.data.toList with
    | none => rfl
    | some v =>
      have := hv v hn
      simp only [Bool.false_and, decide_eq_false_iff_not]
      omega
theorem L1.zB {t : ByteArray} {n : Int} {b : Bool} (h : L1 t n b) : zB t.data.toList = (b && decide (-1000000 ≤ n ∧ n ≤ 1000000 ∧ n ≠ 0)) := by
  unfold Go.Proofs.YtbefefmfpenkkaaGreatDoor.zB
  rcases h with ⟨rfl, e⟩ | ⟨rfl, hv⟩
  · rw [e]; simp
  · cases hn : numT t.data.toList with
    | none => rfl
    | some v =>
      have := hv v hn
      simp only [Bool.false_and, decide_eq_false_iff_not]
      omega
set_option maxHeartbeats 4000000 in
theorem l04Element_any (c : Int) (v : Value) (ss : List ByteArray) (w : World) (hc : letterB c = true) (h : RowS w v ss) (hB : BdS 1048576 ss) :
    Calls Tryz.prog 82 #[.int .u8 c, .agg #[v]] w fun e w' => e = .returned (.bool (elemB c ss)) ∧ Below w.heap.size w w' := by
  obtain ⟨a, cap, rfl⟩ := h.val
  by_cases h1 : ss.length = 1
  · have h1' : ((ss.length : Int) == 1) = true := by rw [beq_iff_eq]; omega
    have hk : 0 < ss.length := by omega
    obtain ⟨b, o, c1, s, e, hs, hcl, hsz⟩ := (h.below ((Below.refl _ _).alloc (Nat.le_refl _) (.cells #[.slice a ss.length cap] 67))).at hk
    simp only [Value.slice.injEq, true_and] at e
    obtain ⟨rfl, rfl⟩ := e
    have hss : s.size ≤ 281474976710656 := by have := hB.2 0 s hs; omega
    rw [elemB_one h1 hs]
    clear hs h hB
    have hk' : (0 : Int) < (ss.length : Int) := by omega
    rw [Nat.add_zero] at hcl
    clear h1 hk
    go_enter Tryz.func82, Tryz.ntmps82
    go_wp2_with fail
    refine (l01Num_any s _ hss).mono ?_
    rintro e w1 ⟨n, ok, rfl, hL, hb⟩
    have HL : L1 s n ok := hL
    have HB : Hid (Below w.heap.size w w1) := ((Below.refl _ _).alloc (Nat.le_refl _) _).trans (hb.mono (by simp))
    clear hL hb hcl
    simp only [letterB, decide_eq_true_eq] at hc
    rcases hc with rfl | rfl | rfl | rfl | rfl | rfl
    · go_wp2_with (go_at_call 89; refine (l01Name_any _ _).mono ?_; rintro e w2 ⟨rfl, rfl⟩; try dsimp only)
      go_ret
      exact ⟨ret_bool (by simp [wordB]), HB.out⟩
    · have hW : wordB 116 s = (!emptyB s && partB s) := by simp [wordB]
      have Hw : Hid (wordB 116 s = (!emptyB s && partB s)) := hW
      clear hW
      have HE : emptyB s = s.toList.isEmpty := rfl
      cases hE : s.toList.isEmpty with
      | true =>
        go_wp2_with (go_at_call 45; refine (l02Part_any _ _).mono ?_; rintro e w2 ⟨rfl, rfl⟩; try dsimp only)
        go_ret
        exact ⟨ret_bool (by rw [Hw.out, HE, hE]; rfl), HB.out⟩
      | false =>
        go_wp2_with (go_at_call 45; refine (l02Part_any _ _).mono ?_; rintro e w2 ⟨rfl, rfl⟩; try dsimp only)
        go_ret
        exact ⟨ret_bool (by rw [Hw.out, HE, hE]; simp), HB.out⟩
    · have hW : wordB 100 s = (ok && decide (0 ≤ n ∧ n ≤ 100000)) := by rw [← HL.inB (by omega) (by omega)]; simp [wordB]
      have Hw : Hid (wordB 100 s = (ok && decide (0 ≤ n ∧ n ≤ 100000))) := hW
      clear hW HL
      cases ok <;> (go_wp2_with (go_at_call 91; refine (l01Day_any _ _).mono ?_; rintro e w2 ⟨rfl, rfl⟩; try dsimp only)) <;> (go_ret; exact ⟨ret_bool (by rw [Hw.out]; simp), HB.out⟩)
    · have hW : wordB 122 s = (ok && decide (-1000000 ≤ n ∧ n ≤ 1000000 ∧ n ≠ 0)) := by rw [← HL.zB]; simp [wordB]
      have Hw : Hid (wordB 122 s = (ok && decide (-1000000 ≤ n ∧ n ≤ 1000000 ∧ n ≠ 0))) := hW
      clear hW HL
      cases ok <;> go_wp2 <;> (go_ret; refine ⟨ret_bool ?_, HB.out⟩; rw [Hw.out, Bool.eq_iff_iff]; simp at *; try omega)
    · have hW : wordB 113 s = (ok && decide (1 ≤ n ∧ n ≤ 1000000)) := by rw [← HL.inB (by omega) (by omega)]; simp [wordB]
      have Hw : Hid (wordB 113 s = (ok && decide (1 ≤ n ∧ n ≤ 1000000))) := hW
      clear hW HL
      cases ok <;> (go_wp2_with (go_at_call 90; refine (l01Qty_any _ _).mono ?_; rintro e w2 ⟨rfl, rfl⟩; try dsimp only)) <;> (go_ret; exact ⟨ret_bool (by rw [Hw.out]; simp), HB.out⟩)
    · have hW : wordB 110 s = (ok && decide (0 ≤ n ∧ n ≤ 1000000000)) := by rw [← HL.inB (by omega) (by omega)]; simp [wordB]
      have Hw : Hid (wordB 110 s = (ok && decide (0 ≤ n ∧ n ≤ 1000000000))) := hW
      clear hW HL
      cases ok <;> go_wp2 <;> (go_ret; refine ⟨ret_bool ?_, HB.out⟩; rw [Hw.out]; simp at *; try omega)
  · have h1' : ((ss.length : Int) == 1) = false := by rw [beq_eq_false_iff_ne]; omega
    rw [elemB_no h1]
    clear h
    go_enter Tryz.func82, Tryz.ntmps82
    go_wp2_with fail
    go_ret
    exact ⟨ret_bool rfl, (Below.refl _ _).alloc (Nat.le_refl _) _⟩
end Go.Proofs.YtbefefmfpenkkaaGreatDoor
namespace Go.Proofs.YtbefefmfpenkkaaGreatDoor
open Go.Lib
def ltB (c : UInt8) : Bool := letterB (c.toNat : Int)
theorem ltB_63 : ltB 63 = false := by decide
/-- Going through a form. -/
def fm : List UInt8 → List UInt8 → Int → Option (List UInt8 × Int)
  | [], ls, m => some (ls, m)
  | c :: r, ls, m => if c = 63 then (if 0 ≤ m then none else fm r ls ls.length) else if ltB c then fm r (ls ++ [c]) m else none
/-- The letters of a form, and how many of them are needed. -/
def formF (f : List UInt8) : Option (List UInt8 × Nat) := match fm f [] (-1) with
  | some (ls, m) => some (ls, if m < 0 then ls.length else m.toNat)
  | none => none
theorem fm_plain (l r : List UInt8) (h : ∀ c ∈ l, c ≠ 63) : ∀ (ls : List UInt8) (m : Int), fm (l ++ r) ls m = if l.all ltB then fm r (ls ++ l) m else none := by
  induction l with
  | nil => intro ls m; simp
  | cons c l ih =>
    intro ls m
    have hc := h c (List.mem_cons_self ..)
    have hl := ih (fun x hx => h x (List.mem_cons_of_mem _ hx))
    rw [List.cons_append, fm, if_neg hc]
    by_cases hb : ltB c = true
    · rw [if_pos hb, hl]
      simp [hb]
    · rw [if_neg hb]
      simp [hb]
theorem fm_behind (r : List UInt8) : ∀ (ls : List UInt8) (m : Int), 0 ≤ m → fm r ls m = if r.all ltB then some (ls ++ r, m) else none := by
  induction r with
  | nil => intro ls m _; simp [fm]
  | cons c r ih =>
    intro ls m hm
    rw [fm]
    by_cases hc : c = 63
    · subst hc
      rw [if_pos rfl, if_pos hm]
      simp [ltB_63]
    · rw [if_neg hc]
      by_cases hb : ltB c = true
      · rw [if_pos hb, ih _ _ hm]
        simp [hb]
      · rw [if_neg hb]
        simp [hb]
theorem fm_all (r : List UInt8) : ∀ (ls : List UInt8) (m : Int) (p : List UInt8 × Int), ls.all ltB = true → fm r ls m = some p → p.1.all ltB = true := by
  induction r with
  | nil => intro ls m p h e; simp only [fm, Option.some.injEq] at e; subst e; exact h
  | cons c r ih =>
    intro ls m p h e
    rw [fm] at e
    split at e
    · split at e
      · cases e
      · exact ih _ _ _ h e
    · split at e
      · rename_i hb
        exact ih _ _ _ (by rw [List.all_append, h]; simp [hb]) e
      · cases e
theorem formF_all {f ls : List UInt8} {m : Nat} (h : formF f = some (ls, m)) : ls.all ltB = true := by
  unfold formF at h
  cases hf : fm f [] (-1) with
  | none => rw [hf] at h; cases h
  | some p =>
    rw [hf] at h
    obtain ⟨l, n⟩ := p
    simp only [Option.some.injEq, Prod.mk.injEq] at h
    have := fm_all f [] (-1) _ rfl hf
    rw [← h.1]
    exact this
theorem all_63 {l : List UInt8} (h : l.all ltB = true) : ∀ c ∈ l, c ≠ 63 := by
  intro c hc e
  subst e
  have := List.all_eq_true.1 h _ hc
  rw [ltB_63] at this
  cases this
/-- What cutting at the first mark tells. -/
theorem formF_cut (n s : List UInt8) (hn : ∀ c ∈ n, c ≠ 63) : formF (n ++ 63 :: s) = if (n ++ s).all ltB then some (n ++ s, n.length) else none := by
  unfold formF
  rw [fm_plain n _ hn, List.all_append]
  by_cases h1 : n.all ltB = true
  · rw [if_pos h1, List.nil_append, fm, if_pos rfl, if_neg (by omega), fm_behind _ _ _ (by omega), h1, Bool.true_and]
    by_cases h2 : s.all ltB = true
    · rw [if_pos h2, if_pos h2]
      simp only
      rw [if_neg (by omega), Int.toNat_natCast]
    · rw [if_neg h2, if_neg h2]
  · rw [if_neg h1]
    simp [h1]
theorem formF_whole (n : List UInt8) (hn : ∀ c ∈ n, c ≠ 63) : formF n = if n.all ltB then some (n, n.length) else none := by
  unfold formF
  have := fm_plain n [] hn [] (-1)
  rw [List.append_nil] at this
  rw [this]
  by_cases h1 : n.all ltB = true
  · rw [if_pos h1, if_pos h1, List.nil_append, fm]
    rfl
  · rw [if_neg h1, if_neg h1]
theorem trimS_empty (l : List UInt8) : trimS l [114, 110, 113, 122, 100, 116] = [] ↔ l.all ltB = true := by
  have hcs : ∀ c : UInt8, ([114, 110, 113, 122, 100, 116] : List UInt8).contains c = ltB c := by
    intro c
    rw [Bool.eq_iff_iff]
    simp only [ltB, letterB, decide_eq_true_eq, List.contains_iff_mem, List.mem_cons, List.not_mem_nil, or_false]
    constructor
    · rintro (rfl | rfl | rfl | rfl | rfl | rfl) <;> decide
    · intro h
      have key : ∀ k : Nat, c.toNat = k → c = UInt8.ofNat k := by intro k e; rw [← e]; simp
      rcases h with h | h | h | h | h | h
      · exact .inl (key 114 (by omega))
      · exact .inr (.inr (.inr (.inr (.inr (key 116 (by omega))))))
      · exact .inr (.inr (.inr (.inr (.inl (key 100 (by omega))))))
      · exact .inr (.inr (.inr (.inl (key 122 (by omega)))))
      · exact .inr (.inr (.inl (key 113 (by omega))))
      · exact .inr (.inl (key 110 (by omega)))
  have hf : (fun c => ([114, 110, 113, 122, 100, 116] : List UInt8).contains c) = ltB := funext hcs
  have dw : ∀ x : List UInt8, x.dropWhile ltB = [] ↔ x.all ltB = true := by
    intro x
    induction x with
    | nil => simp
    | cons c r ih =>
      by_cases hc : ltB c = true
      · rw [List.dropWhile_cons_of_pos hc, ih]; simp [hc]
      · rw [List.dropWhile_cons_of_neg hc]; simp [hc]
  unfold trimS trimLeftS trimRightS
  rw [hf, dw]
  constructor
  · intro h
    by_cases ha : l.all ltB = true
    · exact ha
    · exfalso
      have hr : ¬ l.reverse.all ltB = true := by rw [List.all_reverse]; exact ha
      have hne : l.reverse.dropWhile ltB ≠ [] := fun e => hr ((dw _).1 e)
      rw [List.all_reverse] at h
      cases hd : l.reverse.dropWhile ltB with
      | nil => exact hne hd
      | cons c r =>
        have h1 := List.head?_dropWhile_not ltB l.reverse
        rw [hd] at h1 h
        simp only [List.head?_cons] at h1
        simp only [List.all_cons, Bool.and_eq_true] at h
        rw [h.1] at h1
        cases h1
  · intro ha
    have : l.reverse.dropWhile ltB = [] := (dw _).2 (by rw [List.all_reverse]; exact ha)
    rw [this]
    rfl
/-- Is the element at a place none of the letter? -/
def badAt (ls : List UInt8) (es : List (List ByteArray)) (i : Nat) : Prop := ls.length ≤ i ∨ elemB ((ls[i]?.getD 0).toNat : Int) (es[i]?.getD []) = false
def FrOut (ls : List UInt8) (m : Nat) (es : List (List ByteArray)) (r : Int) : Prop :=
  (∃ k : Nat, k < es.length ∧ r = (k : Int) ∧ badAt ls es k ∧ ∀ j, j < k → ¬ badAt ls es j) ∨ ((∀ j, j < es.length → ¬ badAt ls es j) ∧ ((es.length < m ∧ r = (es.length : Int)) ∨ (m ≤ es.length ∧ r = -1)))
theorem FrOut.one {ls : List UInt8} {m : Nat} {es : List (List ByteArray)} {r r' : Int} (h : FrOut ls m es r) (h' : FrOut ls m es r') : r = r' := by
  rcases h with ⟨k, hk, rfl, hb, ha⟩ | ⟨ha, hr⟩
  · rcases h' with ⟨k', hk', rfl, hb', ha'⟩ | ⟨ha', _⟩
    · rcases Nat.lt_trichotomy k k' with g | g | g
      · exact absurd hb (ha' k g)
      · rw [g]
      · exact absurd hb' (ha k' g)
    · exact absurd hb (ha' k hk)
  · rcases h' with ⟨k', hk', rfl, hb', ha'⟩ | ⟨ha', hr'⟩
    · exact absurd hb' (ha k' hk')
    · rcases hr with ⟨h1, rfl⟩ | ⟨h1, rfl⟩ <;> rcases hr' with ⟨h2, rfl⟩ | ⟨h2, rfl⟩ <;> first | rfl | omega
/-- What FormRight tells. -/
def FrO (f : ByteArray) (es : List (List ByteArray)) (r : Int) : Prop :=
  if 20000 < f.size then r = 0 else match formF f.data.toList with
    | none => r = 0
    | some (ls, m) => FrOut ls m es r
theorem FrO.one {f : ByteArray} {es : List (List ByteArray)} {r r' : Int} (h : FrO f es r) (h' : FrO f es r') : r = r' := by
  unfold FrO at h h'
  split at h
  · rename_i g
    rw [if_pos g] at h'
    rw [h, h']
  · rename_i g
    rw [if_neg g] at h'
    cases hf : formF f.data.toList with
    | none => rw [hf] at h h'; simp only at h h'; rw [h, h']
    | some p =>
      obtain ⟨ls, m⟩ := p
      rw [hf] at h h'
      exact FrOut.one h h'
theorem FrO.big {f : ByteArray} {es : List (List ByteArray)} (h : 20000 < f.size) : FrO f es 0 := by unfold FrO; rw [if_pos h]
theorem FrO.none_ {f : ByteArray} {es : List (List ByteArray)} (h : f.size ≤ 20000) (hf : formF f.data.toList = none) : FrO f es 0 := by unfold FrO; rw [if_neg (by omega), hf]
theorem FrO.some_ {f : ByteArray} {es : List (List ByteArray)} {ls : List UInt8} {m : Nat} {r : Int} (h : f.size ≤ 20000) (hf : formF f.data.toList = some (ls, m)) (hr : FrOut ls m es r) : FrO f es r := by unfold FrO; rw [if_neg (by omega), hf]; exact hr
end Go.Proofs.YtbefefmfpenkkaaGreatDoor
