/- Texts of ours put together: PartB, RightGp. -/
import Derived.Test.YtjnikogaleofaaaDoorG00
namespace Go.Proofs.YtjnikogaleofaaaDoor
open Go.ChangeShapes Go.WideShapes Go.ChangeAt Go.RowKit
/-- Are all bytes within these limits? -/
def rngB (lo hi : Nat) (t : ByteArray) : Bool := t.data.toList.all fun x => decide (lo ≤ x.toNat) && decide (x.toNat ≤ hi)
theorem rngB_yes {lo hi : Nat} {t : ByteArray} (h : ∀ (j : Nat) (hj : j < t.size), lo ≤ (t[j]'hj).toNat ∧ (t[j]'hj).toNat ≤ hi) : rngB lo hi t = true := by
  unfold rngB
  rw [List.all_eq_true]
  intro x hx
  obtain ⟨j, hj, rfl⟩ := List.mem_iff_getElem.1 hx
  have := h j (by simpa using hj)
  simp only [Bool.and_eq_true, decide_eq_true_eq]
  exact this
theorem rngB_no {lo hi : Nat} {t : ByteArray} (j : Nat) (hj : j < t.size) (h : (t[j]'hj).toNat < lo ∨ hi < (t[j]'hj).toNat) : rngB lo hi t = false := by
  unfold rngB
  rw [List.all_eq_false]
  refine ⟨t[j]'hj, ?_, ?_⟩
  · have hj' : j < t.data.toList.length := by simpa using hj
    exact List.mem_iff_getElem.2 ⟨j, hj', rfl⟩
  · simp only [Bool.and_eq_true, decide_eq_true_eq]
    omega
def tagB (t : ByteArray) : Bool := decide (t.size = 3) && rngB 65 90 t
def partB (t : ByteArray) : Bool := decide (t.size ≤ 40) && rngB 32 126 t
set_option maxHeartbeats 1000000 in
theorem isPart_any (t : ByteArray) (w : World) : Calls Tryd.prog 77 #[.string t] w fun e w' => e = .returned (.bool (partB t)) ∧ w' = w := by
  by_cases hs : t.size ≤ 40
  · have hB : partB t = rngB 32 126 t := by simp [partB, hs]
    rw [hB]
    have hs' : ¬ (40 : Int) < (t.size : Int) := by omega
    have hs2 : (t.size : Int) ≤ 40 := by omega
    go_enter Tryd.func77, Tryd.ntmps77
    go_wp2
    go_loopw [9] (fun i wr => ∃ k : Nat, i = .int .i64 (k : Int) ∧ k ≤ t.size ∧ (∀ (j : Nat) (hj : j < t.size), j < k → 32 ≤ (t[j]'hj).toNat ∧ (t[j]'hj).toNat ≤ 126) ∧ wr = w) (fun i _ => t.size - (intOf i).toNat)
    case atStart => exact ⟨0, rfl, by omega, fun j hj h => by omega, rfl⟩
    case round =>
      obtain ⟨k, rfl, hk, hA, rfl⟩ := hrel
      have HA : Hid (∀ (j : Nat) (hj : j < t.size), j < k → 32 ≤ (t[j]'hj).toNat ∧ (t[j]'hj).toNat ≤ 126) := hA
      clear hA
      by_cases hlt : k < t.size
      · have hlt' : (k : Int) < (t.size : Int) := by omega
        skip
        have hx0 : 0 ≤ ((t[k]'hlt).toNat : Int) := by omega
        have hx1 : ((t[k]'hlt).toNat : Int) ≤ 255 := by have := (t[k]'hlt).toNat_lt; omega
        by_cases hlo : ((t[k]'hlt).toNat : Int) < 32
        · have d1 : decide (((t[k]'hlt).toNat : Int) < 32) = true := by simpa using hlo
          go_wp2
          go_ret
          exact ⟨ret_bool (rngB_no k hlt (by omega)).symm, rfl⟩
        · have d1 : decide (((t[k]'hlt).toNat : Int) < 32) = false := by simpa using hlo
          by_cases hhi : 126 < ((t[k]'hlt).toNat : Int)
          · have d2 : decide (126 < ((t[k]'hlt).toNat : Int)) = true := by simpa using hhi
            go_wp2
            go_ret
            exact ⟨ret_bool (rngB_no k hlt (by omega)).symm, rfl⟩
          · have d2 : decide (126 < ((t[k]'hlt).toNat : Int)) = false := by simpa using hhi
            go_wp2
            go_roundw
            case rel =>
              refine ⟨k + 1, by go_num, by omega, fun j hj h => ?_, trivial⟩
              rcases Nat.lt_or_ge j k with g | g
              · exact HA.out j hj g
              · obtain rfl : j = k := by omega
                omega
            case measure => simp [intOf]; omega
      · obtain rfl : k = t.size := by omega
        skip
        go_wp2
        go_ret
        exact ⟨ret_bool (rngB_yes fun j hj => HA.out j hj hj).symm, rfl⟩
  · have hB : partB t = false := by simp [partB, hs]
    rw [hB]
    have hs' : (40 : Int) < (t.size : Int) := by omega
    go_enter Tryd.func77, Tryd.ntmps77
    go_wp2
    go_ret
    exact ⟨rfl, rfl⟩
set_option maxHeartbeats 1000000 in
theorem l02Part_any (t : ByteArray) (w : World) : Calls Tryd.prog 28 #[.string t] w fun e w' => e = .returned (.bool (partB t)) ∧ w' = w := by
  by_cases hs : t.size ≤ 40
  · have hB : partB t = rngB 32 126 t := by simp [partB, hs]
    rw [hB]
    have hs' : ¬ (40 : Int) < (t.size : Int) := by omega
    have hs2 : (t.size : Int) ≤ 40 := by omega
    go_enter Tryd.func28, Tryd.ntmps28
    go_wp2
    go_loopw [3] (fun i wr => ∃ k : Nat, i = .int .i64 (k : Int) ∧ k ≤ t.size ∧ (∀ (j : Nat) (hj : j < t.size), j < k → 32 ≤ (t[j]'hj).toNat ∧ (t[j]'hj).toNat ≤ 126) ∧ wr = w) (fun i _ => t.size - (intOf i).toNat)
    case atStart => exact ⟨0, rfl, by omega, fun j hj h => by omega, rfl⟩
    case round =>
      obtain ⟨k, rfl, hk, hA, rfl⟩ := hrel
      have HA : Hid (∀ (j : Nat) (hj : j < t.size), j < k → 32 ≤ (t[j]'hj).toNat ∧ (t[j]'hj).toNat ≤ 126) := hA
      clear hA
      by_cases hlt : k < t.size
      · have hlt' : (k : Int) < (t.size : Int) := by omega
        skip
        have hx0 : 0 ≤ ((t[k]'hlt).toNat : Int) := by omega
        have hx1 : ((t[k]'hlt).toNat : Int) ≤ 255 := by have := (t[k]'hlt).toNat_lt; omega
        by_cases hlo : ((t[k]'hlt).toNat : Int) < 32
        · have d1 : decide (((t[k]'hlt).toNat : Int) < 32) = true := by simpa using hlo
          go_wp2
          go_ret
          exact ⟨ret_bool (rngB_no k hlt (by omega)).symm, rfl⟩
        · have d1 : decide (((t[k]'hlt).toNat : Int) < 32) = false := by simpa using hlo
          by_cases hhi : 126 < ((t[k]'hlt).toNat : Int)
          · have d2 : decide (126 < ((t[k]'hlt).toNat : Int)) = true := by simpa using hhi
            go_wp2
            go_ret
            exact ⟨ret_bool (rngB_no k hlt (by omega)).symm, rfl⟩
          · have d2 : decide (126 < ((t[k]'hlt).toNat : Int)) = false := by simpa using hhi
            go_wp2
            go_roundw
            case rel =>
              refine ⟨k + 1, by go_num, by omega, fun j hj h => ?_, trivial⟩
              rcases Nat.lt_or_ge j k with g | g
              · exact HA.out j hj g
              · obtain rfl : j = k := by omega
                omega
            case measure => simp [intOf]; omega
      · obtain rfl : k = t.size := by omega
        skip
        go_wp2
        go_ret
        exact ⟨ret_bool (rngB_yes fun j hj => HA.out j hj hj).symm, rfl⟩
  · have hB : partB t = false := by simp [partB, hs]
    rw [hB]
    have hs' : (40 : Int) < (t.size : Int) := by omega
    go_enter Tryd.func28, Tryd.ntmps28
    go_wp2
    go_ret
    exact ⟨rfl, rfl⟩
end Go.Proofs.YtjnikogaleofaaaDoor
namespace Go.Proofs.YtjnikogaleofaaaDoor
open Go.ChangeShapes Go.WideShapes Go.ChangeAt Go.RowKit
def isE (s : ByteArray) : Bool := s.toList.isEmpty
/-- Are there several, and is the last one empty? -/
def endsE (ss : List ByteArray) : Bool := decide (1 < ss.length) && isE (ss[ss.length - 1]?.getD ⟨#[]⟩)
/-- Is the last one one empty text? -/
def blank1 (ss : List ByteArray) : Bool := decide (ss.length = 1) && isE (ss[0]?.getD ⟨#[]⟩)
def blankB (es : List (List ByteArray)) : Bool := decide (0 < es.length) && blank1 (es[es.length - 1]?.getD [])
def elB (ss : List ByteArray) : Bool := decide (1 ≤ ss.length) && (decide (ss.length ≤ 4) && (!endsE ss && ss.all partB))
def rightG (tag : ByteArray) (es : List (List ByteArray)) : Bool := tagB tag && (decide (es.length ≤ 10) && (!blankB es && es.all elB))
theorem all_yes {α : Type} {p : α → Bool} {l : List α} (h : ∀ (j : Nat) (x : α), l[j]? = some x → p x = true) : l.all p = true := by
  rw [List.all_eq_true]
  intro x hx
  obtain ⟨j, hj⟩ := List.mem_iff_getElem?.1 hx
  exact h j x hj
theorem all_no {α : Type} {p : α → Bool} {l : List α} {k : Nat} {x : α} (h : l[k]? = some x) (hx : p x = false) : l.all p = false := by
  rw [List.all_eq_false]
  exact ⟨x, List.mem_of_getElem? h, by rw [hx]; simp⟩
set_option maxHeartbeats 1000000 in
theorem l02Empty_any (v : Value) (ss : List ByteArray) (w : World) (h : RowS w v ss) (hl : ss.length ≤ 1048576) : Calls Tryd.prog 29 #[.agg #[v]] w fun e w' => e = .returned (.bool (blank1 ss)) ∧ Below w.heap.size w w' := by
  obtain ⟨a, cap, rfl⟩ := h.val
  by_cases h1 : ss.length = 1
  · have h1' : ((ss.length : Int) == 1) = true := by rw [beq_iff_eq]; omega
    have hk : 0 < ss.length := by omega
    obtain ⟨b, o, c1, s, e, hs, hc, hsz⟩ := (h.below ((Below.refl _ _).alloc (Nat.le_refl _) (.cells #[.slice a ss.length cap] 36))).at hk
    simp only [Value.slice.injEq, true_and] at e
    obtain ⟨rfl, rfl⟩ := e
    have hB : blank1 ss = isE s := by unfold blank1; rw [hs]; simp [h1]
    rw [hB]
    clear hB hs h
    have hk' : (0 : Int) < (ss.length : Int) := by omega
    rw [Nat.add_zero] at hc
    clear h1 hk
    go_enter Tryd.func29, Tryd.ntmps29
    go_wp2_with fail
    first | (go_quiet (fail); go_wp2) | go_wp2
    go_ret
    exact ⟨rfl, by first | exact below_drewN ((Below.refl _ _).alloc (Nat.le_refl _) _) _ | exact (Below.refl _ _).alloc (Nat.le_refl _) _⟩
  · have h1' : ((ss.length : Int) == 1) = false := by rw [beq_eq_false_iff_ne]; omega
    have hB : blank1 ss = false := by unfold blank1; simp [h1]
    rw [hB]
    clear h
    go_enter Tryd.func29, Tryd.ntmps29
    go_wp2_with fail
    first | (go_quiet (fail); go_wp2) | go_wp2
    go_ret
    exact ⟨rfl, by first | exact below_drewN ((Below.refl _ _).alloc (Nat.le_refl _) _) _ | exact (Below.refl _ _).alloc (Nat.le_refl _) _⟩
end Go.Proofs.YtjnikogaleofaaaDoor
