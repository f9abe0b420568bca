/- Texts of ours put together: NumP, ShNum, Keep, Ret, Plain. -/
import Derived.Lib.ParseIntB
import Derived.Lib.ItoaNum
import Derived.Lib.Strings
import Derived.Shelf.LaysM
import Derived.Shelf.Strconv.ParseIntPublic10
import Derived.Shelf.Strings.Prefix
import Derived.Test.YtcdebinldmblkaaGreatDoorRows
import Derived.WalkKit
import Derived.Below
import Derived.WalkSmall
import Derived.RangeFuncRecord
import Derived.ProofKit
import Derived.OpenShut
import Derived.ShutString
import Derived.ChangeOld
import Derived.WalkLawsBesides
import Derived.WalkSpells
import Derived.Deep.Light
import Derived.Handy
namespace Go.Proofs.YtcdebinldmblkaaGreatDoor
open Go.Lib
def dgOk (c : UInt8) : Bool := decide (48 ≤ c.toNat ∧ c.toNat ≤ 57)
/-- What digits spell, behind n. -/
def dgVal (n : Nat) : List UInt8 → Nat
  | [] => n
  | c :: r => dgVal (n * 10 + (c.toNat - 48)) r
def plainD (l : List UInt8) : Bool := !l.isEmpty && l.all dgOk && (l.head? != some 48 || l.length == 1)
/-- The number that a text tells, if it tells one. -/
def numT (l : List UInt8) : Option Int :=
  if l.head? = some 45 then (if plainD l.tail && (l.tail.head? != some 48) then some (-(dgVal 0 l.tail : Int)) else none)
  else if plainD l then some (dgVal 0 l : Int) else none
theorem dgVal_nil (n : Nat) : dgVal n [] = n := by rw [dgVal.eq_def]
theorem dgVal_cons (n : Nat) (c : UInt8) (r : List UInt8) : dgVal n (c :: r) = dgVal (n * 10 + (c.toNat - 48)) r := by rw [dgVal.eq_def]
theorem dgVal_snoc (l : List UInt8) (c : UInt8) : ∀ n, dgVal n (l ++ [c]) = dgVal n l * 10 + (c.toNat - 48) := by
  induction l with
  | nil => intro n; rw [List.nil_append, dgVal_cons, dgVal_nil, dgVal_nil]
  | cons x l ih => intro n; rw [List.cons_append, dgVal_cons, dgVal_cons, ih]
theorem dgVal_le (l : List UInt8) : ∀ n, n ≤ dgVal n l := by
  induction l with
  | nil => intro n; exact Nat.le_refl _
  | cons x l ih =>
    intro n
    have h := ih (n * 10 + (x.toNat - 48))
    show n ≤ dgVal (n * 10 + (x.toNat - 48)) l
    omega
theorem dgVal_pow (l : List UInt8) : ∀ n, n * 10 ^ l.length ≤ dgVal n l := by
  induction l with
  | nil => intro n; simp [dgVal_nil]
  | cons x l ih =>
    intro n
    simp only [dgVal_cons, List.length_cons, Nat.pow_succ]
    refine Nat.le_trans ?_ (ih _)
    rw [Nat.add_mul, Nat.mul_comm (10 ^ l.length) 10, ← Nat.mul_assoc]
    exact Nat.le_add_right _ _
theorem dgVal_lt (l : List UInt8) (h : l.all dgOk = true) : ∀ n, dgVal n l < (n + 1) * 10 ^ l.length := by
  induction l with
  | nil => intro n; simp [dgVal_nil]
  | cons x l ih =>
    intro n
    simp only [List.all_cons, Bool.and_eq_true] at h
    simp only [dgVal_cons, List.length_cons, Nat.pow_succ]
    have hx : x.toNat ≤ 57 := by have := h.1; simp [dgOk] at this; exact this.2
    refine Nat.lt_of_lt_of_le (ih h.2 _) ?_
    rw [Nat.mul_comm (10 ^ l.length) 10, ← Nat.mul_assoc]
    exact Nat.mul_le_mul_right _ (by omega)
theorem parseM_ok (l : List UInt8) (h : l.all dgOk = true) : ∀ n, dgVal n l ≤ 18446744073709551615 → parseUintM 18446744073709551615 n l = .ok (dgVal n l) := by
  induction l with
  | nil => intro n hn; rfl
  | cons x l ih =>
    intro n hn
    simp only [List.all_cons, Bool.and_eq_true] at h
    have hx := h.1
    simp only [dgOk, decide_eq_true_eq] at hx
    have hm := dgVal_le l (n * 10 + (x.toNat - 48))
    have hn' : dgVal (n * 10 + (x.toNat - 48)) l ≤ 18446744073709551615 := hn
    unfold parseUintM
    rw [if_pos hx, if_neg (by omega), if_neg (by omega)]
    exact ih h.2 _ hn'
theorem parseM_range (l : List UInt8) (h : l.all dgOk = true) : ∀ n, n ≤ 18446744073709551615 → 18446744073709551615 < dgVal n l → parseUintM 18446744073709551615 n l = .range := by
  induction l with
  | nil =>
    intro n hn hd
    have : 18446744073709551615 < n := hd
    omega
  | cons x l ih =>
    intro n hn hd
    simp only [List.all_cons, Bool.and_eq_true] at h
    have hx := h.1
    simp only [dgOk, decide_eq_true_eq] at hx
    unfold parseUintM
    rw [if_pos hx]
    by_cases h1 : 1844674407370955162 ≤ n
    · rw [if_pos h1]
    · rw [if_neg h1]
      by_cases h2 : 18446744073709551615 < n * 10 + (x.toNat - 48)
      · rw [if_pos h2]
      · rw [if_neg h2]
        exact ih h.2 _ (by omega) hd
theorem parseU_ok (l : List UInt8) (h : l.all dgOk = true) (hne : l ≠ []) (hb : dgVal 0 l ≤ 18446744073709551615) : parseUintB 64 l = .ok (dgVal 0 l) := by
  unfold parseUintB
  rw [if_neg hne]
  exact parseM_ok l h 0 hb
theorem parseU_range (l : List UInt8) (h : l.all dgOk = true) (hne : l ≠ []) (hb : 18446744073709551615 < dgVal 0 l) : parseUintB 64 l = .range := by
  unfold parseUintB
  rw [if_neg hne]
  exact parseM_range l h 0 (by omega) hb
theorem plainD_facts {l : List UInt8} (h : plainD l = true) : l ≠ [] ∧ l.all dgOk = true ∧ (l.head? = some 48 → l.length = 1) := by
  simp only [plainD, Bool.and_eq_true, Bool.not_eq_true', Bool.or_eq_true, bne_iff_ne, beq_iff_eq] at h
  obtain ⟨⟨h1, h2⟩, h3⟩ := h
  refine ⟨fun e => by subst e; simp at h1, h2, fun e => ?_⟩
  rcases h3 with h3 | h3
  · exact absurd e h3
  · exact h3
theorem parse_neg (r : List UInt8) (u : Nat) (h : parseUintB 64 r = .ok u) : parseIntB 64 (45 :: r) = if 9223372036854775808 < u then .range else .ok (-(u : Int)) := by
  have e : (if (45 : UInt8).toNat = 43 ∨ (45 : UInt8).toNat = 45 then r else 45 :: r) = r := rfl
  unfold parseIntB
  dsimp only
  rw [e, h]
  dsimp only
  rw [if_neg (fun x => x.1 rfl)]
  by_cases hu : 9223372036854775808 < u
  · rw [if_pos hu, if_pos ⟨rfl, hu⟩]
  · rw [if_neg hu, if_neg (fun x => hu x.2), if_pos (show (45 : UInt8).toNat = 45 from rfl)]
theorem parse_neg_range (r : List UInt8) (h : parseUintB 64 r = .range) : parseIntB 64 (45 :: r) = .range := by
  have e : (if (45 : UInt8).toNat = 43 ∨ (45 : UInt8).toNat = 45 then r else 45 :: r) = r := rfl
  unfold parseIntB
  dsimp only
  rw [e, h]
theorem parse_pos (c : UInt8) (r : List UInt8) (u : Nat) (hc : 48 ≤ c.toNat) (h : parseUintB 64 (c :: r) = .ok u) : parseIntB 64 (c :: r) = if 9223372036854775808 ≤ u then .range else .ok (u : Int) := by
  unfold parseIntB
  dsimp only
  rw [if_neg (by omega), h]
  dsimp only
  have hn : ¬ c.toNat = 45 := by omega
  by_cases hu : 9223372036854775808 ≤ u
  · rw [if_pos hu, if_pos ⟨hn, hu⟩]
  · rw [if_neg hu, if_neg (fun x => hu x.2), if_neg (fun x => hn x.1), if_neg hn]
theorem parse_pos_range (c : UInt8) (r : List UInt8) (hc : 48 ≤ c.toNat) (h : parseUintB 64 (c :: r) = .range) : parseIntB 64 (c :: r) = .range := by
  unfold parseIntB
  dsimp only
  rw [if_neg (by omega), h]
theorem numT_parse {l : List UInt8} {v : Int} (h : numT l = some v) : (-9223372036854775808 ≤ v ∧ v ≤ 9223372036854775807 ∧ parseIntB 64 l = .ok v) ∨ ((v < -9223372036854775808 ∨ 9223372036854775807 < v) ∧ parseIntB 64 l = .range) := by
  unfold numT at h
  split at h
  · rename_i h45
    split at h
    · rename_i hp
      simp only [Option.some.injEq] at h
      cases l with
      | nil => simp at h45
      | cons c r =>
        simp only [List.head?_cons, Option.some.injEq] at h45
        subst h45
        simp only [List.tail_cons, Bool.and_eq_true] at hp h
        obtain ⟨hne, hall, _⟩ := plainD_facts hp.1
        subst h
        by_cases hb : dgVal 0 r ≤ 18446744073709551615
        · rw [parse_neg r _ (parseU_ok r hall hne hb)]
          by_cases hc : 9223372036854775808 < dgVal 0 r
          · rw [if_pos hc]; exact .inr ⟨.inl (by omega), rfl⟩
          · rw [if_neg hc]; exact .inl ⟨by omega, by omega, rfl⟩
        · rw [parse_neg_range r (parseU_range r hall hne (by omega))]
          exact .inr ⟨.inl (by omega), rfl⟩
    · cases h
  · rename_i h45
    split at h
    · rename_i hp
      simp only [Option.some.injEq] at h
      obtain ⟨hne, hall, _⟩ := plainD_facts hp
      subst h
      cases l with
      | nil => exact absurd rfl hne
      | cons c r =>
        have hc : 48 ≤ c.toNat ∧ c.toNat ≤ 57 := by
          have := hall
          simp only [List.all_cons, Bool.and_eq_true, dgOk, decide_eq_true_eq] at this
          exact this.1
        by_cases hb : dgVal 0 (c :: r) ≤ 18446744073709551615
        · rw [parse_pos c r _ hc.1 (parseU_ok _ hall hne hb)]
          by_cases hc2 : 9223372036854775808 ≤ dgVal 0 (c :: r)
          · rw [if_pos hc2]; exact .inr ⟨.inr (by omega), rfl⟩
          · rw [if_neg hc2]; exact .inl ⟨by omega, by omega, rfl⟩
        · rw [parse_pos_range c r hc.1 (parseU_range _ hall hne (by omega))]
          exact .inr ⟨.inr (by omega), rfl⟩
    · cases h
theorem dec_all (u : Nat) : (decDigits u).all dgOk = true := by
  induction u using Nat.strongRecOn with
  | _ u ih =>
    rw [decDigits]
    split
    · rename_i h
      simp [dgOk, UInt8.toNat_ofNat']
      omega
    · rename_i h
      rw [List.all_append, ih (u / 10) (by omega)]
      simp [dgOk, UInt8.toNat_ofNat']
      omega
theorem dec_val (u : Nat) : dgVal 0 (decDigits u) = u := by
  induction u using Nat.strongRecOn with
  | _ u ih =>
    rw [decDigits]
    split
    · rename_i h
      simp [dgVal_cons, dgVal_nil, UInt8.toNat_ofNat']
      omega
    · rename_i h
      rw [dgVal_snoc, ih (u / 10) (by omega)]
      simp [UInt8.toNat_ofNat']
      omega
theorem dec_ne (u : Nat) : decDigits u ≠ [] := by
  rw [decDigits]
  split <;> simp
theorem head_app {l : List UInt8} (h : l ≠ []) (m : List UInt8) : (l ++ m).head? = l.head? := by
  cases l with
  | nil => exact absurd rfl h
  | cons c r => rfl
theorem dec_head (u : Nat) : (decDigits u).head? = some 48 → (decDigits u).length = 1 := by
  induction u using Nat.strongRecOn with
  | _ u ih =>
    rw [decDigits]
    split
    · simp
    · rename_i h
      intro e
      rw [head_app (dec_ne _)] at e
      have h1 := ih (u / 10) (by omega) e
      have hv := dec_val (u / 10)
      cases hd : decDigits (u / 10) with
      | nil => exact absurd hd (dec_ne _)
      | cons c r =>
        rw [hd] at h1 e hv
        simp only [List.length_cons] at h1
        have hr : r = [] := List.eq_nil_of_length_eq_zero (by omega)
        subst hr
        simp only [List.head?_cons, Option.some.injEq] at e
        subst e
        simp [dgVal_cons, dgVal_nil] at hv
        omega
theorem dec_plain (u : Nat) : plainD (decDigits u) = true := by
  have h3 := dec_head u
  simp only [plainD, dec_all u, Bool.and_true, Bool.and_eq_true, Bool.not_eq_true', Bool.or_eq_true, bne_iff_ne, beq_iff_eq]
  refine ⟨by simpa using dec_ne u, ?_⟩
  by_cases e : (decDigits u).head? = some 48
  · exact .inr (h3 e)
  · exact .inl e
theorem plain_dec_aux : ∀ (n : Nat) (l : List UInt8), l.length = n → plainD l = true → decDigits (dgVal 0 l) = l := by
  intro n
  induction n with
  | zero =>
    intro l hl h
    exact absurd (List.eq_nil_of_length_eq_zero hl) (plainD_facts h).1
  | succ n ih =>
    intro l hl h
    obtain ⟨hne, hall, h0⟩ := plainD_facts h
    have hsplit := List.dropLast_concat_getLast hne
    generalize l.dropLast = m at hsplit
    generalize l.getLast hne = c at hsplit
    subst hsplit
    rw [List.all_append] at hall
    simp only [List.all_cons, List.all_nil, Bool.and_true, Bool.and_eq_true, dgOk, decide_eq_true_eq] at hall
    have hc := hall.2
    rw [dgVal_snoc]
    have e8 : UInt8.ofNat (48 + (c.toNat - 48)) = c := by
      rw [show 48 + (c.toNat - 48) = c.toNat by omega]
      simp
    by_cases hm : m = []
    · subst hm
      rw [decDigits, dif_pos (by simp [dgVal_nil]; omega)]
      simp [dgVal_nil, e8]
    · have hml : m.length = n := by simp at hl; omega
      have hh : m.head? ≠ some 48 := by
        intro e
        have := h0 (by rw [head_app hm]; exact e)
        simp at this
        exact hm this
      have hmp : plainD m = true := by
        simp only [plainD, Bool.and_eq_true, Bool.not_eq_true', Bool.or_eq_true, bne_iff_ne, beq_iff_eq]
        exact ⟨⟨by simpa using hm, hall.1⟩, .inl hh⟩
      have ihm := ih m hml hmp
      have hpos : 1 ≤ dgVal 0 m := by
        cases m with
        | nil => exact absurd rfl hm
        | cons x r =>
          have hx := hall.1
          simp only [List.all_cons, Bool.and_eq_true, dgOk, decide_eq_true_eq] at hx
          have hx1 : x.toNat ≠ 48 := by
            intro e
            apply hh
            simp only [List.head?_cons, Option.some.injEq]
            have : UInt8.ofNat x.toNat = UInt8.ofNat 48 := by rw [e]
            simpa using this
          have := dgVal_le r (0 * 10 + (x.toNat - 48))
          simp only [dgVal_cons]
          omega
      rw [decDigits, dif_neg (by omega)]
      rw [show (dgVal 0 m * 10 + (c.toNat - 48)) / 10 = dgVal 0 m by omega, show (dgVal 0 m * 10 + (c.toNat - 48)) % 10 = c.toNat - 48 by omega, ihm, e8]
/-- What isNumber asks of a text. -/
def isNumB (l : List UInt8) : Bool := !(trimPrefix l [45]).isEmpty && !((trimPrefix l [45]).head? == some 48 && l != [48]) && (trimPrefix l [45]).all dgOk
theorem trim45 (l : List UInt8) : trimPrefix l [45] = if l.head? = some 45 then l.tail else l := by
  cases l with
  | nil => rfl
  | cons c r =>
    unfold trimPrefix hasPrefix
    by_cases h : c = 45
    · subst h; simp
    · have h2 : ¬ (45 == c) = true := by simpa using fun e => h e.symm
      simp [List.isPrefixOf, h, h2]
theorem isNumB_eq (l : List UInt8) : isNumB l = (numT l).isSome := by
  unfold isNumB numT
  rw [trim45]
  split
  · rename_i h45
    cases l with
    | nil => simp at h45
    | cons c r =>
      simp only [List.head?_cons, Option.some.injEq] at h45
      subst h45
      simp only [List.tail_cons]
      have h48 : ((45 : UInt8) :: r != [48]) = true := by simp
      rw [h48]
      by_cases hh : r.head? = some 48
      · simp [hh]
      · have hh' : (r.head? == some 48) = false := by simpa using hh
        have hh2 : (r.head? != some 48) = true := by simpa using hh
        simp only [plainD, hh', hh2, Bool.and_true, Bool.true_or, Bool.not_false]
        cases (!r.isEmpty && r.all dgOk) <;> rfl
  · rename_i h45
    by_cases hh : l.head? = some 48
    · by_cases hl : l = [48]
      · subst hl; rfl
      · have h1 : (l != [48]) = true := by simpa using hl
        have h2 : (l.length == 1) = false := by
          cases l with
          | nil => rfl
          | cons c r =>
            simp only [List.head?_cons, Option.some.injEq] at hh
            subst hh
            simp only [List.length_cons]
            cases r with
            | nil => exact absurd rfl hl
            | cons d r => simp
        simp [plainD, hh, h1, h2]
    · have hh' : (l.head? == some 48) = false := by simpa using hh
      have hh2 : (l.head? != some 48) = true := by simpa using hh
      have e : (!(false && l != [48])) = true := rfl
      simp only [plainD, hh', hh2, Bool.true_or]
      rw [e, Bool.and_true, Bool.and_true]
      cases (!l.isEmpty && l.all dgOk) <;> rfl
theorem plain_dec {l : List UInt8} (h : plainD l = true) : decDigits (dgVal 0 l) = l := plain_dec_aux _ l rfl h
theorem plain_big {l : List UInt8} (h : plainD l = true) (hl : 12 < l.length) : 1000000000000 ≤ dgVal 0 l := by
  obtain ⟨hne, hall, h0⟩ := plainD_facts h
  cases l with
  | nil => exact absurd rfl hne
  | cons c r =>
    simp only [List.length_cons] at hl
    have hc : c.toNat ≠ 48 := by
      intro e
      have : c = 48 := by
        have : UInt8.ofNat c.toNat = UInt8.ofNat 48 := by rw [e]
        simpa using this
      subst this
      have := h0 rfl
      simp only [List.length_cons] at this
      omega
    have hx := hall
    simp only [List.all_cons, Bool.and_eq_true, dgOk, decide_eq_true_eq] at hx
    have h1 := dgVal_pow r (0 * 10 + (c.toNat - 48))
    have h2 : 10 ^ 12 ≤ 10 ^ r.length := Nat.pow_le_pow_right (by omega) (by omega)
    have h3 : 1 * 10 ^ r.length ≤ (0 * 10 + (c.toNat - 48)) * 10 ^ r.length := Nat.mul_le_mul_right _ (by omega)
    show 1000000000000 ≤ dgVal (0 * 10 + (c.toNat - 48)) r
    omega
/-- The model's reading: digits of at most twelve places, and the number told again is the text. -/
theorem numT_told {t d : List UInt8} {neg : Bool} (ht : t = if neg then 45 :: d else d) (hn : neg = false → t.head? ≠ some 45) (hall : d.all dgOk = true) (hne : d ≠ []) :
    (itoa (if neg then -(dgVal 0 d : Int) else (dgVal 0 d : Int)) = t ↔ numT t = some (if neg then -(dgVal 0 d : Int) else (dgVal 0 d : Int))) := by
  cases neg with
  | true =>
    simp only [if_true] at ht ⊢
    subst ht
    have hN : numT (45 :: d) = if plainD d && (d.head? != some 48) then some (-(dgVal 0 d : Int)) else none := rfl
    rw [hN]
    by_cases h0 : dgVal 0 d = 0
    · have hp : ¬ (plainD d && (d.head? != some 48)) = true := by
        intro h
        simp only [Bool.and_eq_true, bne_iff_ne] at h
        have := plain_dec h.1
        rw [h0] at this
        rw [← this] at h
        exact h.2 (by rw [decDigits_one (by omega)]; rfl)
      rw [if_neg hp, h0]
      constructor
      · intro e; exact absurd e (by simp [itoa, decDigits])
      · intro e; cases e
    · have hi : itoa (-(dgVal 0 d : Int)) = 45 :: decDigits (dgVal 0 d) := by
        unfold itoa
        rw [if_pos (by omega)]
        congr 2
        omega
      rw [hi]
      constructor
      · intro e
        have e2 : decDigits (dgVal 0 d) = d := by simpa using e
        have hp : plainD d = true := by rw [← e2]; exact dec_plain _
        have hh : d.head? ≠ some 48 := by
          intro h48
          have hl := (plainD_facts hp).2.2 h48
          cases d with
          | nil => exact hne rfl
          | cons c r =>
            simp only [List.length_cons] at hl
            have hr : r = [] := List.eq_nil_of_length_eq_zero (by omega)
            subst hr
            simp only [List.head?_cons, Option.some.injEq] at h48
            subst h48
            exact h0 rfl
        rw [if_pos (by simp [hp, hh])]
      · intro e
        by_cases hp : (plainD d && (d.head? != some 48)) = true
        · simp only [Bool.and_eq_true] at hp
          rw [plain_dec hp.1]
        · rw [if_neg hp] at e; cases e
  | false =>
    simp only [Bool.false_eq_true, if_false] at ht ⊢
    subst ht
    have hN : numT t = if plainD t then some (dgVal 0 t : Int) else none := by
      unfold numT
      rw [if_neg (hn rfl)]
    rw [hN]
    have hi : itoa (dgVal 0 t : Int) = decDigits (dgVal 0 t) := by
      unfold itoa
      rw [if_neg (by omega)]
      congr 1
    rw [hi]
    constructor
    · intro e
      rw [if_pos (by rw [← e]; exact dec_plain _)]
    · intro e
      by_cases hp : plainD t = true
      · exact plain_dec hp
      · rw [if_neg hp] at e; cases e
theorem num_none {t d : List UInt8} {neg : Bool} (ht : t = if neg then 45 :: d else d) (hn : neg = false → t.head? ≠ some 45) (h : d.all dgOk = false ∨ d = []) : numT t = none := by
  have hp : plainD d = false := by
    rw [← Bool.not_eq_true]
    intro hp
    obtain ⟨hne, hall, _⟩ := plainD_facts hp
    rcases h with h | h
    · rw [hall] at h; cases h
    · exact hne h
  cases neg with
  | true =>
    simp only [if_true] at ht
    subst ht
    have hN : numT (45 :: d) = if plainD d && (d.head? != some 48) then some (-(dgVal 0 d : Int)) else none := rfl
    rw [hN, hp]
    rfl
  | false =>
    simp only [Bool.false_eq_true, if_false] at ht
    subst ht
    unfold numT
    rw [if_neg (hn rfl), hp]
    rfl
theorem num_val {t d : List UInt8} {neg : Bool} {v : Int} (ht : t = if neg then 45 :: d else d) (hn : neg = false → t.head? ≠ some 45) (hv : numT t = some v) : v = if neg then -(dgVal 0 d : Int) else (dgVal 0 d : Int) := by
  cases neg with
  | true =>
    simp only [if_true] at ht ⊢
    subst ht
    have hN : numT (45 :: d) = if plainD d && (d.head? != some 48) then some (-(dgVal 0 d : Int)) else none := rfl
    rw [hN] at hv
    split at hv
    · exact (Option.some.inj hv).symm
    · cases hv
  | false =>
    simp only [Bool.false_eq_true, if_false] at ht ⊢
    subst ht
    unfold numT at hv
    rw [if_neg (hn rfl)] at hv
    split at hv
    · exact (Option.some.inj hv).symm
    · cases hv
theorem num_big {t d : List UInt8} {neg : Bool} {v : Int} (ht : t = if neg then 45 :: d else d) (hn : neg = false → t.head? ≠ some 45) (h : 12 < d.length) (hv : numT t = some v) : v ≤ -1000000000000 ∨ 1000000000000 ≤ v := by
  cases neg with
  | true =>
    simp only [if_true] at ht
    subst ht
    have hN : numT (45 :: d) = if plainD d && (d.head? != some 48) then some (-(dgVal 0 d : Int)) else none := rfl
    rw [hN] at hv
    split at hv
    · rename_i hp
      simp only [Bool.and_eq_true] at hp
      have := plain_big hp.1 h
      cases hv
      omega
    · cases hv
  | false =>
    simp only [Bool.false_eq_true, if_false] at ht
    subst ht
    unfold numT at hv
    rw [if_neg (hn rfl)] at hv
    split at hv
    · rename_i hp
      have := plain_big hp h
      cases hv
      omega
    · cases hv
end Go.Proofs.YtcdebinldmblkaaGreatDoor
namespace Go.Proofs.YtcdebinldmblkaaGreatDoor
open Go.Shelf Go.RowKit Go.Lib
def laysC174_ren : Go.Shelf.Ren := ⟨fun | 174 => 94 | 247 => 103 | 245 => 104 | 287 => 127 | 279 => 128 | 280 => 129 | 281 => 130 | 282 => 131 | 321 => 142 | 322 => 143 | 316 => 81 | 171 => 145 | 205 => 144 | 243 => 150 | 246 => 85 | 283 => 95 | 284 => 96 | 285 => 97 | 286 => 98 | 129 => 106 | 317 => 105 | 318 => 107 | 319 => 108 | 320 => 109 | 337 => 132 | 338 => 133 | n => n, fun | 9 => 9 | 3 => 3 | 2 => 2 | 75 => 129 | 85 => 130 | 4 => 4 | 167 => 159 | 5 => 5 | 53 => 133 | 175 => 160 | 46 => 149 | 168 => 162 | 37 => 73 | 0 => 0 | 210 => 174 | 21 => 21 | 127 => 125 | 145 => 182 | 143 => 180 | 171 => 132 | 173 => 136 | 212 => 145 | 51 => 146 | 20 => 20 | 213 => 147 | 232 => 176 | 233 => 177 | 80 => 188 | n => n, fun | 15 => 3 | 16 => 4 | 17 => 2 | 18 => 5 | 19 => 6 | n => n⟩
theorem laysC174 : Go.Proofs.LaysC.n174 Tryz.prog laysC174_ren := {
  mixed := by kernel_rfl
  f129 := Tryz.func106.trans (congrArg some (by kernel_rfl))
  f171 := Tryz.func145.trans (congrArg some (by kernel_rfl))
  f174 := Tryz.func94.trans (congrArg some (by kernel_rfl))
  f205 := Tryz.func144.trans (congrArg some (by kernel_rfl))
  f243 := Tryz.func150.trans (congrArg some (by kernel_rfl))
  f245 := Tryz.func104.trans (congrArg some (by kernel_rfl))
  f246 := Tryz.func85.trans (congrArg some (by kernel_rfl))
  f247 := Tryz.func103.trans (congrArg some (by kernel_rfl))
  f279 := Tryz.func128.trans (congrArg some (by kernel_rfl))
  f280 := Tryz.func129.trans (congrArg some (by kernel_rfl))
  f281 := Tryz.func130.trans (congrArg some (by kernel_rfl))
  f282 := Tryz.func131.trans (congrArg some (by kernel_rfl))
  f283 := Tryz.func95.trans (congrArg some (by kernel_rfl))
  f284 := Tryz.func96.trans (congrArg some (by kernel_rfl))
  f285 := Tryz.func97.trans (congrArg some (by kernel_rfl))
  f286 := Tryz.func98.trans (congrArg some (by kernel_rfl))
  f287 := Tryz.func127.trans (congrArg some (by kernel_rfl))
  f316 := Tryz.func81.trans (congrArg some (by kernel_rfl))
  f317 := Tryz.func105.trans (congrArg some (by kernel_rfl))
  f318 := Tryz.func107.trans (congrArg some (by kernel_rfl))
  f319 := Tryz.func108.trans (congrArg some (by kernel_rfl))
  f320 := Tryz.func109.trans (congrArg some (by kernel_rfl))
  f321 := Tryz.func142.trans (congrArg some (by kernel_rfl))
  f322 := Tryz.func143.trans (congrArg some (by kernel_rfl))
  f337 := Tryz.func132.trans (congrArg some (by kernel_rfl))
  f338 := Tryz.func133.trans (congrArg some (by kernel_rfl))
  t0 := Tryz.underlying0
  a0 := Tryz.isAgg0
  z0 := Tryz.sizeOf0
  v0 := Tryz.zeroValue0
  t2 := Tryz.underlying2
  a2 := Tryz.isAgg2
  z2 := Tryz.sizeOf2
  v2 := Tryz.zeroValue2
  t3 := Tryz.underlying3
  a3 := Tryz.isAgg3
  z3 := Tryz.sizeOf3
  v3 := Tryz.zeroValue3
  t4 := Tryz.underlying4
  a4 := Tryz.isAgg4
  z4 := Tryz.sizeOf4
  v4 := Tryz.zeroValue4
  t5 := Tryz.underlying5
  a5 := Tryz.isAgg5
  z5 := Tryz.sizeOf5
  v5 := Tryz.zeroValue5
  t9 := Tryz.underlying9
  a9 := Tryz.isAgg9
  z9 := Tryz.sizeOf9
  v9 := Tryz.zeroValue9
  t20 := Tryz.underlying20
  a20 := Tryz.isAgg20
  z20 := Tryz.sizeOf20
  v20 := Tryz.zeroValue20
  t21 := Tryz.underlying21
  a21 := Tryz.isAgg21
  z21 := Tryz.sizeOf21
  v21 := Tryz.zeroValue21
  t37 := Tryz.underlying73
  a37 := Tryz.isAgg73
  z37 := Tryz.sizeOf73
  v37 := Tryz.zeroValue73
  t46 := Tryz.underlying149
  a46 := Tryz.isAgg149
  z46 := Tryz.sizeOf149
  v46 := Tryz.zeroValue149
  t51 := Tryz.underlying146
  a51 := Tryz.isAgg146
  z51 := Tryz.sizeOf146
  v51 := Tryz.zeroValue146
  t53 := Tryz.underlying133
  a53 := Tryz.isAgg133
  z53 := Tryz.sizeOf133
  v53 := Tryz.zeroValue133
  t75 := Tryz.underlying129
  a75 := Tryz.isAgg129
  z75 := Tryz.sizeOf129
  v75 := Tryz.zeroValue129
  t85 := Tryz.underlying130
  a85 := Tryz.isAgg130
  z85 := Tryz.sizeOf130
  v85 := Tryz.zeroValue130
  t127 := Tryz.underlying125
  a127 := Tryz.isAgg125
  z127 := Tryz.sizeOf125
  v127 := Tryz.zeroValue125
  t143 := Tryz.underlying180
  a143 := Tryz.isAgg180
  z143 := Tryz.sizeOf180
  v143 := Tryz.zeroValue180
  t145 := Tryz.underlying182
  a145 := Tryz.isAgg182
  z145 := Tryz.sizeOf182
  v145 := Tryz.zeroValue182
  t167 := Tryz.underlying159
  a167 := Tryz.isAgg159
  z167 := Tryz.sizeOf159
  v167 := Tryz.zeroValue159
  t168 := Tryz.underlying162
  a168 := Tryz.isAgg162
  z168 := Tryz.sizeOf162
  v168 := Tryz.zeroValue162
  t171 := Tryz.underlying132
  a171 := Tryz.isAgg132
  z171 := Tryz.sizeOf132
  v171 := Tryz.zeroValue132
  t173 := Tryz.underlying136
  a173 := Tryz.isAgg136
  z173 := Tryz.sizeOf136
  v173 := Tryz.zeroValue136
  t175 := Tryz.underlying160
  a175 := Tryz.isAgg160
  z175 := Tryz.sizeOf160
  v175 := Tryz.zeroValue160
  t210 := Tryz.underlying174
  a210 := Tryz.isAgg174
  z210 := Tryz.sizeOf174
  v210 := Tryz.zeroValue174
  t212 := Tryz.underlying145
  a212 := Tryz.isAgg145
  z212 := Tryz.sizeOf145
  v212 := Tryz.zeroValue145
  t213 := Tryz.underlying147
  a213 := Tryz.isAgg147
  z213 := Tryz.sizeOf147
  t232 := Tryz.underlying176
  a232 := Tryz.isAgg176
  z232 := Tryz.sizeOf176
  v232 := Tryz.zeroValue176
  t233 := Tryz.underlying177
  a233 := Tryz.isAgg177
  z233 := Tryz.sizeOf177
  v233 := Tryz.zeroValue177
  g15 := by kernel_rfl
  g16 := by kernel_rfl
  g17 := by kernel_rfl
  g18 := by kernel_rfl
  g19 := by kernel_rfl
  t80 := Tryz.underlying188
  a80 := Tryz.isAgg188
  z80 := Tryz.sizeOf188
  v80 := Tryz.zeroValue188
  i0 := by kernel_rfl
  i2 := by kernel_rfl
  i3 := by kernel_rfl
  i4 := by kernel_rfl
  i5 := by kernel_rfl
  i9 := by kernel_rfl
  i20 := by kernel_rfl
  i21 := by kernel_rfl
  i37 := by kernel_rfl
  i46 := by kernel_rfl
  i51 := by kernel_rfl
  i53 := by kernel_rfl
  i75 := by kernel_rfl
  i80 := by kernel_rfl
  i85 := by kernel_rfl
  i127 := by kernel_rfl
  i143 := by kernel_rfl
  i145 := by kernel_rfl
  i167 := by kernel_rfl
  i168 := by kernel_rfl
  i171 := by kernel_rfl
  i173 := by kernel_rfl
  i175 := by kernel_rfl
  i210 := by kernel_rfl
  i212 := by kernel_rfl
  i232 := by kernel_rfl
  i233 := by kernel_rfl
  m15 := by kernel_rfl
  m16 := by kernel_rfl
  m17 := by kernel_rfl
  m18 := by kernel_rfl
  m19 := by kernel_rfl
  c0 := by kernel_rfl
  c2 := by kernel_rfl
  c3 := by kernel_rfl
  c4 := by kernel_rfl
  c5 := by kernel_rfl
  c9 := by kernel_rfl
  c20 := by kernel_rfl
  c21 := by kernel_rfl
  c37 := by kernel_rfl
  c46 := by kernel_rfl
  c51 := by kernel_rfl
  c53 := by kernel_rfl
  c75 := by kernel_rfl
  c80 := by kernel_rfl
  c85 := by kernel_rfl
  c127 := by kernel_rfl
  c143 := by kernel_rfl
  c145 := by kernel_rfl
  c167 := by kernel_rfl
  c168 := by kernel_rfl
  c171 := by kernel_rfl
  c173 := by kernel_rfl
  c175 := by kernel_rfl
  c210 := by kernel_rfl
  c212 := by kernel_rfl
  c213 := by kernel_rfl
  c232 := by kernel_rfl
  c233 := by kernel_rfl }
def lays101_ren : Go.Shelf.Ren := ⟨fun | 101 => 125 | 208 => 140 | 206 => 149 | n => n, fun | 9 => 9 | 4 => 4 | 3 => 3 | n => n, fun | n => n⟩
theorem lays101 : Go.Proofs.Lays.n101 Tryz.prog lays101_ren := {
  mixed := by kernel_rfl
  f101 := Tryz.func125.trans (congrArg some (by kernel_rfl))
  f206 := Tryz.func149.trans (congrArg some (by kernel_rfl))
  f208 := Tryz.func140.trans (congrArg some (by kernel_rfl))
  t3 := Tryz.underlying3
  a3 := Tryz.isAgg3
  z3 := Tryz.sizeOf3
  v3 := Tryz.zeroValue3
  t4 := Tryz.underlying4
  a4 := Tryz.isAgg4
  z4 := Tryz.sizeOf4
  v4 := Tryz.zeroValue4
  t9 := Tryz.underlying9
  a9 := Tryz.isAgg9
  z9 := Tryz.sizeOf9
  v9 := Tryz.zeroValue9 }
end Go.Proofs.YtcdebinldmblkaaGreatDoor
namespace Go.Proofs.YtcdebinldmblkaaGreatDoor
open Go.RowKit
theorem twice (w : World) (b o : Nat) (v v' : Value) : (w.setCell ⟨b, o, none⟩ v).setCell ⟨b, o, none⟩ v' = w.setCell ⟨b, o, none⟩ v' := by
  have hw : ∀ (W : World) (h h' : Array Obj), h = h' → ({ W with heap := h } : World) = { W with heap := h' } := by
    intro W h h' e
    rw [e]
  unfold World.setCell
  refine hw w _ _ ?_
  apply Array.ext_getElem?
  intro i
  simp only [Array.getElem?_modify]
  split
  · cases w.heap[i]? with
    | none => rfl
    | some x => cases x <;> simp
  · rfl
/-- All that lay in w lies in w' as it lay, but for block B. -/
structure Keep (B : Nat) (w w' : World) : Prop where
  os : w'.os = w.os
  tape : w'.tape = w.tape
  output : w'.output = w.output
  size : w.heap.size ≤ w'.heap.size
  block : ∀ k, k < w.heap.size → k ≠ B → w'.heap[k]? = w.heap[k]?
theorem Keep.refl (B : Nat) (w : World) : Keep B w w := ⟨rfl, rfl, rfl, Nat.le_refl _, fun _ _ _ => rfl⟩
theorem Keep.trans {B : Nat} {a b c : World} (h : Keep B a b) (k : Keep B b c) : Keep B a c :=
  ⟨k.os.trans h.os, k.tape.trans h.tape, k.output.trans h.output, Nat.le_trans h.size k.size, fun j hj hB => (k.block j (Nat.lt_of_lt_of_le hj h.size) hB).trans (h.block j hj hB)⟩
theorem Keep.drew {B : Nat} {a w : World} (h : Keep B a w) : Keep B a w.drew := ⟨h.os, h.tape, h.output, h.size, h.block⟩
theorem Keep.drewN {B : Nat} {a w : World} (h : Keep B a w) (n : Nat) : Keep B a (w.drewN n) := h.trans ⟨rfl, rfl, rfl, Nat.le_refl _, fun _ _ _ => rfl⟩
theorem Keep.setCell {B : Nat} {a w : World} (h : Keep B a w) (o : Nat) (u : Value) : Keep B a (w.setCell ⟨B, o, none⟩ u) :=
  h.trans ⟨rfl, rfl, rfl, by simp, fun k _ hB => Below.heap_setCell w ⟨B, o, none⟩ u k hB⟩
theorem Keep.of_below {B : Nat} {w w' : World} (h : Below w.heap.size w w') : Keep B w w' := ⟨h.os, h.tape, h.output, h.size, fun k hk _ => h.block k hk⟩
theorem Keep.alloc {B : Nat} {a w : World} (h : Keep B a w) (o : Obj) : Keep B a (w.alloc o) := h.trans (Keep.of_below ((Below.refl _ _).alloc (Nat.le_refl _) o))
theorem Keep.below {B N : Nat} {w w' : World} (h : Keep B w w') (hB : N ≤ B) (hN : N ≤ w.heap.size) : Below N w w' :=
  ⟨h.os, h.tape, h.output, h.size, fun k hk => h.block k (by omega) (by omega)⟩
theorem Keep.setNew {B : Nat} {a w : World} (h : Keep B a w) (b o : Nat) (hb : a.heap.size ≤ b) (u : Value) : Keep B a (w.setCell ⟨b, o, none⟩ u) :=
  ⟨h.os, h.tape, h.output, by simpa using h.size, fun k hk hB => (Below.heap_setCell w ⟨b, o, none⟩ u k (show k ≠ b by omega)).trans (h.block k hk hB)⟩
theorem cell_lt {w : World} {b o : Nat} {v : Value} (h : w.cell? ⟨b, o, none⟩ = some v) : b < w.heap.size := by
  rcases Nat.lt_or_ge b w.heap.size with g | g
  · exact g
  · simp [World.cell?, Array.getElem?_eq_none g] at h
theorem Keep.cell {B : Nat} {w w' : World} (h : Keep B w w') {b o : Nat} {v : Value} (hc : w.cell? ⟨b, o, none⟩ = some v) (hB : b ≠ B) : w'.cell? ⟨b, o, none⟩ = some v :=
  (World.cell?_of_block (w := w) (h.block b (cell_lt hc) hB)).trans hc
theorem Keep.frozen {B : Nat} {w w' : World} (h : Keep B w w') {b : Nat} (hb : b < w.heap.size) (o : Nat) (hB : b ≠ B) : w'.frozen? ⟨b, o, none⟩ = w.frozen? ⟨b, o, none⟩ :=
  World.frozen?_of_block (w := w) (h.block b hb hB)
theorem box4 {w W : World} {t : Nat} {a b c d : Int} (hb : Below (w.heap.size + 1) (w.alloc (.cells #[.int .i64 a, .int .i64 b, .int .i64 c, .int .i64 d] t)) W) :
    W.cell? ⟨w.heap.size, 0, none⟩ = some (.int .i64 a) ∧ W.cell? ⟨w.heap.size, 1, none⟩ = some (.int .i64 b) ∧ W.cell? ⟨w.heap.size, 2, none⟩ = some (.int .i64 c) ∧ W.cell? ⟨w.heap.size, 3, none⟩ = some (.int .i64 d) ∧ w.heap.size + 1 ≤ W.heap.size :=
  ⟨(hb.cell (p := ⟨w.heap.size, 0, none⟩) (Nat.lt_succ_self _)).trans (by simp [go_sem]), (hb.cell (p := ⟨w.heap.size, 1, none⟩) (Nat.lt_succ_self _)).trans (by simp [go_sem]), (hb.cell (p := ⟨w.heap.size, 2, none⟩) (Nat.lt_succ_self _)).trans (by simp [go_sem]), (hb.cell (p := ⟨w.heap.size, 3, none⟩) (Nat.lt_succ_self _)).trans (by simp [go_sem]), by have := hb.size; simpa using this⟩
theorem heap_new2 (w : World) (o o' : Obj) : ((w.alloc o).alloc o').heap[w.heap.size + 1]? = some o' := by
  have := World.alloc_heap_new (w.alloc o) o'
  rwa [World.size_alloc] at this
end Go.Proofs.YtcdebinldmblkaaGreatDoor
namespace Go.Proofs.YtcdebinldmblkaaGreatDoor
open Go.ChangeShapes Go.WideShapes Go.ChangeAt Go.RowKit
theorem ret_bool {a b : Bool} (h : a = b) : Ending.returned (.bool a) = .returned (.bool b) := by rw [h]
theorem ret_str {x y : ByteArray} (h : x = y) : Ending.returned (.string x) = .returned (.string y) := by rw [h]
end Go.Proofs.YtcdebinldmblkaaGreatDoor
namespace Go.Proofs.YtcdebinldmblkaaGreatDoor
open Go.RowKit
/-- The byte of a text at a place, as a number; 0 beyond its end. -/
def byt (s : ByteArray) (i : Nat) : Int := ((s.data.toList[i]?.getD 0).toNat : Int)
theorem byt_bd (s : ByteArray) (i : Nat) : 0 ≤ byt s i ∧ byt s i ≤ 255 := by
  have := (s.data.toList[i]?.getD 0).toNat_lt
  unfold byt
  omega
theorem byt_raw (s : ByteArray) (i : Nat) (h : i < s.size) : ((s[i]'h).toNat : Int) = byt s i := by
  unfold byt
  have h' : i < s.data.toList.length := by simpa using h
  rw [List.getElem?_eq_getElem h']
  rfl
theorem byt_get (s : ByteArray) (i : Nat) (h : i < s.size) : wrap64 ((s[i]'h).toNat : Int) = byt s i := by
  have := (s[i]'h).toNat_lt
  rw [byt_raw]
  have := byt_bd s i
  unfold wrap64
  omega
theorem byt_ext (s : ByteArray) (a b i : Nat) (h : i < (s.extract a b).size) : byt (s.extract a b) i = byt s (a + i) := by
  unfold byt
  have h2 : i < ((s.data.toList.drop a).take (b - a)).length := by
    have h3 : (s.extract a b).data.toList.length = (s.extract a b).size := rfl
    rw [Lib.extract_data] at h3
    omega
  rw [Lib.extract_data, List.getElem?_take_of_lt (by simp at h2; omega), List.getElem?_drop]
theorem byt_get_ext (s : ByteArray) (a b i : Nat) (h : i < (s.extract a b).size) : wrap64 (((s.extract a b)[i]'h).toNat : Int) = byt s (a + i) := by
  rw [byt_get _ _ h, byt_ext s a b i h]
/-- The first three bytes, as far as they go, are those of the word. -/
def preB (s : ByteArray) : Bool := (decide (s.size ≤ 0) || byt s 0 == 83) && ((decide (s.size ≤ 1) || byt s 1 == 89) && (decide (s.size ≤ 2) || byt s 2 == 78))
theorem u8eq (x : UInt8) (n : Nat) (h : n < 256) : (x == UInt8.ofNat n) = ((x.toNat : Int) == (n : Int)) := by
  rw [Bool.eq_iff_iff, beq_iff_eq, beq_iff_eq]
  constructor
  · intro e; subst e; simp; omega
  · intro e
    have : x.toNat = n := by omega
    rw [← this]; simp
theorem szl (l : List UInt8) : (⟨⟨l⟩⟩ : ByteArray).size = l.length := rfl
theorem pre3 (s : ByteArray) (h : 3 ≤ s.size) : (!((s.extract 0 3).toList == ((⟨#[83, 89, 78]⟩ : ByteArray).extract 0 3).toList)) = !preB s := by
  rw [Lib.extract_toList, Lib.extract_toList]
  obtain ⟨⟨l⟩⟩ := s
  rw [szl] at h
  unfold preB
  rw [szl]
  rcases l with _ | ⟨x, _ | ⟨y, _ | ⟨z, t⟩⟩⟩
  · simp at h
  · simp at h
  · simp at h
  · have e1 := u8eq x 83 (by omega)
    have e2 := u8eq y 89 (by omega)
    have e3 := u8eq z 78 (by omega)
    simp [byt] at e1 e2 e3 ⊢
    simp [e1, e2, e3]
theorem pre2 (s : ByteArray) (h : s.size ≤ 3) : (!(s.toList == ((⟨#[83, 89, 78]⟩ : ByteArray).extract 0 s.size).toList)) = !preB s := by
  rw [Lib.toList_data, Lib.extract_toList]
  obtain ⟨⟨l⟩⟩ := s
  rw [szl] at h
  unfold preB
  rw [szl]
  rcases l with _ | ⟨x, _ | ⟨y, _ | ⟨z, t⟩⟩⟩
  · simp
  · have e1 := u8eq x 83 (by omega)
    simp [byt] at e1 ⊢
    simp [e1]
  · have e1 := u8eq x 83 (by omega)
    have e2 := u8eq y 89 (by omega)
    simp [byt] at e1 e2 ⊢
    simp [e1, e2]
  · have e1 := u8eq x 83 (by omega)
    have e2 := u8eq y 89 (by omega)
    have e3 := u8eq z 78 (by omega)
    have ht : t = [] := by
      rcases t with _ | ⟨u, t⟩
      · rfl
      · simp at h
    subst ht
    simp [byt] at e1 e2 e3 ⊢
    simp [e1, e2, e3]
end Go.Proofs.YtcdebinldmblkaaGreatDoor
