/- Plain lemmas on numbers in texts: what a numeral without a nought ahead spells, how a number is told, how the library's reading ends at a numeral; nothing of the program is used. -/
import Derived.Lib.ParseIntB
import Derived.Lib.ItoaNum
import Derived.Lib.Strings
namespace Go.Proofs.YtphgheojfnlgjaaDoor
open Go.Lib
def dgOk (c : UInt8) : Bool := decide (48 ≤ c.toNat ∧ c.toNat ≤ 57)
/-- What digits spell, behind n. -/
def dgVal (n : Nat) : List UInt8 → Nat
  | [] => n
  | c :: r => dgVal (n * 10 + (c.toNat - 48)) r
def plainD (l : List UInt8) : Bool := !l.isEmpty && l.all dgOk && (l.head? != some 48 || l.length == 1)
/-- The number that a text tells, if it tells one. -/
def numT (l : List UInt8) : Option Int :=
  if l.head? = some 45 then (if plainD l.tail && (l.tail.head? != some 48) then some (-(dgVal 0 l.tail : Int)) else none)
  else if plainD l then some (dgVal 0 l : Int) else none
theorem dgVal_nil (n : Nat) : dgVal n [] = n := by rw [dgVal.eq_def]
theorem dgVal_cons (n : Nat) (c : UInt8) (r : List UInt8) : dgVal n (c :: r) = dgVal (n * 10 + (c.toNat - 48)) r := by rw [dgVal.eq_def]
theorem dgVal_snoc (l : List UInt8) (c : UInt8) : ∀ n, dgVal n (l ++ [c]) = dgVal n l * 10 + (c.toNat - 48) := by
  induction l with
  | nil => intro n; rw [List.nil_append, dgVal_cons, dgVal_nil, dgVal_nil]
  | cons x l ih => intro n; rw [List.cons_append, dgVal_cons, dgVal_cons, ih]
theorem dgVal_le (l : List UInt8) : ∀ n, n ≤ dgVal n l := by
  induction l with
  | nil => intro n; exact Nat.le_refl _
  | cons x l ih =>
    intro n
    have h := ih (n * 10 + (x.toNat - 48))
    show n ≤ dgVal (n * 10 + (x.toNat - 48)) l
    omega
theorem dgVal_pow (l : List UInt8) : ∀ n, n * 10 ^ l.length ≤ dgVal n l := by
  induction l with
  | nil => intro n; simp [dgVal_nil]
  | cons x l ih =>
    intro n
    simp only [dgVal_cons, List.length_cons, Nat.pow_succ]
    refine Nat.le_trans ?_ (ih _)
    rw [Nat.add_mul, Nat.mul_comm (10 ^ l.length) 10, ← Nat.mul_assoc]
    exact Nat.le_add_right _ _
theorem dgVal_lt (l : List UInt8) (h : l.all dgOk = true) : ∀ n, dgVal n l < (n + 1) * 10 ^ l.length := by
  induction l with
  | nil => intro n; simp [dgVal_nil]
  | cons x l ih =>
    intro n
    simp only [List.all_cons, Bool.and_eq_true] at h
    simp only [dgVal_cons, List.length_cons, Nat.pow_succ]
    have hx : x.toNat ≤ 57 := by have := h.1; simp [dgOk] at this; exact this.2
    refine Nat.lt_of_lt_of_le (ih h.2 _) ?_
    rw [Nat.mul_comm (10 ^ l.length) 10, ← Nat.mul_assoc]
    exact Nat.mul_le_mul_right _ (by omega)
theorem parseM_ok (l : List UInt8) (h : l.all dgOk = true) : ∀ n, dgVal n l ≤ 18446744073709551615 → parseUintM 18446744073709551615 n l = .ok (dgVal n l) := by
  induction l with
  | nil => intro n hn; rfl
  | cons x l ih =>
    intro n hn
    simp only [List.all_cons, Bool.and_eq_true] at h
    have hx := h.1
    simp only [dgOk, decide_eq_true_eq] at hx
    have hm := dgVal_le l (n * 10 + (x.toNat - 48))
    have hn' : dgVal (n * 10 + (x.toNat - 48)) l ≤ 18446744073709551615 := hn
    unfold parseUintM
    rw [if_pos hx, if_neg (by omega), if_neg (by omega)]
    exact ih h.2 _ hn'
theorem parseM_range (l : List UInt8) (h : l.all dgOk = true) : ∀ n, n ≤ 18446744073709551615 → 18446744073709551615 < dgVal n l → parseUintM 18446744073709551615 n l = .range := by
  induction l with
  | nil =>
    intro n hn hd
    have : 18446744073709551615 < n := hd
    omega
  | cons x l ih =>
    intro n hn hd
    simp only [List.all_cons, Bool.and_eq_true] at h
    have hx := h.1
    simp only [dgOk, decide_eq_true_eq] at hx
    unfold parseUintM
    rw [if_pos hx]
    by_cases h1 : 1844674407370955162 ≤ n
    · rw [if_pos h1]
    · rw [if_neg h1]
      by_cases h2 : 18446744073709551615 < n * 10 + (x.toNat - 48)
      · rw [if_pos h2]
      · rw [if_neg h2]
        exact ih h.2 _ (by omega) hd
theorem parseU_ok (l : List UInt8) (h : l.all dgOk = true) (hne : l ≠ []) (hb : dgVal 0 l ≤ 18446744073709551615) : parseUintB 64 l = .ok (dgVal 0 l) := by
  unfold parseUintB
  rw [if_neg hne]
  exact parseM_ok l h 0 hb
theorem parseU_range (l : List UInt8) (h : l.all dgOk = true) (hne : l ≠ []) (hb : 18446744073709551615 < dgVal 0 l) : parseUintB 64 l = .range := by
  unfold parseUintB
  rw [if_neg hne]
  exact parseM_range l h 0 (by omega) hb
theorem plainD_facts {l : List UInt8} (h : plainD l = true) : l ≠ [] ∧ l.all dgOk = true ∧ (l.head? = some 48 → l.length = 1) := by
  simp only [plainD, Bool.and_eq_true, Bool.not_eq_true', Bool.or_eq_true, bne_iff_ne, beq_iff_eq] at h
  obtain ⟨⟨h1, h2⟩, h3⟩ := h
  refine ⟨fun e => by subst e; simp at h1, h2, fun e => ?_⟩
  rcases h3 with h3 | h3
  · exact absurd e h3
  · exact h3
theorem parse_neg (r : List UInt8) (u : Nat) (h : parseUintB 64 r = .ok u) : parseIntB 64 (45 :: r) = if 9223372036854775808 < u then .range else .ok (-(u : Int)) := by
  have e : (if (45 : UInt8).toNat = 43 ∨ (45 : UInt8).toNat = 45 then r else 45 :: r) = r := rfl
  unfold parseIntB
  dsimp only
  rw [e, h]
  dsimp only
  rw [if_neg (fun x => x.1 rfl)]
  by_cases hu : 9223372036854775808 < u
  · rw [if_pos hu, if_pos ⟨rfl, hu⟩]
  · rw [if_neg hu, if_neg (fun x => hu x.2), if_pos (show (45 : UInt8).toNat = 45 from rfl)]
theorem parse_neg_range (r : List UInt8) (h : parseUintB 64 r = .range) : parseIntB 64 (45 :: r) = .range := by
  have e : (if (45 : UInt8).toNat = 43 ∨ (45 : UInt8).toNat = 45 then r else 45 :: r) = r := rfl
  unfold parseIntB
  dsimp only
  rw [e, h]
theorem parse_pos (c : UInt8) (r : List UInt8) (u : Nat) (hc : 48 ≤ c.toNat) (h : parseUintB 64 (c :: r) = .ok u) : parseIntB 64 (c :: r) = if 9223372036854775808 ≤ u then .range else .ok (u : Int) := by
  unfold parseIntB
  dsimp only
  rw [if_neg (by omega), h]
  dsimp only
  have hn : ¬ c.toNat = 45 := by omega
  by_cases hu : 9223372036854775808 ≤ u
  · rw [if_pos hu, if_pos ⟨hn, hu⟩]
  · rw [if_neg hu, if_neg (fun x => hu x.2), if_neg (fun x => hn x.1), if_neg hn]
theorem parse_pos_range (c : UInt8) (r : List UInt8) (hc : 48 ≤ c.toNat) (h : parseUintB 64 (c :: r) = .range) : parseIntB 64 (c :: r) = .range := by
  unfold parseIntB
  dsimp only
  rw [if_neg (by omega), h]
theorem numT_parse {l : List UInt8} {v : Int} (h : numT l = some v) : (-9223372036854775808 ≤ v ∧ v ≤ 9223372036854775807 ∧ parseIntB 64 l = .ok v) ∨ ((v < -9223372036854775808 ∨ 9223372036854775807 < v) ∧ parseIntB 64 l = .range) := by
  unfold numT at h
  split at h
  · rename_i h45
    split at h
    · rename_i hp
      simp only [Option.some.injEq] at h
      cases l with
      | nil => simp at h45
      | cons c r =>
        simp only [List.head?_cons, Option.some.injEq] at h45
        subst h45
        simp only [List.tail_cons, Bool.and_eq_true] at hp h
        obtain ⟨hne, hall, _⟩ := plainD_facts hp.1
        subst h
        by_cases hb : dgVal 0 r ≤ 18446744073709551615
        · rw [parse_neg r _ (parseU_ok r hall hne hb)]
          by_cases hc : 9223372036854775808 < dgVal 0 r
          · rw [if_pos hc]; exact .inr ⟨.inl (by omega), rfl⟩
          · rw [if_neg hc]; exact .inl ⟨by omega, by omega, rfl⟩
        · rw [parse_neg_range r (parseU_range r hall hne (by omega))]
          exact .inr ⟨.inl (by omega), rfl⟩
    · cases h
  · rename_i h45
    split at h
    · rename_i hp
      simp only [Option.some.injEq] at h
      obtain ⟨hne, hall, _⟩ := plainD_facts hp
      subst h
      cases l with
      | nil => exact absurd rfl hne
      | cons c r =>
        have hc : 48 ≤ c.toNat ∧ c.toNat ≤ 57 := by
          have := hall
          simp only [List.all_cons, Bool.and_eq_true, dgOk, decide_eq_true_eq] at this
          exact this.1
        by_cases hb : dgVal 0 (c :: r) ≤ 18446744073709551615
        · rw [parse_pos c r _ hc.1 (parseU_ok _ hall hne hb)]
          by_cases hc2 : 9223372036854775808 ≤ dgVal 0 (c :: r)
          · rw [if_pos hc2]; exact .inr ⟨.inr (by omega), rfl⟩
          · rw [if_neg hc2]; exact .inl ⟨by omega, by omega, rfl⟩
        · rw [parse_pos_range c r hc.1 (parseU_range _ hall hne (by omega))]
          exact .inr ⟨.inr (by omega), rfl⟩
    · cases h
theorem dec_all (u : Nat) : (decDigits u).all dgOk = true := by
  induction u using Nat.strongRecOn with
  | _ u ih =>
    rw [decDigits]
    split
    · rename_i h
      simp [dgOk, UInt8.toNat_ofNat']
      omega
    · rename_i h
      rw [List.all_append, ih (u / 10) (by omega)]
      simp [dgOk, UInt8.toNat_ofNat']
      omega
theorem dec_val (u : Nat) : dgVal 0 (decDigits u) = u := by
  induction u using Nat.strongRecOn with
  | _ u ih =>
    rw [decDigits]
    split
    · rename_i h
      simp [dgVal_cons, dgVal_nil, UInt8.toNat_ofNat']
      omega
    · rename_i h
      rw [dgVal_snoc, ih (u / 10) (by omega)]
      simp [UInt8.toNat_ofNat']
      omega
theorem dec_ne (u : Nat) : decDigits u ≠ [] := by
  rw [decDigits]
  split <;> simp
theorem head_app {l : List UInt8} (h : l ≠ []) (m : List UInt8) : (l ++ m).head? = l.head? := by
  cases l with
  | nil => exact absurd rfl h
  | cons c r => rfl
theorem dec_head (u : Nat) : (decDigits u).head? = some 48 → (decDigits u).length = 1 := by
  induction u using Nat.strongRecOn with
  | _ u ih =>
    rw [decDigits]
    split
    · simp
    · rename_i h
      intro e
      rw [head_app (dec_ne _)] at e
      have h1 := ih (u / 10) (by omega) e
      have hv := dec_val (u / 10)
      cases hd : decDigits (u / 10) with
      | nil => exact absurd hd (dec_ne _)
      | cons c r =>
        rw [hd] at h1 e hv
        simp only [List.length_cons] at h1
        have hr : r = [] := List.eq_nil_of_length_eq_zero (by omega)
        subst hr
        simp only [List.head?_cons, Option.some.injEq] at e
        subst e
        simp [dgVal_cons, dgVal_nil] at hv
        omega
theorem dec_plain (u : Nat) : plainD (decDigits u) = true := by
  have h3 := dec_head u
  simp only [plainD, dec_all u, Bool.and_true, Bool.and_eq_true, Bool.not_eq_true', Bool.or_eq_true, bne_iff_ne, beq_iff_eq]
  refine ⟨by simpa using dec_ne u, ?_⟩
  by_cases e : (decDigits u).head? = some 48
  · exact .inr (h3 e)
  · exact .inl e
theorem plain_dec_aux : ∀ (n : Nat) (l : List UInt8), l.length = n → plainD l = true → decDigits (dgVal 0 l) = l := by
  intro n
  induction n with
  | zero =>
    intro l hl h
    exact absurd (List.eq_nil_of_length_eq_zero hl) (plainD_facts h).1
  | succ n ih =>
    intro l hl h
    obtain ⟨hne, hall, h0⟩ := plainD_facts h
    have hsplit := List.dropLast_concat_getLast hne
    generalize l.dropLast = m at hsplit
    generalize l.getLast hne = c at hsplit
    subst hsplit
    rw [List.all_append] at hall
    simp only [List.all_cons, List.all_nil, Bool.and_true, Bool.and_eq_true, dgOk, decide_eq_true_eq] at hall
    have hc := hall.2
    rw [dgVal_snoc]
    have e8 : UInt8.ofNat (48 + (c.toNat - 48)) = c := by
      rw [show 48 + (c.toNat - 48) = c.toNat by omega]
      simp
    by_cases hm : m = []
    · subst hm
      rw [decDigits, dif_pos (by simp [dgVal_nil]; omega)]
      simp [dgVal_nil, e8]
    · have hml : m.length = n := by simp at hl; omega
      have hh : m.head? ≠ some 48 := by
        intro e
        have := h0 (by rw [head_app hm]; exact e)
        simp at this
        exact hm this
      have hmp : plainD m = true := by
        simp only [plainD, Bool.and_eq_true, Bool.not_eq_true', Bool.or_eq_true, bne_iff_ne, beq_iff_eq]
        exact ⟨⟨by simpa using hm, hall.1⟩, .inl hh⟩
      have ihm := ih m hml hmp
      have hpos : 1 ≤ dgVal 0 m := by
        cases m with
        | nil => exact absurd rfl hm
        | cons x r =>
          have hx := hall.1
          simp only [List.all_cons, Bool.and_eq_true, dgOk, decide_eq_true_eq] at hx
          have hx1 : x.toNat ≠ 48 := by
            intro e
            apply hh
            simp only [List.head?_cons, Option.some.injEq]
            have : UInt8.ofNat x.toNat = UInt8.ofNat 48 := by rw [e]
            simpa using this
          have := dgVal_le r (0 * 10 + (x.toNat - 48))
          simp only [dgVal_cons]
          omega
      rw [decDigits, dif_neg (by omega)]
      rw [show (dgVal 0 m * 10 + (c.toNat - 48)) / 10 = dgVal 0 m by omega, show (dgVal 0 m * 10 + (c.toNat - 48)) % 10 = c.toNat - 48 by omega, ihm, e8]
/-- What isNumber asks of a text. -/
def isNumB (l : List UInt8) : Bool := !(trimPrefix l [45]).isEmpty && !((trimPrefix l [45]).head? == some 48 && l != [48]) && (trimPrefix l [45]).all dgOk
theorem trim45 (l : List UInt8) : trimPrefix l [45] = if l.head? = some 45 then l.tail else l := by
  cases l with
  | nil => rfl
  | cons c r =>
    unfold trimPrefix hasPrefix
    by_cases h : c = 45
    · subst h; simp
    · have h2 : ¬ (45 == c) = true := by simpa using fun e => h e.symm
      simp [List.isPrefixOf, h, h2]
theorem isNumB_eq (l : List UInt8) : isNumB l = (numT l).isSome := by
  unfold isNumB numT
  rw [trim45]
  split
  · rename_i h45
    cases l with
    | nil => simp at h45
    | cons c r =>
      simp only [List.head?_cons, Option.some.injEq] at h45
      subst h45
      simp only [List.tail_cons]
      have h48 : ((45 : UInt8) :: r != [48]) = true := by simp
      rw [h48]
      by_cases hh : r.head? = some 48
      · simp [hh]
      · have hh' : (r.head? == some 48) = false := by simpa using hh
        have hh2 : (r.head? != some 48) = true := by simpa using hh
        simp only [plainD, hh', hh2, Bool.and_true, Bool.true_or, Bool.not_false]
        cases (!r.isEmpty && r.all dgOk) <;> rfl
  · rename_i h45
    by_cases hh : l.head? = some 48
    · by_cases hl : l = [48]
      · subst hl; rfl
      · have h1 : (l != [48]) = true := by simpa using hl
        have h2 : (l.length == 1) = false := by
          cases l with
          | nil => rfl
          | cons c r =>
            simp only [List.head?_cons, Option.some.injEq] at hh
            subst hh
            simp only [List.length_cons]
            cases r with
            | nil => exact absurd rfl hl
            | cons d r => simp
        simp [plainD, hh, h1, h2]
    · have hh' : (l.head? == some 48) = false := by simpa using hh
      have hh2 : (l.head? != some 48) = true := by simpa using hh
      have e : (!(false && l != [48])) = true := rfl
      simp only [plainD, hh', hh2, Bool.true_or]
      rw [e, Bool.and_true, Bool.and_true]
      cases (!l.isEmpty && l.all dgOk) <;> rfl
theorem plain_dec {l : List UInt8} (h : plainD l = true) : decDigits (dgVal 0 l) = l := plain_dec_aux _ l rfl h
theorem plain_big {l : List UInt8} (h : plainD l = true) (hl : 12 < l.length) : 1000000000000 ≤ dgVal 0 l := by
  obtain ⟨hne, hall, h0⟩ := plainD_facts h
  cases l with
  | nil => exact absurd rfl hne
  | cons c r =>
    simp only [List.length_cons] at hl
    have hc : c.toNat ≠ 48 := by
      intro e
      have : c = 48 := by
        have : UInt8.ofNat c.toNat = UInt8.ofNat 48 := by rw [e]
        simpa using this
      subst this
      have := h0 rfl
      simp only [List.length_cons] at this
      omega
    have hx := hall
    simp only [List.all_cons, Bool.and_eq_true, dgOk, decide_eq_true_eq] at hx
    have h1 := dgVal_pow r (0 * 10 + (c.toNat - 48))
    have h2 : 10 ^ 12 ≤ 10 ^ r.length := Nat.pow_le_pow_right (by omega) (by omega)
    have h3 : 1 * 10 ^ r.length ≤ (0 * 10 + (c.toNat - 48)) * 10 ^ r.length := Nat.mul_le_mul_right _ (by omega)
    show 1000000000000 ≤ dgVal (0 * 10 + (c.toNat - 48)) r
    omega
/-- The model's reading: digits of at most twelve places, and the number told again is the text. -/
theorem numT_told {t d : List UInt8} {neg : Bool} (ht : t = if neg then 45 :: d else d) (hn : neg = false → t.head? ≠ some 45) (hall : d.all dgOk = true) (hne : d ≠ []) :
    (itoa (if neg then -(dgVal 0 d : Int) else (dgVal 0 d : Int)) = t ↔ numT t = some (if neg then -(dgVal 0 d : Int) else (dgVal 0 d : Int))) := by
  cases neg with
  | true =>
    simp only [if_true] at ht ⊢
    subst ht
    have hN : numT (45 :: d) = if plainD d && (d.head? != some 48) then some (-(dgVal 0 d : Int)) else none := rfl
    rw [hN]
    by_cases h0 : dgVal 0 d = 0
    · have hp : ¬ (plainD d && (d.head? != some 48)) = true := by
        intro h
        simp only [Bool.and_eq_true, bne_iff_ne] at h
        have := plain_dec h.1
        rw [h0] at this
        rw [← this] at h
        exact h.2 (by rw [decDigits_one (by omega)]; rfl)
      rw [if_neg hp, h0]
      constructor
      · intro e; exact absurd e (by simp [itoa, decDigits])
      · intro e; cases e
    · have hi : itoa (-(dgVal 0 d : Int)) = 45 :: decDigits (dgVal 0 d) := by
        unfold itoa
        rw [if_pos (by omega)]
        congr 2
        omega
      rw [hi]
      constructor
      · intro e
        have e2 : decDigits (dgVal 0 d) = d := by simpa using e
        have hp : plainD d = true := by rw [← e2]; exact dec_plain _
        have hh : d.head? ≠ some 48 := by
          intro h48
          have hl := (plainD_facts hp).2.2 h48
          cases d with
          | nil => exact hne rfl
          | cons c r =>
            simp only [List.length_cons] at hl
            have hr : r = [] := List.eq_nil_of_length_eq_zero (by omega)
            subst hr
            simp only [List.head?_cons, Option.some.injEq] at h48
            subst h48
            exact h0 rfl
        rw [if_pos (by simp [hp, hh])]
      · intro e
        by_cases hp : (plainD d && (d.head? != some 48)) = true
        · simp only [Bool.and_eq_true] at hp
          rw [plain_dec hp.1]
        · rw [if_neg hp] at e; cases e
  | false =>
    simp only [Bool.false_eq_true, if_false] at ht ⊢
    subst ht
    have hN : numT t = if plainD t then some (dgVal 0 t : Int) else none := by
      unfold numT
      rw [if_neg (hn rfl)]
    rw [hN]
    have hi : itoa (dgVal 0 t : Int) = decDigits (dgVal 0 t) := by
      unfold itoa
      rw [if_neg (by omega)]
      congr 1
    rw [hi]
    constructor
    · intro e
      rw [if_pos (by rw [← e]; exact dec_plain _)]
    · intro e
      by_cases hp : plainD t = true
      · exact plain_dec hp
      · rw [if_neg hp] at e; cases e
theorem num_none {t d : List UInt8} {neg : Bool} (ht : t = if neg then 45 :: d else d) (hn : neg = false → t.head? ≠ some 45) (h : d.all dgOk = false ∨ d = []) : numT t = none := by
  have hp : plainD d = false := by
    rw [← Bool.not_eq_true]
    intro hp
    obtain ⟨hne, hall, _⟩ := plainD_facts hp
    rcases h with h | h
    · rw [hall] at h; cases h
    · exact hne h
  cases neg with
  | true =>
    simp only [if_true] at ht
    subst ht
    have hN : numT (45 :: d) = if plainD d && (d.head? != some 48) then some (-(dgVal 0 d : Int)) else none := rfl
    rw [hN, hp]
    rfl
  | false =>
    simp only [Bool.false_eq_true, if_false] at ht
    subst ht
    unfold numT
    rw [if_neg (hn rfl), hp]
    rfl
theorem num_val {t d : List UInt8} {neg : Bool} {v : Int} (ht : t = if neg then 45 :: d else d) (hn : neg = false → t.head? ≠ some 45) (hv : numT t = some v) : v = if neg then -(dgVal 0 d : Int) else (dgVal 0 d : Int) := by
  cases neg with
  | true =>
    simp only [if_true] at ht ⊢
    subst ht
    have hN : numT (45 :: d) = if plainD d && (d.head? != some 48) then some (-(dgVal 0 d : Int)) else none := rfl
    rw [hN] at hv
    split at hv
    · exact (Option.some.inj hv).symm
    · cases hv
  | false =>
    simp only [Bool.false_eq_true, if_false] at ht ⊢
    subst ht
    unfold numT at hv
    rw [if_neg (hn rfl)] at hv
    split at hv
    · exact (Option.some.inj hv).symm
    · cases hv
theorem num_big {t d : List UInt8} {neg : Bool} {v : Int} (ht : t = if neg then 45 :: d else d) (hn : neg = false → t.head? ≠ some 45) (h : 12 < d.length) (hv : numT t = some v) : v ≤ -1000000000000 ∨ 1000000000000 ≤ v := by
  cases neg with
  | true =>
    simp only [if_true] at ht
    subst ht
    have hN : numT (45 :: d) = if plainD d && (d.head? != some 48) then some (-(dgVal 0 d : Int)) else none := rfl
    rw [hN] at hv
    split at hv
    · rename_i hp
      simp only [Bool.and_eq_true] at hp
      have := plain_big hp.1 h
      cases hv
      omega
    · cases hv
  | false =>
    simp only [Bool.false_eq_true, if_false] at ht
    subst ht
    unfold numT at hv
    rw [if_neg (hn rfl)] at hv
    split at hv
    · rename_i hp
      have := plain_big hp h
      cases hv
      omega
    · cases hv
end Go.Proofs.YtphgheojfnlgjaaDoor
