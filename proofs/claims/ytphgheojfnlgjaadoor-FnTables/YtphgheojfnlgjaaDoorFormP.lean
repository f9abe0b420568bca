/- Plain lemmas on forms: the letters of a form and how many are needed, told by cutting at the mark and by going through; which element is the first that is none. -/
import Derived.Test.YtphgheojfnlgjaaDoorElT
import Derived.Lib.Bytealg
import Derived.Lib.SlTrimSet
namespace Go.Proofs.YtphgheojfnlgjaaDoor
open Go.Lib
def ltB (c : UInt8) : Bool := letterB (c.toNat : Int)
theorem ltB_63 : ltB 63 = false := by decide
/-- Going through a form. -/
def fm : List UInt8 → List UInt8 → Int → Option (List UInt8 × Int)
  | [], ls, m => some (ls, m)
  | c :: r, ls, m => if c = 63 then (if 0 ≤ m then none else fm r ls ls.length) else if ltB c then fm r (ls ++ [c]) m else none
/-- The letters of a form, and how many of them are needed. -/
def formF (f : List UInt8) : Option (List UInt8 × Nat) := match fm f [] (-1) with
  | some (ls, m) => some (ls, if m < 0 then ls.length else m.toNat)
  | none => none
theorem fm_plain (l r : List UInt8) (h : ∀ c ∈ l, c ≠ 63) : ∀ (ls : List UInt8) (m : Int), fm (l ++ r) ls m = if l.all ltB then fm r (ls ++ l) m else none := by
  induction l with
  | nil => intro ls m; simp
  | cons c l ih =>
    intro ls m
    have hc := h c (List.mem_cons_self ..)
    have hl := ih (fun x hx => h x (List.mem_cons_of_mem _ hx))
    rw [List.cons_append, fm, if_neg hc]
    by_cases hb : ltB c = true
    · rw [if_pos hb, hl]
      simp [hb]
    · rw [if_neg hb]
      simp [hb]
theorem fm_behind (r : List UInt8) : ∀ (ls : List UInt8) (m : Int), 0 ≤ m → fm r ls m = if r.all ltB then some (ls ++ r, m) else none := by
  induction r with
  | nil => intro ls m _; simp [fm]
  | cons c r ih =>
    intro ls m hm
    rw [fm]
    by_cases hc : c = 63
    · subst hc
      rw [if_pos rfl, if_pos hm]
      simp [ltB_63]
    · rw [if_neg hc]
      by_cases hb : ltB c = true
      · rw [if_pos hb, ih _ _ hm]
        simp [hb]
      · rw [if_neg hb]
        simp [hb]
theorem fm_all (r : List UInt8) : ∀ (ls : List UInt8) (m : Int) (p : List UInt8 × Int), ls.all ltB = true → fm r ls m = some p → p.1.all ltB = true := by
  induction r with
  | nil => intro ls m p h e; simp only [fm, Option.some.injEq] at e; subst e; exact h
  | cons c r ih =>
    intro ls m p h e
    rw [fm] at e
    split at e
    · split at e
      · cases e
      · exact ih _ _ _ h e
    · split at e
      · rename_i hb
        exact ih _ _ _ (by rw [List.all_append, h]; simp [hb]) e
      · cases e
theorem formF_all {f ls : List UInt8} {m : Nat} (h : formF f = some (ls, m)) : ls.all ltB = true := by
  unfold formF at h
  cases hf : fm f [] (-1) with
  | none => rw [hf] at h; cases h
  | some p =>
    rw [hf] at h
    obtain ⟨l, n⟩ := p
    simp only [Option.some.injEq, Prod.mk.injEq] at h
    have := fm_all f [] (-1) _ rfl hf
    rw [← h.1]
    exact this
theorem all_63 {l : List UInt8} (h : l.all ltB = true) : ∀ c ∈ l, c ≠ 63 := by
  intro c hc e
  subst e
  have := List.all_eq_true.1 h _ hc
  rw [ltB_63] at this
  cases this
/-- What cutting at the first mark tells. -/
theorem formF_cut (n s : List UInt8) (hn : ∀ c ∈ n, c ≠ 63) : formF (n ++ 63 :: s) = if (n ++ s).all ltB then some (n ++ s, n.length) else none := by
  unfold formF
  rw [fm_plain n _ hn, List.all_append]
  by_cases h1 : n.all ltB = true
  · rw [if_pos h1, List.nil_append, fm, if_pos rfl, if_neg (by omega), fm_behind _ _ _ (by omega), h1, Bool.true_and]
    by_cases h2 : s.all ltB = true
    · rw [if_pos h2, if_pos h2]
      simp only
      rw [if_neg (by omega), Int.toNat_natCast]
    · rw [if_neg h2, if_neg h2]
  · rw [if_neg h1]
    simp [h1]
theorem formF_whole (n : List UInt8) (hn : ∀ c ∈ n, c ≠ 63) : formF n = if n.all ltB then some (n, n.length) else none := by
  unfold formF
  have := fm_plain n [] hn [] (-1)
  rw [List.append_nil] at this
  rw [this]
  by_cases h1 : n.all ltB = true
  · rw [if_pos h1, if_pos h1, List.nil_append, fm]
    rfl
  · rw [if_neg h1, if_neg h1]
theorem trimS_empty (l : List UInt8) : trimS l [114, 110, 113, 122, 100, 116] = [] ↔ l.all ltB = true := by
  have hcs : ∀ c : UInt8, ([114, 110, 113, 122, 100, 116] : List UInt8).contains c = ltB c := by
    intro c
    rw [Bool.eq_iff_iff]
    simp only [ltB, letterB, decide_eq_true_eq, List.contains_iff_mem, List.mem_cons, List.not_mem_nil, or_false]
    constructor
    · rintro (rfl | rfl | rfl | rfl | rfl | rfl) <;> decide
    · intro h
      have key : ∀ k : Nat, c.toNat = k → c = UInt8.ofNat k := by intro k e; rw [← e]; simp
      rcases h with h | h | h | h | h | h
      · exact .inl (key 114 (by omega))
      · exact .inr (.inr (.inr (.inr (.inr (key 116 (by omega))))))
      · exact .inr (.inr (.inr (.inr (.inl (key 100 (by omega))))))
      · exact .inr (.inr (.inr (.inl (key 122 (by omega)))))
      · exact .inr (.inr (.inl (key 113 (by omega))))
      · exact .inr (.inl (key 110 (by omega)))
  have hf : (fun c => ([114, 110, 113, 122, 100, 116] : List UInt8).contains c) = ltB := funext hcs
  have dw : ∀ x : List UInt8, x.dropWhile ltB = [] ↔ x.all ltB = true := by
    intro x
    induction x with
    | nil => simp
    | cons c r ih =>
      by_cases hc : ltB c = true
      · rw [List.dropWhile_cons_of_pos hc, ih]; simp [hc]
      · rw [List.dropWhile_cons_of_neg hc]; simp [hc]
  unfold trimS trimLeftS trimRightS
  rw [hf, dw]
  constructor
  · intro h
    by_cases ha : l.all ltB = true
    · exact ha
    · exfalso
      have hr : ¬ l.reverse.all ltB = true := by rw [List.all_reverse]; exact ha
      have hne : l.reverse.dropWhile ltB ≠ [] := fun e => hr ((dw _).1 e)
      rw [List.all_reverse] at h
      cases hd : l.reverse.dropWhile ltB with
      | nil => exact hne hd
      | cons c r =>
        have h1 := List.head?_dropWhile_not ltB l.reverse
        rw [hd] at h1 h
        simp only [List.head?_cons] at h1
        simp only [List.all_cons, Bool.and_eq_true] at h
        rw [h.1] at h1
        cases h1
  · intro ha
    have : l.reverse.dropWhile ltB = [] := (dw _).2 (by rw [List.all_reverse]; exact ha)
    rw [this]
    rfl
/-- Is the element at a place none of the letter? -/
def badAt (ls : List UInt8) (es : List (List ByteArray)) (i : Nat) : Prop := ls.length ≤ i ∨ elemB ((ls[i]?.getD 0).toNat : Int) (es[i]?.getD []) = false
def FrOut (ls : List UInt8) (m : Nat) (es : List (List ByteArray)) (r : Int) : Prop :=
  (∃ k : Nat, k < es.length ∧ r = (k : Int) ∧ badAt ls es k ∧ ∀ j, j < k → ¬ badAt ls es j) ∨ ((∀ j, j < es.length → ¬ badAt ls es j) ∧ ((es.length < m ∧ r = (es.length : Int)) ∨ (m ≤ es.length ∧ r = -1)))
theorem FrOut.one {ls : List UInt8} {m : Nat} {es : List (List ByteArray)} {r r' : Int} (h : FrOut ls m es r) (h' : FrOut ls m es r') : r = r' := by
  rcases h with ⟨k, hk, rfl, hb, ha⟩ | ⟨ha, hr⟩
  · rcases h' with ⟨k', hk', rfl, hb', ha'⟩ | ⟨ha', _⟩
    · rcases Nat.lt_trichotomy k k' with g | g | g
      · exact absurd hb (ha' k g)
      · rw [g]
      · exact absurd hb' (ha k' g)
    · exact absurd hb (ha' k hk)
  · rcases h' with ⟨k', hk', rfl, hb', ha'⟩ | ⟨ha', hr'⟩
    · exact absurd hb' (ha k' hk')
    · rcases hr with ⟨h1, rfl⟩ | ⟨h1, rfl⟩ <;> rcases hr' with ⟨h2, rfl⟩ | ⟨h2, rfl⟩ <;> first | rfl | omega
/-- What FormRight tells. -/
def FrO (f : ByteArray) (es : List (List ByteArray)) (r : Int) : Prop :=
  if 20000 < f.size then r = 0 else match formF f.data.toList with
    | none => r = 0
    | some (ls, m) => FrOut ls m es r
theorem FrO.one {f : ByteArray} {es : List (List ByteArray)} {r r' : Int} (h : FrO f es r) (h' : FrO f es r') : r = r' := by
  unfold FrO at h h'
  split at h
  · rename_i g
    rw [if_pos g] at h'
    rw [h, h']
  · rename_i g
    rw [if_neg g] at h'
    cases hf : formF f.data.toList with
    | none => rw [hf] at h h'; simp only at h h'; rw [h, h']
    | some p =>
      obtain ⟨ls, m⟩ := p
      rw [hf] at h h'
      exact FrOut.one h h'
theorem FrO.big {f : ByteArray} {es : List (List ByteArray)} (h : 20000 < f.size) : FrO f es 0 := by unfold FrO; rw [if_pos h]
theorem FrO.none_ {f : ByteArray} {es : List (List ByteArray)} (h : f.size ≤ 20000) (hf : formF f.data.toList = none) : FrO f es 0 := by unfold FrO; rw [if_neg (by omega), hf]
theorem FrO.some_ {f : ByteArray} {es : List (List ByteArray)} {ls : List UInt8} {m : Nat} {r : Int} (h : f.size ≤ 20000) (hf : formF f.data.toList = some (ls, m)) (hr : FrOut ls m es r) : FrO f es r := by unfold FrO; rw [if_neg (by omega), hf]; exact hr
end Go.Proofs.YtphgheojfnlgjaaDoor
