/- Pieces of a text at a byte; wide runes: pure. -/
import Derived.Lib.SplitLaws
import Derived.Laws.RangeAny
namespace Go.Proofs.YtcdmnodhkgiaaaaDoor
open Go Go.Lib
/-- The pieces of a row of bytes at a byte: what stands ahead so far is given. -/
def pcs (c : UInt8) (cur : List UInt8) : List UInt8 → List (List UInt8)
  | [] => [cur]
  | a :: r => if a = c then cur :: pcs c [] r else pcs c (cur ++ [a]) r
theorem pcs_hit (c : UInt8) (cur r : List UInt8) : pcs c cur (c :: r) = cur :: pcs c [] r := by rw [pcs, if_pos rfl]
theorem pcs_miss {c a : UInt8} (h : a ≠ c) (cur r : List UInt8) : pcs c cur (a :: r) = pcs c (cur ++ [a]) r := by rw [pcs, if_neg h]
theorem pcs_ne (c : UInt8) : ∀ (cur l : List UInt8), pcs c cur l ≠ []
  | cur, [] => by simp [pcs]
  | cur, a :: r => by
    unfold pcs
    split
    · simp
    · exact pcs_ne c _ r
theorem pcs_cur (c : UInt8) : ∀ (l cur : List UInt8) (x : List UInt8) (xs : List (List UInt8)), pcs c [] l = x :: xs → pcs c cur l = (cur ++ x) :: xs
  | [], cur, x, xs, h => by
    simp only [pcs, List.cons.injEq] at h
    obtain ⟨rfl, rfl⟩ := h
    simp [pcs]
  | a :: r, cur, x, xs, h => by
    by_cases e : a = c
    · subst e
      rw [pcs_hit] at h ⊢
      simp only [List.cons.injEq] at h
      obtain ⟨rfl, rfl⟩ := h
      simp
    · rw [pcs_miss e] at h ⊢
      cases h2 : pcs c [] r with
      | nil => exact absurd h2 (pcs_ne c _ _)
      | cons y ys =>
        rw [pcs_cur c r ([] ++ [a]) y ys h2] at h
        rw [pcs_cur c r (cur ++ [a]) y ys h2]
        simp only [List.nil_append, List.cons.injEq] at h
        obtain ⟨rfl, rfl⟩ := h
        simp
/-- Pieces put together again. -/
def jnC (c : UInt8) : List (List UInt8) → List UInt8
  | [] => []
  | [a] => a
  | a :: b :: r => a ++ c :: jnC c (b :: r)
theorem jnC_pcs (c : UInt8) : ∀ (l cur : List UInt8), jnC c (pcs c cur l) = cur ++ l
  | [], cur => by simp [pcs, jnC]
  | a :: r, cur => by
    by_cases e : a = c
    · subst e
      rw [pcs_hit]
      cases h2 : pcs a [] r with
      | nil => exact absurd h2 (pcs_ne a _ _)
      | cons y ys =>
        rw [jnC, ← h2, jnC_pcs a r []]
        simp
    · rw [pcs_miss e, jnC_pcs c r]
      simp
theorem splitK_none (c : UInt8) (s : List UInt8) (h : index s [c] = -1) (k : Nat) : splitK [c] 0 k s = [s] := by
  cases k with
  | zero => rfl
  | succ k => unfold splitK; rw [if_pos (beq_iff_eq.2 h)]
theorem index_eq (c : UInt8) (l : List UInt8) : index (c :: l) [c] = 0 := by rw [index]; simp [List.isPrefixOf]
theorem index_ne {b c : UInt8} (h : b ≠ c) (l : List UInt8) : index (b :: l) [c] = if index l [c] == -1 then -1 else index l [c] + 1 := by
  have hp : ([c] : List UInt8).isPrefixOf (b :: l) = false := by simp [List.isPrefixOf, Ne.symm h]
  rw [index, hp]; simp
theorem splitK_pcs (c : UInt8) : ∀ (s : List UInt8), splitK [c] 0 (count s [c]) s = pcs c [] s
  | [] => by rw [splitK_none c [] (by simp [index])]; rfl
  | b :: l => by
    have ih := splitK_pcs c l
    by_cases e : b = c
    · subst e
      rw [count_cons_eq, pcs_hit, Nat.add_comm 1, splitK, index_eq, ← ih]
      simp
    · rw [count_cons_ne b c l e, pcs_miss e]
      by_cases hm : index l [c] = -1
      · rw [splitK_none c l hm] at ih
        rw [splitK_none c (b :: l) (by rw [index_ne e, if_pos (beq_iff_eq.2 hm)])]
        rw [pcs_cur c l ([] ++ [b]) l [] ih.symm]
        simp
      · obtain ⟨j, hj⟩ : ∃ j : Nat, index l [c] = j := ⟨(index l [c]).toNat, by have := index_ge l [c]; omega⟩
        have hix : index (b :: l) [c] = ((j + 1 : Nat) : Int) := by rw [index_ne e, if_neg (fun x => hm (beq_iff_eq.1 x)), hj]; omega
        rw [count_hit (by simp) hj] at ih ⊢
        generalize count (l.drop (j + [c].length)) [c] = k at ih
        rw [Nat.add_comm] at ih ⊢
        have e1 : splitK [c] 0 (k + 1) l = l.take j :: splitK [c] 0 k (l.drop (j + 1)) := by
          rw [splitK, hj, if_neg (by simp)]
          simp
        have e2 : splitK [c] 0 (k + 1) (b :: l) = (b :: l.take j) :: splitK [c] 0 k (l.drop (j + 1)) := by
          rw [splitK, hix, if_neg (by simp; omega)]
          simp
        rw [e1] at ih
        rw [e2, pcs_cur c l ([] ++ [b]) _ _ ih.symm]
        rfl
def toB (l : List UInt8) : ByteArray := ⟨l.toArray⟩
theorem toB_data (l : List UInt8) : (toB l).data.toList = l := rfl
theorem ofB (t : ByteArray) : toB t.data.toList = t := rfl
/-- The pieces of a text at a byte. -/
def pcB (c : UInt8) (t : ByteArray) : List ByteArray := (pcs c [] t.data.toList).map toB
theorem splitB_pcs (c : UInt8) (t : ByteArray) : splitB ⟨#[c]⟩ 0 (countB t ⟨#[c]⟩) t = pcB c t := by
  have h := splitB_data ⟨#[c]⟩ 0 (countB t ⟨#[c]⟩) t
  have e : countB t ⟨#[c]⟩ = count t.data.toList [c] := rfl
  rw [e] at h ⊢
  have e2 : (⟨#[c]⟩ : ByteArray).data.toList = [c] := rfl
  rw [e2, splitK_pcs] at h
  unfold pcB
  rw [← h, List.map_map]
  exact (List.map_id _).symm
theorem get_atN (s : ByteArray) (j : Nat) (h : j < s.size) : s.get! j = s[j]'h := by
  have := get_at s j h
  simpa using this
/-- A wide rune lies in the text, and none of its bytes is below 128. -/
theorem decode_body (t : ByteArray) (pos : Nat) (hp : pos < t.size) (ha : 128 ≤ (t[pos]'hp).toNat) : pos + (Utf8.decode t pos).2 ≤ t.size ∧ ∀ (j : Nat) (hj : j < t.size), pos ≤ j → j < pos + (Utf8.decode t pos).2 → 128 ≤ (t[j]'hj).toNat := by
  have hn : ¬ (t[pos]'hp).toNat < 128 := by omega
  have key : ∀ k, (decide (pos + k < t.size) && ((t.get! (pos + k)).toNat / 64 == 2)) = true → ∃ h : pos + k < t.size, 128 ≤ (t[pos + k]'h).toNat := fun k h => by
    simp only [Bool.and_eq_true, decide_eq_true_eq, beq_iff_eq] at h
    refine ⟨h.1, ?_⟩
    rw [← get_atN t (pos + k) h.1]
    omega
  have fin : ∀ n, (∀ k, 1 ≤ k → k < n → ∃ h : pos + k < t.size, 128 ≤ (t[pos + k]'h).toNat) → 1 ≤ n → pos + n ≤ t.size ∧ ∀ (j : Nat) (hj : j < t.size), pos ≤ j → j < pos + n → 128 ≤ (t[j]'hj).toNat := fun n hk h1 => by
    refine ⟨?_, fun j hj hpj hjn => ?_⟩
    · rcases Nat.lt_or_ge 1 n with g | g
      · obtain ⟨h, _⟩ := hk (n - 1) (by omega) (by omega)
        omega
      · omega
    · rcases Nat.lt_or_ge pos j with g | g
      · obtain ⟨_, h2⟩ := hk (j - pos) (by omega) (by omega)
        have e : pos + (j - pos) = j := by omega
        simp only [e] at h2
        exact h2
      · obtain rfl : j = pos := by omega
        exact ha
  have one := fin 1 (fun k h1 h2 => absurd h1 (by omega)) (Nat.le_refl _)
  simp only [Utf8.decode, get_at t pos hp, hn, if_false]
  repeat' split
  · rename_i h _
    simp only [Bool.and_eq_true] at h
    exact fin 2 (fun k h1 h2 => by obtain rfl : k = 1 := by omega
                                   exact key 1 (by simpa using h.2)) (by decide)
  · exact one
  · rename_i h _
    simp only [Bool.and_eq_true] at h
    exact fin 3 (fun k h1 h2 => by
      rcases (by omega : k = 1 ∨ k = 2) with rfl | rfl
      · exact key 1 (by simpa using h.1.2)
      · exact key 2 (by simpa using h.2)) (by decide)
  · exact one
  · rename_i h _
    simp only [Bool.and_eq_true] at h
    exact fin 4 (fun k h1 h2 => by
      rcases (by omega : k = 1 ∨ k = 2 ∨ k = 3) with rfl | rfl | rfl
      · exact key 1 (by simpa using h.1.1.2)
      · exact key 2 (by simpa using h.1.2)
      · exact key 3 (by simpa using h.2)) (by decide)
  · exact one
  · exact one
theorem pcs_free (c : UInt8) : ∀ (x cur r : List UInt8), (∀ a ∈ x, a ≠ c) → pcs c cur (x ++ r) = pcs c (cur ++ x) r
  | [], cur, r, _ => by simp
  | a :: x, cur, r, h => by
    rw [List.cons_append, pcs_miss (h a List.mem_cons_self), pcs_free c x _ _ fun b hb => h b (List.mem_cons_of_mem _ hb)]
    simp
theorem extr_list (t : ByteArray) (a b : Nat) : (t.extract a b).data.toList = (t.data.toList.take b).drop a := by
  rw [extract_data]
  simp [List.drop_take]
/-- How far a text is cut. -/
def PcAt (c : UInt8) (t : ByteArray) (b p : Nat) (done : List ByteArray) : Prop := b ≤ p ∧ p ≤ t.size ∧ pcB c t = done ++ (pcs c (t.extract b p).data.toList (t.data.toList.drop p)).map toB
theorem PcAt.start (c : UInt8) (t : ByteArray) : PcAt c t 0 0 [] := ⟨Nat.le_refl _, Nat.zero_le _, by
  rw [extr_list]
  simp [pcB]⟩
theorem PcAt.hit {c : UInt8} {t : ByteArray} {b p : Nat} {done : List ByteArray} (h : PcAt c t b p done) (hp : p < t.size) (hc : t[p]'hp = c) : PcAt c t (p + 1) (p + 1) (done ++ [t.extract b p]) := by
  refine ⟨Nat.le_refl _, hp, ?_⟩
  have e : t.data.toList.drop p = c :: t.data.toList.drop (p + 1) := by
    rw [List.drop_eq_getElem_cons (by exact hp)]
    exact congrArg (· :: _) hc
  rw [h.2.2, e, pcs_hit]
  have e2 : (t.extract (p + 1) (p + 1)).data.toList = [] := by rw [extr_list]; simp
  rw [e2, List.map_cons, List.append_assoc]
  rfl
theorem PcAt.over {c : UInt8} {t : ByteArray} {b p : Nat} {done : List ByteArray} (h : PcAt c t b p done) (n : Nat) (hn : p + n ≤ t.size) (hc : ∀ (j : Nat) (hj : j < t.size), p ≤ j → j < p + n → t[j]'hj ≠ c) : PcAt c t b (p + n) done := by
  refine ⟨by have := h.1; omega, hn, ?_⟩
  rw [h.2.2]
  have e : t.data.toList.drop p = (t.data.toList.drop p).take n ++ t.data.toList.drop (p + n) := by
    rw [← List.drop_drop]
    exact (List.take_append_drop n _).symm
  rw [e, pcs_free c _ _ _ fun a ha => ?_]
  · congr 2
    rw [extr_list, extr_list]
    have hb := h.1
    have hl : t.data.toList.length = t.size := rfl
    rw [List.take_add, List.drop_append_of_le_length (by rw [List.length_take]; omega)]
  · obtain ⟨i, hi, rfl⟩ := List.mem_iff_getElem.1 ha
    rw [List.length_take, List.length_drop] at hi
    have hl : t.data.toList.length = t.size := rfl
    have := hc (p + i) (by omega) (by omega) (by omega)
    rw [List.getElem_take, List.getElem_drop]
    exact this
theorem PcAt.fin {c : UInt8} {t : ByteArray} {b : Nat} {done : List ByteArray} (h : PcAt c t b t.size done) : pcB c t = done ++ [t.extract b t.size] := by
  rw [h.2.2, List.drop_of_length_le (by exact Nat.le_refl _)]
  rfl
theorem pcB_ne (c : UInt8) (t : ByteArray) : pcB c t ≠ [] := by
  unfold pcB
  intro e
  exact pcs_ne c _ _ (List.map_eq_nil_iff.1 e)
/-- The bytes of pieces put together again, counted. -/
def jsz : List ByteArray → Nat
  | [] => 0
  | [a] => a.size
  | a :: b :: r => a.size + 1 + jsz (b :: r)
/-- Pieces put together again. -/
def jnB (c : UInt8) (l : List ByteArray) : ByteArray := toB (jnC c (l.map fun x => x.data.toList))
theorem jnB_pcB (c : UInt8) (t : ByteArray) : jnB c (pcB c t) = t := by
  unfold jnB pcB
  rw [List.map_map]
  have e : ((fun x : ByteArray => x.data.toList) ∘ toB) = id := rfl
  rw [e, List.map_id, jnC_pcs]
  rfl
theorem jnB_size (c : UInt8) : ∀ l : List ByteArray, (jnB c l).size = jsz l
  | [] => rfl
  | [_] => rfl
  | a :: b :: r => by
    have ih := jnB_size c (b :: r)
    have s : ∀ l, (jnB c l).size = (jnC c (l.map fun x => x.data.toList)).length := fun l => by simp [jnB, toB, ByteArray.size]
    rw [s] at ih ⊢
    simp only [List.map_cons, jnC, List.length_append, List.length_cons, jsz] at ih ⊢
    rw [ih]
    have : a.data.toList.length = a.size := rfl
    omega
theorem pcB_size {c : UInt8} {t x : ByteArray} (h : x ∈ pcB c t) : x.size ≤ t.size := by
  have key : ∀ l : List ByteArray, x ∈ l → x.size ≤ jsz l := fun l => by
    induction l with
    | nil => intro h; cases h
    | cons a r ih =>
      intro h
      cases r with
      | nil => simp at h; subst h; simp [jsz]
      | cons b r =>
        rcases List.mem_cons.1 h with rfl | h
        · simp only [jsz]; omega
        · have := ih h; simp only [jsz]; omega
  have := key _ h
  rw [← jnB_size c, jnB_pcB] at this
  exact this
theorem pcB_len (c : UInt8) (t : ByteArray) : (pcB c t).length ≤ t.size + 1 := by
  have key : ∀ (l cur : List UInt8), (pcs c cur l).length ≤ l.length + 1 := fun l => by
    induction l with
    | nil => intro cur; simp [pcs]
    | cons a r ih =>
      intro cur
      unfold pcs
      split
      · have := ih []; simp only [List.length_cons]; omega
      · have := ih (cur ++ [a]); simp only [List.length_cons]; omega
  have := key t.data.toList []
  unfold pcB
  rw [List.length_map]
  exact this
end Go.Proofs.YtcdmnodhkgiaaaaDoor
