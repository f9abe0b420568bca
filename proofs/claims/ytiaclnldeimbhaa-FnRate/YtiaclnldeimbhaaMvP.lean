/- What a move of a hand tells: pure. -/
import Derived.Test.YtiaclnldeimbhaaMapS
namespace Go.Proofs.Ytiaclnldeimbhaa
open Go.ChangeShapes Go.WideShapes Go.ChangeAt Go.RowKit
theorem insS_len (s : Stk) : ∀ l : List Stk, (insS s l).length = l.length + 1
  | [] => rfl
  | y :: r => by
    simp only [insS]
    split
    · rfl
    · simp [insS_len s r]
theorem insS_mem {s : Stk} : ∀ {l : List Stk}, ∀ x ∈ insS s l, x = s ∨ x ∈ l
  | [], x, h => .inl (by simpa [insS] using h)
  | y :: r, x, h => by
    simp only [insS] at h
    split at h
    · rcases List.mem_cons.1 h with e | h
      · exact .inl e
      · exact .inr h
    · rcases List.mem_cons.1 h with e | h
      · exact .inr (by simp [e])
      · rcases insS_mem x h with e | h
        · exact .inl e
        · exact .inr (by simp [h])
theorem nm_eq {t : ByteArray} {x : Stk} (h : nmS t x = true) : x.item = t := by
  unfold nmS at h
  rw [beq_iff_eq] at h
  exact ba_list h
theorem befS_tot {s y : Stk} (h1 : befS s y = false) (h2 : nmS s.item y = false) : befS y s = true := by
  cases e : befS y s with
  | true => rfl
  | false =>
    have := bl_tri h1 e
    unfold nmS at h2
    rw [this] at h2
    simp at h2
/-- Put in its place in a rising list that has none of its name. -/
theorem insS_rise {s : Stk} : ∀ {l : List Stk}, RiseS l → (∀ x ∈ l, nmS s.item x = false) → RiseS (insS s l)
  | [], _, _ => by simp [insS, RiseS]
  | y :: r, h, hn => by
    obtain ⟨h1, h2⟩ := List.pairwise_cons.1 h
    simp only [insS]
    cases e : befS s y with
    | true =>
      rw [if_pos rfl]
      refine List.pairwise_cons.2 ⟨fun x hx => ?_, h⟩
      rcases List.mem_cons.1 hx with rfl | hx
      · exact e
      · exact befS_trans e (h1 x hx)
    | false =>
      rw [if_neg (by simp)]
      have hy := befS_tot e (hn y (by simp))
      refine List.pairwise_cons.2 ⟨fun x hx => ?_, insS_rise h2 fun x hx => hn x (by simp [hx])⟩
      rcases insS_mem x hx with rfl | hx
      · exact hy
      · exact h1 x hx
theorem filt_rise {l : List Stk} (f : Stk → Bool) (h : RiseS l) : RiseS (l.filter f) := List.Pairwise.sublist List.filter_sublist h
/-- A rising list has at most one of a name. -/
theorem filt_len {t : ByteArray} : ∀ {l : List Stk}, RiseS l → (l.filter fun x => !nmS t x).length + (if (findS t l).isSome = true then 1 else 0) = l.length
  | [], _ => by simp [findS]
  | y :: r, h => by
    obtain ⟨h1, h2⟩ := List.pairwise_cons.1 h
    cases e : nmS t y with
    | true =>
      have hall : ∀ x ∈ r, (!nmS t x) = true := fun x hx => by
        have hb := h1 x hx
        cases e2 : nmS t x with
        | false => rfl
        | true =>
          have e3 : befS y x = false := by
            unfold befS
            rw [nm_eq e, nm_eq e2, bl_irrefl]
          rw [hb] at e3
          cases e3
      have hf : findS t (y :: r) = some y := by unfold findS; rw [List.find?_cons_of_pos (by exact e)]
      rw [List.filter_cons_of_neg (by simp [e]), List.filter_eq_self.2 hall, hf]
      simp
    | false =>
      have hf : findS t (y :: r) = findS t r := by unfold findS; rw [List.find?_cons_of_neg (by rw [show (y.item.toList == t.toList) = false from e]; simp)]
      rw [List.filter_cons_of_pos (by simp [e]), hf, List.length_cons, List.length_cons]
      have := filt_len (t := t) h2
      omega
/-- What a move goes by. -/
structure MvOk (p : Bk) (t : ByteArray) (z : Int) : Prop where
  right : bkB p = true
  nm : nameB t = true
  lo : 0 ≤ handT p t + z
  hi : handT p t + z ≤ 1000000000
  room : (findS t p.stocks).isSome = true ∨ p.stocks.length < 100
/-- The stocks then. -/
noncomputable def mvL (p : Bk) (t : ByteArray) (z : Int) : List Stk := insS ⟨t, handT p t + z⟩ (p.stocks.filter fun x => !nmS t x)
open Classical in
noncomputable def movT (p : Bk) (t : ByteArray) (z : Int) : Bk := if MvOk p t z then ⟨mvL p t z, p.lines⟩ else p
theorem movT_yes {p : Bk} {t : ByteArray} {z : Int} (h : MvOk p t z) : movT p t z = ⟨mvL p t z, p.lines⟩ := by simp [movT, h]
theorem movT_no {p : Bk} {t : ByteArray} {z : Int} (h : ¬ MvOk p t z) : movT p t z = p := by simp [movT, h]
/-- What BookMove tells. -/
noncomputable def moveT (p : Bk) (t : ByteArray) (z : Int) : Bk := if 20000 < t.size then ⟨[], []⟩ else movT p t z
theorem moveT_long {p : Bk} {t : ByteArray} {z : Int} (h : 20000 < t.size) : moveT p t z = ⟨[], []⟩ := by simp [moveT, h]
theorem moveT_short {p : Bk} {t : ByteArray} {z : Int} (h : ¬ 20000 < t.size) : moveT p t z = movT p t z := by simp [moveT, h]
theorem handT_bound (p : Bk) (t : ByteArray) : 0 ≤ handT p t ∧ handT p t ≤ 1000000000 := by
  unfold handT
  split
  · rename_i hb
    cases hf : findS t p.stocks with
    | none => simp
    | some s =>
      have := (bkB_iff.1 hb).1.ok s (List.mem_of_find?_eq_some hf)
      exact ⟨this.h0, this.h1⟩
  · simp
theorem mvL_len {p : Bk} {t : ByteArray} {z : Int} (h : RiseS p.stocks) : (mvL p t z).length = if (findS t p.stocks).isSome = true then p.stocks.length else p.stocks.length + 1 := by
  unfold mvL
  rw [insS_len]
  have := filt_len (t := t) h
  split at this <;> rename_i hh
  · rw [if_pos hh]; omega
  · rw [if_neg hh]; omega
theorem mvL_rise {p : Bk} {t : ByteArray} {z : Int} (h : RiseS p.stocks) : RiseS (mvL p t z) := insS_rise (filt_rise _ h) fun x hx => by
  have := (List.mem_filter.1 hx).2
  simpa using this
theorem mvL_small {p : Bk} {t : ByteArray} {z : Int} (h : ∀ x ∈ p.stocks, x.item.size ≤ 12) (ht : t.size ≤ 12) : ∀ x ∈ mvL p t z, x.item.size ≤ 12 := fun x hx => by
  rcases insS_mem x hx with rfl | hx
  · exact ht
  · exact h x (List.mem_filter.1 hx).1
/-- The same in the model's way: gone through once. -/
def outF (s : Stk) : Bool → List Stk → List Stk
  | false, [] => [s]
  | true, [] => []
  | false, y :: r => if befS y s = true then y :: outF s false r else if nmS s.item y = true then s :: outF s true r else s :: y :: outF s true r
  | true, y :: r => if nmS s.item y = true then outF s true r else y :: outF s true r
theorem outF_true (s : Stk) : ∀ l : List Stk, outF s true l = l.filter fun x => !nmS s.item x
  | [] => rfl
  | y :: r => by
    simp only [outF]
    cases e : nmS s.item y
    · rw [List.filter_cons_of_pos (by simp [e]), if_neg (by simp), outF_true s r]
    · rw [List.filter_cons_of_neg (by simp [e]), if_pos rfl, outF_true s r]
theorem insS_first {s : Stk} : ∀ {l : List Stk}, (∀ x ∈ l, befS s x = true) → insS s l = s :: l
  | [], _ => rfl
  | y :: r, h => by simp [insS, h y (by simp)]
theorem outF_eq {s : Stk} : ∀ {l : List Stk}, RiseS l → outF s false l = insS s (l.filter fun x => !nmS s.item x)
  | [], _ => rfl
  | y :: r, h => by
    obtain ⟨h1, h2⟩ := List.pairwise_cons.1 h
    simp only [outF]
    cases e : befS y s with
    | true =>
      rw [if_pos rfl, List.filter_cons_of_pos (by rw [befS_nm e]; rfl)]
      simp only [insS]
      have : befS s y = false := bl_asymm e
      rw [if_neg (by rw [this]; simp), outF_eq h2]
    | false =>
      rw [if_neg (by simp)]
      cases e2 : nmS s.item y with
      | true =>
        rw [if_pos rfl, List.filter_cons_of_neg (by simp [e2]), outF_true]
        refine (insS_first fun x hx => ?_).symm
        have := h1 x (List.mem_filter.1 hx).1
        unfold befS at this ⊢
        rw [← nm_eq e2]
        exact this
      | false =>
        have hy : befS s y = true := by
          cases e3 : befS s y with
          | true => rfl
          | false =>
            have h4 := befS_tot e3 e2
            rw [h4] at e
            cases e
        rw [if_neg (by simp), List.filter_cons_of_pos (by simp [e2]), outF_true]
        simp only [insS]
        rw [if_pos hy]
end Go.Proofs.Ytiaclnldeimbhaa
