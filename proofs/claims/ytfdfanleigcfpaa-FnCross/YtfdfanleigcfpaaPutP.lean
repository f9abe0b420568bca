/- What CrossPut and CrossDrop tell: pure. -/
import Derived.Test.YtfdfanleigcfpaaCrM
import Derived.Test.YtfdfanleigcfpaaKbP
namespace Go.Proofs.Ytfdfanleigcfpaa
open Go.ChangeShapes Go.WideShapes Go.ChangeAt Go.RowKit
/-- Others than that of a key. -/
def offK (k : ByteArray × ByteArray) (rs : List Crs) : List Crs := rs.filter fun d => decide (thK d ≠ k)
/-- The model's walk: what it appends, from a place on. -/
def spP (c : Crs) : Bool → List Crs → List Crs
  | done, [] => if done then [] else [c]
  | done, d :: r => (if !done && !befB d c then [c] else []) ++ ((if thK d = thK c then [] else [d]) ++ spP c (done || !befB d c) r)
theorem spP_true (c : Crs) : ∀ rs : List Crs, spP c true rs = offK (thK c) rs
  | [] => rfl
  | d :: r => by
    simp only [spP, Bool.not_true, Bool.false_and, Bool.false_eq_true, if_false, List.nil_append, Bool.true_or, spP_true c r, offK, List.filter_cons]
    by_cases h : thK d = thK c
    · simp [h]
    · simp [h]
theorem spP_perm (c : Crs) : ∀ rs : List Crs, (spP c false rs).Perm (c :: offK (thK c) rs)
  | [] => List.Perm.refl _
  | d :: r => by
    simp only [spP, Bool.not_false, Bool.true_and, Bool.false_or, offK, List.filter_cons]
    cases hb : befB d c with
    | false =>
      simp only [Bool.not_false, if_true, spP_true]
      by_cases h : thK d = thK c
      · simp [h, offK]
      · simp [h, offK]
    | true =>
      have h : thK d ≠ thK c := befB_key hb
      simp only [Bool.not_true, Bool.false_eq_true, if_false, List.nil_append, h, decide_true, ne_eq, not_false_eq_true, if_true, List.singleton_append]
      exact ((spP_perm c r).cons d).trans (List.Perm.swap c d _)
theorem befB_tri {a b : Crs} (h1 : befB a b = false) (h2 : thK a ≠ thK b) : befB b a = true := by
  cases h : befB b a with
  | true => rfl
  | false => exact absurd (kb_tri (x := thK a) (y := thK b) h1 h) h2
theorem befB_of_key {a b c : Crs} (e : thK a = thK b) (h : befB a c = true) : befB b c = true := by
  rw [befB_kb, ← e]
  exact h
theorem offK_sub (k : ByteArray × ByteArray) (rs : List Crs) : (offK k rs).Sublist rs := List.filter_sublist
theorem spP_rise (c : Crs) : ∀ {rs : List Crs}, (rs.Pairwise fun a b => befB a b = true) → (spP c false rs).Pairwise fun a b => befB a b = true
  | [], _ => List.pairwise_singleton _ _
  | d :: r, h => by
    obtain ⟨h1, h2⟩ := List.pairwise_cons.1 h
    simp only [spP, Bool.not_false, Bool.true_and, Bool.false_or]
    cases hb : befB d c with
    | false =>
      simp only [Bool.not_false, if_true, spP_true, List.singleton_append]
      have hr : (offK (thK c) r).Pairwise fun a b => befB a b = true := h2.sublist (offK_sub _ _)
      by_cases hk : thK d = thK c
      · simp only [hk, if_true, List.nil_append]
        exact List.pairwise_cons.2 ⟨fun x hx => befB_of_key hk (h1 x ((offK_sub _ _).subset hx)), hr⟩
      · simp only [hk, if_false, List.singleton_append]
        have hcd := befB_tri hb hk
        refine List.pairwise_cons.2 ⟨fun x hx => ?_, List.pairwise_cons.2 ⟨fun x hx => h1 x ((offK_sub _ _).subset hx), hr⟩⟩
        rcases List.mem_cons.1 hx with rfl | hx
        · exact hcd
        · exact befB_trans hcd (h1 x ((offK_sub _ _).subset hx))
    | true =>
      have hk : thK d ≠ thK c := befB_key hb
      simp only [Bool.not_true, Bool.false_eq_true, if_false, List.nil_append, hk, List.singleton_append]
      refine List.pairwise_cons.2 ⟨fun x hx => ?_, spP_rise c h2⟩
      rcases List.mem_cons.1 ((spP_perm c r).mem_iff.1 hx) with rfl | hx
      · exact hb
      · exact h1 x ((offK_sub _ _).subset hx)
theorem putC_perm (c : Crs) : ∀ {rs : List Crs}, (rs.Pairwise fun a b => thK a ≠ thK b) → (putC thK c rs).Perm (c :: offK (thK c) rs)
  | [], _ => List.Perm.refl _
  | d :: r, h => by
    obtain ⟨h1, h2⟩ := List.pairwise_cons.1 h
    simp only [putC, offK, List.filter_cons]
    by_cases hk : thK d = thK c
    · have : r.filter (fun d => decide (thK d ≠ thK c)) = r := List.filter_eq_self.2 fun x hx => by
        have := h1 x hx
        rw [hk] at this
        simpa using Ne.symm this
      simp only [hk, if_true, ne_eq, not_true, decide_false, Bool.false_eq_true, if_false]
      rw [this]
    · simp only [hk, if_false, ne_eq, not_false_eq_true, decide_true, if_true]
      exact ((putC_perm c h2).cons d).trans (List.Perm.swap c d _)
/-- Two that rise, of the same. -/
theorem rise_eq : ∀ {l m : List Crs}, l.Perm m → (l.Pairwise fun a b => befB a b = true) → (m.Pairwise fun a b => befB a b = true) → l = m
  | [], m, hp, _, _ => by rw [List.nil_perm.1 hp]
  | a :: l, m, hp, h1, h2 => by
    cases m with
    | nil => exact absurd hp.length_eq (by simp)
    | cons b m =>
      obtain ⟨p1, p2⟩ := List.pairwise_cons.1 h1
      obtain ⟨q1, q2⟩ := List.pairwise_cons.1 h2
      have e : a = b := by
        rcases List.mem_cons.1 (hp.mem_iff.1 (List.mem_cons_self ..)) with e | ha
        · exact e
        · rcases List.mem_cons.1 (hp.mem_iff.2 (List.mem_cons_self ..)) with e | hb
          · exact e.symm
          · have := befB_trans (p1 b hb) (q1 a ha)
            rw [befB_irrefl] at this
            cases this
      subst e
      rw [rise_eq (List.Perm.cons_inv hp) p2 q2]
/-- What CrossPut tells. -/
noncomputable def putT (rs : List Crs) (c : Crs) : List Crs := if 400 < rs.length then [] else if rightB rs = true ∧ rightB (spP c false rs) = true then spP c false rs else rs
/-- What CrossDrop tells. -/
noncomputable def dropT (rs : List Crs) (p t : ByteArray) : List Crs := if 400 < rs.length ∨ 20000 < p.size ∨ 20000 < t.size then [] else if rightB rs = true then offK (p, t) rs else rs
theorem spP_mem {c : Crs} {rs : List Crs} : ∀ x ∈ spP c false rs, x = c ∨ x ∈ rs := fun x hx => by
  rcases List.mem_cons.1 ((spP_perm c rs).mem_iff.1 hx) with e | h
  · exact .inl e
  · exact .inr ((offK_sub _ _).subset h)
theorem spP_len (c : Crs) (rs : List Crs) : (spP c false rs).length ≤ rs.length + 1 := by
  have h1 := (spP_perm c rs).length_eq
  have h2 := (offK_sub (thK c) rs).length_le
  simp at h1
  omega
theorem offK_rise {k : ByteArray × ByteArray} {rs : List Crs} (h : RightC rs) : (offK k rs).Pairwise fun a b => befB a b = true := h.pair.sublist (offK_sub _ _)
theorem spP_of_put {c : Crs} {rs out : List Crs} (h : RightC rs) (hp : out.Perm (putC thK c rs)) (hs : out.Pairwise fun a b => befB a b = true) : out = spP c false rs :=
  rise_eq (hp.trans ((putC_perm c h.thPair).trans (spP_perm c rs).symm)) hs (spP_rise c h.pair)
end Go.Proofs.Ytfdfanleigcfpaa
