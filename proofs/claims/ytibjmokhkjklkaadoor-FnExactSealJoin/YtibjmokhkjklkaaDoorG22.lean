/- Texts of ours put together: EtL, SlP. -/
import Derived.Test.YtibjmokhkjklkaaDoorG04
import Derived.Test.YtibjmokhkjklkaaDoorG19
namespace Go.Proofs.YtibjmokhkjklkaaDoor
open Go.ChangeShapes Go.WideShapes Go.ChangeAt Go.RowKit
/-- Each is right. -/
noncomputable def allE (rs : List EvR) : Bool := rs.all evB
theorem allE_iff {rs : List EvR} : allE rs = true ↔ ∀ c ∈ rs, evB c = true := by simp [allE, List.all_eq_true]
theorem allE_at {rs : List EvR} {k : Nat} {c : EvR} (h : rs[k]? = some c) (hn : evB c = false) : allE rs = false := by
  cases e : allE rs with
  | false => rfl
  | true =>
    have := allE_iff.1 e c (List.mem_of_getElem? h)
    rw [this] at hn
    cases hn
theorem allE_yes {rs : List EvR} (h : ∀ i c, i < rs.length → rs[i]? = some c → evB c = true) : allE rs = true := allE_iff.2 fun c hc => by
  obtain ⟨i, hi⟩ := List.mem_iff_getElem?.1 hc
  exact h i c (List.getElem?_eq_some_iff.1 hi).1 hi
end Go.Proofs.YtibjmokhkjklkaaDoor
namespace Go.Proofs.YtibjmokhkjklkaaDoor
open Go.ChangeShapes Go.WideShapes Go.ChangeAt Go.RowKit
def chainZ (x : Int) : List EvR → List Int
  | [] => []
  | e :: r => sealT x (evX e) :: chainZ (sealT x (evX e)) r
theorem chainZ_len (x : Int) (rs : List EvR) : (chainZ x rs).length = rs.length := by
  induction rs generalizing x with
  | nil => rfl
  | cons e r ih => simp [chainZ, ih]
theorem chainZ_app (x : Int) (l : List EvR) (e : EvR) : chainZ x (l ++ [e]) = chainZ x l ++ [sealT ((chainZ x l).getLastD x) (evX e)] := by
  induction l generalizing x with
  | nil => rfl
  | cons a r ih =>
    simp only [List.cons_append, chainZ, ih, List.getLastD_cons]
theorem chainZ_next (x : Int) {rs : List EvR} {k : Nat} {e : EvR} (h : rs[k]? = some e) : chainZ x (rs.take (k + 1)) = chainZ x (rs.take k) ++ [sealT ((chainZ x (rs.take k)).getLastD x) (evX e)] := by
  rw [List.take_add_one, h]
  exact chainZ_app _ _ _
/-- The number behind k events. -/
def numZ (rs : List EvR) (k : Nat) : Int := (chainZ 1 (rs.take k)).getLastD 1
theorem numZ_next {rs : List EvR} {k : Nat} {e : EvR} (h : rs[k]? = some e) : numZ rs (k + 1) = sealT (numZ rs k) (evX e) := by
  unfold numZ
  rw [chainZ_next 1 h]
  simp
theorem chainZ_bd (x : Int) (rs : List EvR) : ∀ z ∈ chainZ x rs, 0 ≤ z ∧ z < 4294967291 := by
  induction rs generalizing x with
  | nil => simp [chainZ]
  | cons e r ih =>
    intro z hz
    simp only [chainZ, List.mem_cons] at hz
    rcases hz with rfl | hz
    · exact sealT_lt _ _
    · exact ih _ z hz
theorem numZ_bd (rs : List EvR) (k : Nat) : 0 ≤ numZ rs k ∧ numZ rs k < 4294967291 := by
  unfold numZ
  rcases h : (chainZ 1 (rs.take k)).getLast? with _ | z
  · rw [List.getLastD_eq_getLast?, h]; simp
  · rw [List.getLastD_eq_getLast?, h]
    exact chainZ_bd _ _ z (List.mem_of_getLast? h)
/-- Are they right events, and few enough? -/
noncomputable def okE (rs : List EvR) : Bool := decide (rs.length ≤ 60) && allE rs
theorem okE_parts {rs : List EvR} (h : okE rs = true) : rs.length ≤ 60 ∧ ∀ c ∈ rs, evB c = true := by
  unfold okE at h
  rw [Bool.and_eq_true, decide_eq_true_eq] at h
  exact ⟨h.1, allE_iff.1 h.2⟩
theorem okE_yes {rs : List EvR} (h1 : rs.length ≤ 60) (h2 : allE rs = true) : okE rs = true := by
  unfold okE
  rw [h2, decide_eq_true h1]
  rfl
theorem okE_long {rs : List EvR} (h : ¬ rs.length ≤ 60) : okE rs = false := by
  unfold okE
  rw [decide_eq_false h]
  rfl
theorem okE_no {rs : List EvR} (h : allE rs = false) : okE rs = false := by
  unfold okE
  rw [h]
  simp
/-- What SealChain tells. -/
noncomputable def chainT (rs : List EvR) : List Int := if okE rs = true then chainZ 1 rs else []
theorem chainT_yes {rs : List EvR} (h : okE rs = true) : chainT rs = chainZ 1 rs := if_pos h
theorem chainT_no {rs : List EvR} (h : okE rs = false) : chainT rs = [] := if_neg (by rw [h]; simp)
theorem chainT_len (rs : List EvR) : (chainT rs).length ≤ 60 := by
  cases h : okE rs with
  | false => rw [chainT_no h]; simp
  | true => rw [chainT_yes h, chainZ_len]; exact (okE_parts h).1
/-- The first place at which two lists of numbers are unlike; -1: there is none. -/
def unlikeK (k : Int) : List Int → List Int → Int
  | [], [] => -1
  | a :: x, b :: y => if a = b then unlikeK (k + 1) x y else k
  | [], _ :: _ => k
  | _ :: _, [] => k
def unlikeT (a b : List Int) : Int := unlikeK 0 a b
theorem unlikeK_same (k : Int) (a : List Int) : unlikeK k a a = -1 := by
  induction a generalizing k with
  | nil => rfl
  | cons x r ih => simp only [unlikeK, if_true]; exact ih _
theorem unlikeT_same (a : List Int) : unlikeT a a = -1 := unlikeK_same 0 a
theorem unlikeK_at (k : Int) {a b : List Int} {i : Nat} (h1 : ∀ j, j < i → a[j]? = b[j]?) (h2 : a[i]? ≠ b[i]?) : unlikeK k a b = k + (i : Int) := by
  induction i generalizing k a b with
  | zero =>
    match a, b with
    | [], [] => exact absurd rfl h2
    | [], _ :: _ => simp [unlikeK]
    | _ :: _, [] => simp [unlikeK]
    | x :: p, y :: q =>
      have : x ≠ y := fun e => h2 (by simp [e])
      simp [unlikeK, this]
  | succ n ih =>
    match a, b with
    | [], [] => exact absurd rfl h2
    | [], _ :: _ => have := h1 0 (by omega); simp at this
    | _ :: _, [] => have := h1 0 (by omega); simp at this
    | x :: p, y :: q =>
      have hxy := h1 0 (by omega)
      simp at hxy
      have := ih (k + 1) (a := p) (b := q) (fun j hj => by have := h1 (j + 1) (by omega); simpa using this) (by simpa using h2)
      simp only [unlikeK, if_pos hxy, this]
      omega
theorem unlikeT_at {a b : List Int} {i : Nat} (h1 : ∀ j, j < i → a[j]? = b[j]?) (h2 : a[i]? ≠ b[i]?) : unlikeT a b = (i : Int) := by
  rw [unlikeT, unlikeK_at 0 h1 h2]; omega
theorem unlikeK_lt (k : Int) (hk : 0 ≤ k) (a b : List Int) : -1 ≤ unlikeK k a b ∧ unlikeK k a b ≤ k + (min a.length b.length : Nat) := by
  induction a generalizing k b with
  | nil => cases b <;> simp [unlikeK] <;> omega
  | cons x p ih =>
    cases b with
    | nil => simp [unlikeK]; omega
    | cons y q =>
      simp only [unlikeK, List.length_cons]
      split
      · have := ih (k + 1) (by omega) q
        omega
      · omega
theorem unlikeT_lt (a b : List Int) : -1 ≤ unlikeT a b ∧ unlikeT a b ≤ (min a.length b.length : Nat) := by
  have := unlikeK_lt 0 (by omega) a b
  unfold unlikeT
  omega
theorem unlikeT_end {a b : List Int} (h1 : ∀ j, j < min a.length b.length → a[j]? = b[j]?) : unlikeT a b = if a.length = b.length then -1 else ((min a.length b.length : Nat) : Int) := by
  split
  · rename_i e
    have : a = b := by
      apply List.ext_getElem?
      intro i
      by_cases g : i < a.length
      · exact h1 i (by omega)
      · rw [List.getElem?_eq_none (by omega), List.getElem?_eq_none (by omega)]
    rw [this, unlikeT_same]
  · rename_i e
    refine unlikeT_at h1 fun h => ?_
    by_cases g : a.length < b.length
    · rw [List.getElem?_eq_none (by omega), List.getElem?_eq_getElem (by omega)] at h
      cases h
    · rw [List.getElem?_eq_getElem (l := a) (by omega), List.getElem?_eq_none (by omega)] at h
      cases h
/-- What SealFault tells. -/
noncomputable def faultT (rs : List EvR) (c : List Int) : Int := if c.length ≤ 400 ∧ okE rs = true then unlikeT (chainZ 1 rs) c else 0
theorem faultT_yes {rs : List EvR} {c : List Int} (h1 : c.length ≤ 400) (h2 : okE rs = true) : faultT rs c = unlikeT (chainZ 1 rs) c := if_pos ⟨h1, h2⟩
theorem faultT_long {rs : List EvR} {c : List Int} (h : ¬ c.length ≤ 400) : faultT rs c = 0 := if_neg fun g => h g.1
theorem faultT_no {rs : List EvR} {c : List Int} (h : okE rs = false) : faultT rs c = 0 := if_neg fun g => by rw [h] at g; cases g.2
theorem faultT_bd (rs : List EvR) (c : List Int) : -1 ≤ faultT rs c ∧ faultT rs c ≤ 400 := by
  unfold faultT
  split
  · rename_i h
    have := unlikeT_lt (chainZ 1 rs) c
    omega
  · omega
/-- What SealJoin tells. -/
noncomputable def joinT (rs : List EvR) (c : List Int) (e : EvR) : List Int := if 400 < rs.length ∨ 400 < c.length then [] else if rs.length < 60 ∧ evB e = true ∧ faultT rs c = -1 then c ++ [sealT (c.getLastD 1) (evX e)] else c
theorem joinT_none {rs : List EvR} {c : List Int} {e : EvR} (h : 400 < rs.length ∨ 400 < c.length) : joinT rs c e = [] := if_pos h
theorem joinT_same {rs : List EvR} {c : List Int} {e : EvR} (h1 : ¬ 400 < rs.length) (h2 : ¬ 400 < c.length) (h : ¬ (rs.length < 60 ∧ evB e = true ∧ faultT rs c = -1)) : joinT rs c e = c := by
  unfold joinT
  rw [if_neg (by omega), if_neg h]
theorem joinT_yes {rs : List EvR} {c : List Int} {e : EvR} (h1 : rs.length < 60) (h2 : ¬ 400 < c.length) (h3 : evB e = true) (h4 : faultT rs c = -1) : joinT rs c e = c ++ [sealT (c.getLastD 1) (evX e)] := by
  unfold joinT
  rw [if_neg (by omega), if_pos ⟨h1, h3, h4⟩]
end Go.Proofs.YtibjmokhkjklkaaDoor
