/- Texts of ours put together: ItP. -/
import Derived.Test.YtibjmokhkjklkaaDoorG11
import Derived.Test.YtibjmokhkjklkaaDoorG02
import Derived.Test.YtibjmokhkjklkaaDoorG12
namespace Go.Proofs.YtibjmokhkjklkaaDoor
open Go.ChangeShapes Go.WideShapes Go.ChangeAt Go.RowKit
open Go.Lib (compareBytes)
/-- Ahead of: by Partner, then by Theirs. -/
def befB (a b : Crs) : Bool := Op.bytesLess a.partner.toList b.partner.toList || (a.partner.toList == b.partner.toList && Op.bytesLess a.theirs.toList b.theirs.toList)
theorem befB_trans {a b c : Crs} (h1 : befB a b = true) (h2 : befB b c = true) : befB a c = true := by
  simp only [befB, Bool.or_eq_true, Bool.and_eq_true, beq_iff_eq] at h1 h2 ⊢
  rcases h1 with h1 | ⟨e1, h1⟩ <;> rcases h2 with h2 | ⟨e2, h2⟩
  · exact .inl (bl_trans h1 h2)
  · exact .inl (e2 ▸ h1)
  · exact .inl (e1 ▸ h2)
  · exact .inr ⟨e1.trans e2, bl_trans h1 h2⟩
theorem befB_irrefl (a : Crs) : befB a a = false := by simp [befB, bl_irrefl]
/-- itemKey's own order. -/
def kcmp (a b : ByteArray × ByteArray) : Int := if compareBytes a.1.data.toList b.1.data.toList = 0 then compareBytes a.2.data.toList b.2.data.toList else compareBytes a.1.data.toList b.1.data.toList
def thK (c : Crs) : ByteArray × ByteArray := (c.partner, c.theirs)
def owK (c : Crs) : ByteArray × ByteArray := (c.partner, c.own)
theorem befB_key {a b : Crs} (h : befB a b = true) : thK a ≠ thK b := fun e => by
  simp only [thK, Prod.mk.injEq] at e
  simp [befB, e.1, e.2, bl_irrefl] at h
theorem kcmp_pos (c d : Crs) : 0 < kcmp (thK c) (thK d) ↔ befB d c = true := by
  show 0 < (if compareBytes c.partner.data.toList d.partner.data.toList = 0 then compareBytes c.theirs.data.toList d.theirs.data.toList else compareBytes c.partner.data.toList d.partner.data.toList) ↔ befB d c = true
  simp only [befB, Bool.or_eq_true, Bool.and_eq_true, beq_iff_eq, ByteArray.toList_eq]
  by_cases h : compareBytes c.partner.data.toList d.partner.data.toList = 0
  · rw [if_pos h, cb_pos]
    have e := (cb_zero _ _).1 h
    rw [e]
    simp [bl_irrefl]
  · rw [if_neg h, cb_pos]
    have e : ¬ d.partner.data.toList = c.partner.data.toList := fun e => h ((cb_zero _ _).2 e.symm)
    simp [e]
theorem kcmp_first {c : Crs} (h : nameB c.partner = true) : 0 < kcmp (thK c) (⟨#[]⟩, ⟨#[]⟩) := by
  have h1 : 1 ≤ c.partner.size := by
    simp only [nameB, Bool.and_eq_true, decide_eq_true_eq] at h
    exact h.1.1.1
  show 0 < (if compareBytes c.partner.data.toList [] = 0 then compareBytes c.theirs.data.toList [] else compareBytes c.partner.data.toList [])
  cases hl : c.partner.data.toList with
  | nil =>
    have : c.partner.data.toList.length = 0 := by rw [hl]; rfl
    have e : c.partner.size = c.partner.data.toList.length := by simp
    omega
  | cons x r => simp [compareBytes]
/-- All three are names. -/
def crsB (c : Crs) : Bool := nameB c.partner && (nameB c.theirs && nameB c.own)
/-- What is asked at place i. -/
structure OkAt (rs : List Crs) (i : Nat) (c : Crs) : Prop where
  names : crsB c = true
  rise : ∀ d, 0 < i → rs[i - 1]? = some d → befB d c = true
  once : ∀ j d, j < i → rs[j]? = some d → owK d ≠ owK c
structure RightC (rs : List Crs) : Prop where
  len : rs.length ≤ 200
  ok : ∀ i c, rs[i]? = some c → OkAt rs i c
open Classical in
noncomputable def rightB (rs : List Crs) : Bool := decide (RightC rs)
theorem rightB_yes {rs : List Crs} (h : RightC rs) : rightB rs = true := by simp [rightB, h]
theorem rightB_no {rs : List Crs} (h : ¬ RightC rs) : rightB rs = false := by simp [rightB, h]
theorem rightB_iff {rs : List Crs} : rightB rs = true ↔ RightC rs := by simp [rightB]
theorem rise_all {rs : List Crs} : ∀ {k : Nat}, (∀ i c, i ≤ k → rs[i]? = some c → OkAt rs i c) → ∀ i d c, i < k → rs[i]? = some d → rs[k]? = some c → befB d c = true
  | 0, _, i, _, _, h, _, _ => by omega
  | k + 1, h, i, d, c, hi, hd, hc => by
    have hk : k < rs.length := by have := (List.getElem?_eq_some_iff.1 hc).1; omega
    have e := List.getElem?_eq_getElem hk
    have h1 := (h (k + 1) c (Nat.le_refl _) hc).rise rs[k] (by omega) e
    rcases Nat.lt_or_ge i k with g | g
    · exact befB_trans (rise_all (fun i c hi => h i c (by omega)) i d rs[k] g hd e) h1
    · obtain rfl : i = k := by omega
      rw [hd] at e
      cases e
      exact h1
theorem crsB_sizes {c : Crs} (h : crsB c = true) : c.partner.size ≤ 12 ∧ c.theirs.size ≤ 12 ∧ c.own.size ≤ 12 := by
  simp only [crsB, nameB, Bool.and_eq_true, decide_eq_true_eq] at h
  omega
theorem RightC.pair {rs : List Crs} (h : RightC rs) : rs.Pairwise fun a b => befB a b = true := by
  rw [List.pairwise_iff_getElem]
  intro i j hi hj hij
  exact rise_all (k := j) (fun i c _ hc => h.ok i c hc) i _ _ hij (List.getElem?_eq_getElem hi) (List.getElem?_eq_getElem hj)
/-- The one of that key. -/
def atK (kf : Crs → ByteArray × ByteArray) (k : ByteArray × ByteArray) (rs : List Crs) : Option Crs := rs.find? fun c => decide (kf c = k)
theorem atK_some {kf : Crs → ByteArray × ByteArray} {rs : List Crs} (h : rs.Pairwise fun a b => kf a ≠ kf b) {c : Crs} (hc : c ∈ rs) : atK kf (kf c) rs = some c := by
  induction rs with
  | nil => cases hc
  | cons d r ih =>
    obtain ⟨h1, h2⟩ := List.pairwise_cons.1 h
    unfold atK
    rcases List.mem_cons.1 hc with rfl | hc
    · simp
    · rw [List.find?_cons_of_neg (by simpa using h1 c hc)]
      exact ih h2 hc
theorem atK_none {kf : Crs → ByteArray × ByteArray} {rs : List Crs} {k : ByteArray × ByteArray} (h : ∀ c ∈ rs, kf c ≠ k) : atK kf k rs = none := by
  unfold atK
  rw [List.find?_eq_none]
  intro c hc
  simpa using h c hc
theorem RightC.thPair {rs : List Crs} (h : RightC rs) : rs.Pairwise fun a b => thK a ≠ thK b := h.pair.imp fun hb => befB_key hb
theorem RightC.owPair {rs : List Crs} (h : RightC rs) : rs.Pairwise fun a b => owK a ≠ owK b := by
  rw [List.pairwise_iff_getElem]
  intro i j hi hj hij
  exact (h.ok j _ (List.getElem?_eq_getElem hj)).once i _ hij (List.getElem?_eq_getElem hi)
/-- What CrossOwn and CrossTheirs tell. -/
noncomputable def ownT (rs : List Crs) (p t : ByteArray) : ByteArray := if rightB rs = true ∧ p.size ≤ 20000 ∧ t.size ≤ 20000 then ((atK thK (p, t) rs).map (·.own)).getD t else ⟨#[]⟩
noncomputable def theirT (rs : List Crs) (p o : ByteArray) : ByteArray := if rightB rs = true ∧ p.size ≤ 20000 ∧ o.size ≤ 20000 then ((atK owK (p, o) rs).map (·.theirs)).getD o else ⟨#[]⟩
end Go.Proofs.YtibjmokhkjklkaaDoor
