/- Plain lemmas on pieces of a text: how long they are together, when a piece without its releases is empty, what stands ahead of the first mark that is not released. -/
import Derived.Test.YtbdjaohfnbnacaaTake
import Derived.Test.YtbdjaohfnbnacaaCutExt
namespace Go.Proofs.Ytbdjaohfnbnacaa
open Go.RowKit
/-- The length of pieces with a mark behind each. -/
def sumP (L : List ByteArray) : Nat := (L.map fun p => p.size + 1).sum
theorem cutZ_sum (y : Int) (pre : List (UInt8 × Bool)) : ((cutZ y pre).1.map fun l => l.length + 1).sum + (cutZ y pre).2.length = pre.length := by
  have h : ∀ (t : List (UInt8 × Bool)) (z : List (List Int) × List Int), ((t.foldl (cutS y) z).1.map fun l => l.length + 1).sum + (t.foldl (cutS y) z).2.length = (z.1.map fun l => l.length + 1).sum + z.2.length + t.length := by
    intro t
    induction t with
    | nil => intro z; simp
    | cons x t ih =>
      intro z
      rw [List.foldl_cons, ih]
      unfold cutS
      split
      · simp
        omega
      · simp
        omega
  have := h pre ([], [])
  simpa [cutZ] using this
theorem pieces_sum (d y : Int) (s : ByteArray) : sumP (piecesS d y s) = s.size + 1 := by
  have h := cutZ_sum y (upto s d s.size)
  rw [upto_length] at h
  unfold sumP piecesS
  rw [List.map_map, List.map_append, List.sum_append]
  have e2 : ((fun p : ByteArray => p.size + 1) ∘ strOfNums) = fun l => l.length + 1 := funext fun l => by simp [strOfNums_size]
  rw [e2]
  simp
  omega
theorem sumP_cons (p : ByteArray) (L : List ByteArray) : sumP (p :: L) = p.size + 1 + sumP L := by simp [sumP]
theorem fault_neg {a b c d : Int} {s : ByteArray} (h : faultF a b c d s < 0) : (upto s d s.size).findIdx? (badB a b c d) = none ∧ wtB d (upto s d s.size) = false := by
  unfold faultF at h
  cases hf : (upto s d s.size).findIdx? (badB a b c d) with
  | some k =>
    rw [hf] at h
    simp only at h
    split at h
    · next g =>
      rcases k with _ | k
      · simp [st] at g
      · omega
    · omega
  | none =>
    rw [hf] at h
    simp only at h
    refine ⟨rfl, ?_⟩
    cases hw : wtB d (upto s d s.size)
    · rfl
    · rw [hw] at h
      simp only [if_true] at h
      have h0 : s.size = 0 := by omega
      rw [h0] at hw
      simp [upto, wtB] at hw
theorem plain_size {a b c d : Int} {s : ByteArray} (h : faultF a b c d s < 0) : (plainS d s).size = 0 ↔ s.size = 0 := by
  obtain ⟨_, hw⟩ := fault_neg h
  unfold plainS
  rw [strOfNums_size]
  generalize s.size = n at hw ⊢
  cases n with
  | zero => simp [upto, plainL]
  | succ n =>
    rw [upto_succ, wtB_snoc] at hw
    rw [upto_succ, plainL_byte d _ _ hw]
    simp
theorem isE_iff (s : ByteArray) : isE s = true ↔ s.size = 0 := by
  unfold isE
  rw [Lib.toList_data, List.isEmpty_iff, ← List.length_eq_zero_iff]
  simp
theorem isE_plain {a b c d : Int} {s : ByteArray} (h : faultF a b c d s < 0) : isE (plainS d s) = isE s := by
  rw [Bool.eq_iff_iff, isE_iff, isE_iff]
  exact plain_size h
/-- Of pieces without a fault: does the last one end the element badly? -/
theorem ends_plain {a b c d : Int} {P : List ByteArray} (h : ∀ p ∈ P, faultF a b c d p < 0) : endsE (P.map (plainS d)) = endsE P := by
  unfold endsE
  rw [List.length_map, List.getElem?_map]
  cases hg : P[P.length - 1]? with
  | none => rfl
  | some p => simp only [Option.map_some, Option.getD_some]; rw [isE_plain (h p (List.mem_of_getElem? hg))]
theorem blank_plain {a b c d : Int} {y : Int} {p : ByteArray} (h : ∀ q ∈ piecesS d y p, faultF a b c d q < 0) (hb : blank1 ((piecesS d y p).map (plainS d)) = true) : p.size = 0 := by
  have hs := pieces_sum d y p
  unfold blank1 at hb
  simp only [List.length_map, Bool.and_eq_true, decide_eq_true_eq] at hb
  obtain ⟨h1, h2⟩ := hb
  obtain ⟨q, hq⟩ := List.length_eq_one_iff.1 h1
  rw [hq] at h2 hs h
  simp at h2
  rw [isE_plain (h q (by simp)), isE_iff] at h2
  simp [sumP] at hs
  omega
theorem bytesL_upto (s : ByteArray) (d : Int) : ∀ k, k ≤ s.size → strOfNums (bytesL (upto s d k)) = s.extract 0 k := by
  intro k
  induction k with
  | zero => intro _; exact ext_nil s 0
  | succ k ih =>
    intro hk
    rw [upto_succ, bytesL_snoc, item_eq s d k (by omega)]
    exact ext_snoc s _ 0 k (by omega) (by omega) (ih (by omega))
theorem take_at {d y : Int} {s : ByteArray} {k : Nat} (hk : k < s.size) (hn : ∀ j, j < k → isBy y (item s d j) = false) (hy : isBy y (item s d k) = true) : takeR d y s = some (s.extract 0 k) := by
  unfold takeR
  have hx : (upto s d s.size).findIdx? (isBy y) = some k := by
    rw [List.findIdx?_eq_some_iff_getElem]
    refine ⟨by rw [upto_length]; exact hk, ?_, fun j hj => ?_⟩
    · have e := upto_get s d s.size k hk
      rw [List.getElem?_eq_getElem (by rw [upto_length]; exact hk)] at e
      rw [Option.some.inj e]
      exact hy
    · have e := upto_get s d s.size j (by omega)
      rw [List.getElem?_eq_getElem (by rw [upto_length]; omega)] at e
      rw [Option.some.inj e, hn j hj]
      simp
  rw [hx, Option.map_some, bytesL_upto s d k (by omega)]
theorem take_non {d y : Int} {s : ByteArray} (hn : ∀ j, j < s.size → isBy y (item s d j) = false) : takeR d y s = none := by
  unfold takeR
  have hx : (upto s d s.size).findIdx? (isBy y) = none := by
    rw [List.findIdx?_eq_none_iff]
    intro x hx
    obtain ⟨j, hj⟩ := List.getElem?_of_mem hx
    have hlt := (List.getElem?_eq_some_iff.1 hj).1
    rw [upto_length] at hlt
    rw [upto_get s d s.size j hlt] at hj
    rw [← Option.some.inj hj]
    exact hn j hlt
  rw [hx]
  rfl
/-- What is read of a right syntax and a text that is not too long. -/
def rdI (a b c d : Int) (s : ByteArray) : Int × Int × Int × Option Seg :=
  if s.size = 0 then (6, 0, 0, none) else match takeR d a s with
    | none => (4, 0, 0, none)
    | some q => match segR a b c d q with
      | .inl e => (3, e, 0, none)
      | .inr g => (0, 0, q.size + 1, some g)
end Go.Proofs.Ytbdjaohfnbnacaa
