/- Plain lemmas on lists of bytes: what the iterator tells of a text, as a list; the pieces of a cut with the mark between are the text. -/
import Derived.Test.YtbdjaohfnbnacaaCutBase
namespace Go.Proofs.Ytbdjaohfnbnacaa
open Go.RowKit
/-- Each byte with whether it is released. -/
def mk (d : Int) : Bool → List UInt8 → List (UInt8 × Bool)
  | _, [] => []
  | r, x :: t => (x, r) :: mk d (!r && ((x.toNat : Int) == d)) t
/-- Is the byte behind it released? -/
def stE (d : Int) : Bool → List UInt8 → Bool
  | r, [] => r
  | r, x :: t => stE d (!r && ((x.toNat : Int) == d)) t
theorem mk_append (d : Int) (l m : List UInt8) : ∀ r, mk d r (l ++ m) = mk d r l ++ mk d (stE d r l) m := by
  induction l with
  | nil => intro r; rfl
  | cons x t ih => intro r; simp [mk, stE, ih]
theorem stE_append (d : Int) (l m : List UInt8) : ∀ r, stE d r (l ++ m) = stE d (stE d r l) m := by
  induction l with
  | nil => intro r; rfl
  | cons x t ih => intro r; simp [stE, ih]
theorem mk_fst (d : Int) (l : List UInt8) : ∀ r, (mk d r l).map (fun x => (x.1.toNat : Int)) = l.map fun x => (x.toNat : Int) := by
  induction l with
  | nil => intro r; rfl
  | cons x t ih => intro r; simp [mk, ih]
theorem mk_length (d : Int) (l : List UInt8) : ∀ r, (mk d r l).length = l.length := by
  induction l with
  | nil => intro r; rfl
  | cons x t ih => intro r; simp [mk, ih]
theorem upto_take (s : ByteArray) (d : Int) : ∀ k, k ≤ s.size → upto s d k = mk d false (s.data.toList.take k) ∧ st s d k = stE d false (s.data.toList.take k) := by
  intro k
  induction k with
  | zero => intro _; exact ⟨rfl, rfl⟩
  | succ k ih =>
    intro hk
    obtain ⟨h1, h2⟩ := ih (by omega)
    have hl : k < s.data.toList.length := by simpa using (show k < s.size by omega)
    rw [List.take_succ_eq_append_getElem hl, mk_append, stE_append, upto_succ, h1, ← h2, item_eq s d k (by omega), st_succ s d k (by omega)]
    exact ⟨rfl, rfl⟩
theorem upto_all (s : ByteArray) (d : Int) : upto s d s.size = mk d false s.data.toList := by
  rw [(upto_take s d s.size (Nat.le_refl _)).1, List.take_of_length_le (by simp)]
/-- The first k pieces with the mark between. -/
def jn (y : Int) (ps : List (List Int)) : Nat → List Int
  | 0 => []
  | k + 1 => jn y ps k ++ (if k = 0 then [] else [y]) ++ ps[k]?.getD []
theorem jn_pre (y : Int) (ps qs : List (List Int)) : ∀ k, k ≤ ps.length → jn y (ps ++ qs) k = jn y ps k := by
  intro k
  induction k with
  | zero => intro _; rfl
  | succ k ih =>
    intro h
    simp only [jn]
    rw [ih (by omega), List.getElem?_append_left (by omega)]
theorem jn_step (y : Int) (z : List (List Int) × List Int) (x : UInt8 × Bool) : jn y ((cutS y z x).1 ++ [(cutS y z x).2]) ((cutS y z x).1.length + 1) = jn y (z.1 ++ [z.2]) (z.1.length + 1) ++ [(x.1.toNat : Int)] := by
  unfold cutS
  split
  · rename_i h
    simp only [Bool.and_eq_true, beq_iff_eq] at h
    have e : (z.1 ++ [z.2]).length = z.1.length + 1 := by simp
    simp only
    rw [e]
    show jn y (z.1 ++ [z.2] ++ [[]]) (z.1.length + 1) ++ (if z.1.length + 1 = 0 then [] else [y]) ++ (z.1 ++ [z.2] ++ [[]])[z.1.length + 1]?.getD [] = _
    rw [jn_pre y (z.1 ++ [z.2]) [[]] (z.1.length + 1) (by simp), if_neg (by omega), h.2]
    have e2 : (z.1 ++ [z.2] ++ [[]])[z.1.length + 1]?.getD [] = [] := by
      rw [List.getElem?_append_right (by simp)]
      simp
    rw [e2, List.append_nil]
  · simp only [jn]
    rw [jn_pre y z.1 _ z.1.length (Nat.le_refl _), jn_pre y z.1 _ z.1.length (Nat.le_refl _)]
    simp
theorem jn_cutZ (y : Int) (pre : List (UInt8 × Bool)) : jn y ((cutZ y pre).1 ++ [(cutZ y pre).2]) ((cutZ y pre).1.length + 1) = pre.map fun x => (x.1.toNat : Int) := by
  have h : ∀ (l : List (UInt8 × Bool)) (z : List (List Int) × List Int), jn y ((l.foldl (cutS y) z).1 ++ [(l.foldl (cutS y) z).2]) ((l.foldl (cutS y) z).1.length + 1) = jn y (z.1 ++ [z.2]) (z.1.length + 1) ++ l.map fun x => (x.1.toNat : Int) := by
    intro l
    induction l with
    | nil => intro z; simp
    | cons x t ih =>
      intro z
      simp only [List.foldl_cons]
      rw [ih, jn_step]
      simp
  have := h pre ([], [])
  unfold cutZ
  rw [this]
  simp [jn]
theorem strOfNums_bytesOf (l : List UInt8) : strOfNums (l.map fun x => (x.toNat : Int)) = ⟨l.toArray⟩ := by
  apply ByteArray.ext
  apply Array.toList_inj.1
  rw [strOfNums_data, List.map_map]
  have : ((fun n : Int => UInt8.ofNat n.toNat) ∘ fun x : UInt8 => (x.toNat : Int)) = id := by
    funext x
    simp
  rw [this, List.map_id]
theorem strOfNums_self (s : ByteArray) : strOfNums (s.data.toList.map fun x => (x.toNat : Int)) = s := by
  rw [strOfNums_bytesOf]
/-- Joined, the pieces are the text. -/
theorem jn_text (s : ByteArray) (d y : Int) : strOfNums (jn y ((cutZ y (upto s d s.size)).1 ++ [(cutZ y (upto s d s.size)).2]) ((cutZ y (upto s d s.size)).1.length + 1)) = s := by
  rw [jn_cutZ, upto_all, mk_fst, strOfNums_self]
end Go.Proofs.Ytbdjaohfnbnacaa
