/- Pieces of a text by places: what stands between two cuts is that part of the text. -/
import Derived.Test.YtbdjaohfnbnacaaCutImpl
namespace Go.Proofs.Ytbdjaohfnbnacaa
open Go.ChangeShapes Go.WideShapes Go.ChangeAt Go.RowKit
/-- A list of strings of the call's own, beside the syntax's block. -/
structure CL (sb : Nat) (o : Obj) (w W : World) (v : Value) (vals : List Value) : Prop where
  row : W.ownsRow w.heap.size 9 1 v vals.length vals
  fx : W.heap[sb]? = some o
  ob : ∃ c t, o = .cells c t ∧ t ≠ 9
  bel : Below w.heap.size w W
theorem CL.below {sb : Nat} {o : Obj} {w W W' : World} {v : Value} {vals : List Value} (h : CL sb o w W v vals) (hb : Below W.heap.size W W') : CL sb o w W' v vals := by
  have hg : W.grownBy W' none := ⟨hb.os, hb.tape, hb.output, hb.size, fun k hk _ => hb.block k hk⟩
  refine ⟨h.row.kept hg ?_, (hb.block sb (Array.getElem?_eq_some_iff.1 h.fx).1).trans h.fx, h.ob, h.bel.trans (hb.mono h.bel.size)⟩
  cases h1 : v.ownBlock
  · exact .inl rfl
  · exact .inr (by simp)
theorem CL.app {sb : Nat} {o : Obj} {w W w1 : World} {v v' : Value} {vals : List Value} {x : Value} {tmp : Obj} (h : CL sb o w W v vals) (hown' : w1.ownsRow w.heap.size 9 1 v' (vals.length + 1) (vals ++ [x])) (hgrow : (W.alloc tmp).grownBy w1 v.ownBlock) : CL sb o w w1 v' (vals ++ [x]) := by
  obtain ⟨c, t, e1, e2⟩ := h.ob
  have hlt := (Array.getElem?_eq_some_iff.1 h.fx).1
  refine ⟨by simpa using hown', ?_, h.ob, (h.bel.alloc h.bel.size tmp).grown hgrow (by have := h.bel.size; simp; omega) (row_base h.row)⟩
  rw [hgrow.block sb (by simp; omega) (row_not_obj h.row (by rw [h.fx, e1]) e2), Below.heap_alloc W tmp sb hlt]
  exact h.fx
theorem ext_snoc (s : ByteArray) (xs : List Int) (f k : Nat) (hf : f ≤ k) (hk : k < s.size) (h : strOfNums xs = s.extract f k) : strOfNums (xs ++ [((s[k]'hk).toNat : Int)]) = s.extract f (k + 1) := by
  apply ByteArray.ext
  apply Array.toList_inj.1
  have h1 : (strOfNums xs).data.toList = (s.extract f k).data.toList := by rw [h]
  rw [strOfNums_data, Lib.extract_data] at h1
  rw [strOfNums_data, Lib.extract_data, List.map_append, h1]
  have hl : k < s.data.toList.length := by simpa using hk
  rw [show k + 1 - f = (k - f) + 1 by omega, List.take_succ_eq_append_getElem (by simp; omega)]
  congr 1
  simp only [List.map_cons, List.map_nil, List.getElem_drop]
  congr 1
  have : s.data.toList[f + (k - f)] = s[k]'hk := by
    have e : f + (k - f) = k := by omega
    simp only [e]
    rfl
  rw [this]
  simp
theorem ext_nil (s : ByteArray) (k : Nat) : strOfNums [] = s.extract k k := by
  apply ByteArray.ext
  apply Array.toList_inj.1
  rw [strOfNums_data, Lib.extract_data]
  simp
/-- What stands when m bytes are gone through and the piece at hand begins at f. -/
def CutAtF (s : ByteArray) (d y : Int) (f m : Nat) : Prop := f ≤ m ∧ strOfNums (cutZ y (upto s d m)).2 = s.extract f m
theorem cutF_byte {s : ByteArray} {d y : Int} {f k : Nat} (hk : k < s.size) (h : CutAtF s d y f k) (hc : (!st s d k && (((s[k]'hk).toNat : Int) == y)) = false) : CutAtF s d y f (k + 1) ∧ (cutZ y (upto s d (k + 1))).1 = (cutZ y (upto s d k)).1 := by
  have e : cutZ y (upto s d (k + 1)) = ((cutZ y (upto s d k)).1, (cutZ y (upto s d k)).2 ++ [((s[k]'hk).toNat : Int)]) := by
    rw [upto_succ, cutZ_snoc, item_eq s d k hk]
    unfold cutS
    rw [if_neg (by rw [hc]; simp)]
  refine ⟨⟨by have := h.1; omega, ?_⟩, by rw [e]⟩
  rw [e]
  exact ext_snoc s _ f k h.1 hk h.2
theorem cutF_cut {s : ByteArray} {d y : Int} {f k : Nat} (hk : k < s.size) (h : CutAtF s d y f k) (hc : (!st s d k && (((s[k]'hk).toNat : Int) == y)) = true) : CutAtF s d y (k + 1) (k + 1) ∧ strs (cutZ y (upto s d (k + 1))).1 = strs (cutZ y (upto s d k)).1 ++ [.string (s.extract f k)] := by
  have e : cutZ y (upto s d (k + 1)) = ((cutZ y (upto s d k)).1 ++ [(cutZ y (upto s d k)).2], []) := by
    rw [upto_succ, cutZ_snoc, item_eq s d k hk]
    unfold cutS
    rw [if_pos hc]
  refine ⟨⟨Nat.le_refl _, ?_⟩, ?_⟩
  · rw [e]
    exact ext_nil s (k + 1)
  · rw [e, ← h.2]
    simp [strs]
theorem strs_len (ps : List (List Int)) : (strs ps).length = ps.length := by simp [strs]
end Go.Proofs.Ytbdjaohfnbnacaa
