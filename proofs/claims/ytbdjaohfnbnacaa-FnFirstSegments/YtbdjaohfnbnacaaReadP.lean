/- What is read of an element: the pieces at Comp, each without its releases, or the place of the first fault. -/
import Derived.Test.YtbdjaohfnbnacaaCutBase
import Derived.Test.YtbdjaohfnbnacaaWithout
import Derived.Test.YtbdjaohfnbnacaaRightG
namespace Go.Proofs.Ytbdjaohfnbnacaa
open Go.RowKit
/-- The place of the first fault of a text, or -1. -/
def faultF (a b c d : Int) (s : ByteArray) : Int :=
  match (upto s d s.size).findIdx? (badB a b c d) with
  | some k => if st s d k = true then (k : Int) - 1 else k
  | none => if wtB d (upto s d s.size) = true then (s.size : Int) - 1 else -1
/-- The text without its releases. -/
def plainS (d : Int) (s : ByteArray) : ByteArray := strOfNums (plainL d (upto s d s.size))
theorem upto_get (s : ByteArray) (d : Int) (n k : Nat) (h : k < n) : (upto s d n)[k]? = some (item s d k) := by
  simp [upto, h]
theorem upto_take2 (s : ByteArray) (d : Int) (n k : Nat) (h : k ≤ n) : (upto s d n).take k = upto s d k := by
  apply List.ext_getElem?
  intro i
  rcases Nat.lt_or_ge i k with g | g
  · rw [List.getElem?_take_of_lt g, upto_get s d n i (by omega), upto_get s d k i g]
  · rw [List.getElem?_eq_none (by rw [List.length_take, upto_length]; omega), List.getElem?_eq_none (by rw [upto_length]; omega)]
theorem res_fault {a b c d : Int} {s : ByteArray} {P : List Int} {f : Int} (h : Res a b c d s P f) : f = faultF a b c d s ∧ (f < 0 → strOfNums P = plainS d s) ∧ -1 ≤ f := by
  rcases h with ⟨k, hk, hg, hb, hf⟩ | ⟨hg, hw, hf⟩ | ⟨hg, hw, hf, hP⟩
  · have hx : (upto s d s.size).findIdx? (badB a b c d) = some k := by
      rw [List.findIdx?_eq_some_iff_getElem]
      refine ⟨by rw [upto_length]; exact hk, ?_, fun j hj => ?_⟩
      · have e := upto_get s d s.size k hk
        rw [List.getElem?_eq_getElem (by rw [upto_length]; exact hk)] at e
        rw [Option.some.inj e]
        exact hb
      · have e := upto_get s d s.size j (by omega)
        rw [List.getElem?_eq_getElem (by rw [upto_length]; omega)] at e
        rw [Option.some.inj e, hg _ (List.mem_of_getElem? (upto_get s d k j hj))]
        simp
    have e : f = faultF a b c d s := by
      unfold faultF
      rw [hx]
      exact hf
    have hst : st s d k = true → 1 ≤ k := fun h => by
      rcases Nat.eq_zero_or_pos k with rfl | g
      · simp [st] at h
      · exact g
    refine ⟨e, fun hn => ?_, ?_⟩
    · rw [hf] at hn
      split at hn
      · rename_i g
        have := hst g
        omega
      · omega
    · rw [hf]
      split <;> omega
  · have hx : (upto s d s.size).findIdx? (badB a b c d) = none := by
      rw [List.findIdx?_eq_none_iff]
      intro x hx
      rw [hg x hx]
    have e : f = faultF a b c d s := by
      unfold faultF
      rw [hx]
      simp only [hw, if_true]
      exact hf
    have hpos : 1 ≤ s.size := by
      rcases Nat.eq_zero_or_pos s.size with g | g
      · rw [g] at hw
        simp [upto, wtB] at hw
      · exact g
    exact ⟨e, fun hn => by omega, by omega⟩
  · have hx : (upto s d s.size).findIdx? (badB a b c d) = none := by
      rw [List.findIdx?_eq_none_iff]
      intro x hx
      rw [hg x hx]
    have e : f = faultF a b c d s := by
      unfold faultF
      rw [hx]
      simp only [hw]
      exact hf
    exact ⟨e, fun _ => by rw [hP]; rfl, by omega⟩
/-- The pieces at a mark, as texts. -/
def piecesS (d y : Int) (s : ByteArray) : List ByteArray := ((cutZ y (upto s d s.size)).1 ++ [(cutZ y (upto s d s.size)).2]).map strOfNums
/-- The parts, one by one: the place of the first fault, or the texts. -/
def elScan (a b c d : Int) : List ByteArray → Int → List ByteArray → Int ⊕ List ByteArray
  | [], _, acc => .inr acc
  | p :: t, at_, acc => if 0 ≤ faultF a b c d p then .inl (at_ + faultF a b c d p) else if partB (plainS d p) = true then elScan a b c d t (at_ + p.size + 1) (acc ++ [plainS d p]) else .inl at_
/-- What is read of an element. -/
def elemR (a b c d : Int) (s : ByteArray) : Int ⊕ List ByteArray :=
  if 4 < (piecesS d c s).length then .inl 0 else
    match elScan a b c d (piecesS d c s) 0 [] with
    | .inl e => .inl e
    | .inr ps => if endsE ps = true then .inl 0 else .inr ps
theorem pieces_pos (d y : Int) (s : ByteArray) : 0 < (piecesS d y s).length := by simp [piecesS]
theorem pieces_len (d y : Int) (s : ByteArray) : (piecesS d y s).length ≤ s.size + 1 := by
  have := (cutZ_len y (upto s d s.size)).1
  rw [upto_length] at this
  simp [piecesS]
  exact this
theorem strs_pieces (d y : Int) (s : ByteArray) : strs ((cutZ y (upto s d s.size)).1 ++ [(cutZ y (upto s d s.size)).2]) = (piecesS d y s).map Value.string := by
  simp [strs, piecesS]
end Go.Proofs.Ytbdjaohfnbnacaa
