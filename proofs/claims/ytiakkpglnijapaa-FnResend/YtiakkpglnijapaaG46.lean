/- Texts of ours put together: TkD. -/
import Derived.Test.YtiakkpglnijapaaG45
namespace Go.Proofs.Ytiakkpglnijapaa
open Go.ChangeShapes Go.WideShapes Go.ChangeAt Go.RowKit
/-- The list of which those at the places ps were sent. -/
def updL (d : Int) (L : List OutR) (ps : List Nat) : List OutR := L.mapIdx fun i o => if i ∈ ps then trdO d o else o
def seS (L : List OutR) (ps : List Nat) : List SenR := ps.filterMap fun i => (L[i]?).map senO
theorem updL_len (d : Int) (L : List OutR) (ps : List Nat) : (updL d L ps).length = L.length := by simp [updL]
theorem updL_get (d : Int) (L : List OutR) (ps : List Nat) (i : Nat) : (updL d L ps)[i]? = (L[i]?).map fun o => if i ∈ ps then trdO d o else o := by simp [updL]
theorem updL_nil (d : Int) (L : List OutR) : updL d L [] = L := by
  apply List.ext_getElem?
  intro i
  rw [updL_get]
  cases L[i]? <;> simp
theorem updL_step (d : Int) (L : List OutR) (ps : List Nat) (p : Nat) (c : OutR) (hc : L[p]? = some c) : (updL d L ps).set p (trdO d c) = updL d L (ps ++ [p]) := by
  apply List.ext_getElem?
  intro i
  rw [List.getElem?_set, updL_len, updL_get, updL_get]
  by_cases e : p = i
  · subst e
    have := (List.getElem?_eq_some_iff.1 hc).1
    rw [if_pos rfl, if_pos this, hc]
    simp
  · rw [if_neg e]
    cases L[i]? with
    | none => rfl
    | some o =>
      have : ¬ i = p := fun h => e h.symm
      simp [this]
theorem dueP_mem {d : Int} {L : List OutR} {k i : Nat} : i ∈ dueP d L k ↔ i < k ∧ (L[i]?).any (sntB d) = true := by simp [dueP]
theorem dueP_nodup (d : Int) (L : List OutR) (k : Nat) : (dueP d L k).Nodup := List.nodup_range.filter _
theorem seS_app (L : List OutR) (ps : List Nat) (p : Nat) (c : OutR) (hc : L[p]? = some c) : seS L (ps ++ [p]) = seS L ps ++ [senO c] := by simp [seS, hc]
theorem updL_end (d : Int) (L : List OutR) : updL d L (dueP d L L.length) = L.map (aftO d) := by
  apply List.ext_getElem?
  intro i
  rw [updL_get, List.getElem?_map]
  cases h : L[i]? with
  | none => rfl
  | some o =>
    have hi := (List.getElem?_eq_some_iff.1 h).1
    simp only [Option.map_some]
    congr 1
    unfold aftO
    cases hs : sntB d o with
    | true => rw [if_pos (dueP_mem.2 ⟨hi, by rw [h]; simpa using hs⟩), if_pos rfl]
    | false => rw [if_neg (fun hm => by have := (dueP_mem.1 hm).2; rw [h] at this; simp [hs] at this), if_neg (by simp)]
theorem seS_end (d : Int) (L : List OutR) : ∀ k, k ≤ L.length → seS L (dueP d L k) = tSe d (L.take k)
  | 0, _ => rfl
  | k + 1, hk => by
    have hc := List.getElem?_eq_getElem (show k < L.length by omega)
    have e : L.take (k + 1) = L.take k ++ [L[k]] := by rw [List.take_add_one, hc]; rfl
    rw [dueP_succ d L k _ hc, e, tSe_app, ← seS_end d L k (by omega)]
    cases hs : sntB d L[k] with
    | true => rw [if_pos rfl, if_pos rfl, seS_app _ _ _ _ hc]
    | false => rw [if_neg (by simp), if_neg (by simp)]; simp
theorem chB_cons (p : Nat) (qs : List Nat) : (chB (p :: qs)).getD 0 undef = .int .i64 (p : Int) ∧ (chB (p :: qs)).extract 1 (chB (p :: qs)).size = chB qs ∧ 0 < (chB (p :: qs)).size := by
  refine ⟨?_, ?_, ?_⟩
  · simp [chB]
  · apply Array.ext'
    simp only [chB, List.map_cons, Array.toList_extract, List.size_toArray, List.length_cons, List.length_map, List.extract_eq_take_drop, List.drop_succ_cons, List.drop_zero]
    exact List.take_of_length_le (by simp)
  · simp [chB]
end Go.Proofs.Ytiakkpglnijapaa
