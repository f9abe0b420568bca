/- The lines that are left when lists are closed: pure. -/
import Derived.Test.YtppfobeencnbdaaThP
namespace Go.Proofs.Ytppfobeencnbdaa
open Go.ChangeShapes Go.WideShapes Go.ChangeAt Go.RowKit
/-- Is a line left, of a list that is right or not? -/
noncomputable def lefB (r : Bool) (c : OLn) : Bool := !r || !clZ (stT c)
noncomputable def clF (r : Bool) (rs : List OLn) : List OLn := rs.filter (lefB r)
noncomputable def closT (rs : List OLn) : List OLn := if rs.length ≤ 400 then clF (lnsB rs) rs else []
theorem clF_false (rs : List OLn) : clF false rs = rs := by
  rw [clF, List.filter_eq_self]
  intro c _
  rfl
theorem clF_snoc {r : Bool} {rs : List OLn} {k : Nat} {c : OLn} (h : rs[k]? = some c) : clF r (rs.take (k + 1)) = if lefB r c = true then clF r (rs.take k) ++ [c] else clF r (rs.take k) := by
  rw [List.take_add_one, h]
  simp only [clF, Option.toList, List.filter_append]
  cases hb : lefB r c <;> simp [hb]
theorem clF_len (r : Bool) (rs : List OLn) : (clF r rs).length ≤ rs.length := List.length_filter_le _ _
theorem clF_mem {r : Bool} {rs : List OLn} {c : OLn} (h : c ∈ clF r rs) : c ∈ rs := (List.mem_filter.1 h).1
theorem closT_len (rs : List OLn) : (closT rs).length ≤ rs.length := by
  unfold closT
  split
  · exact clF_len _ _
  · simp
theorem rowNil {W : World} {a : Option Addr} {C : Nat} : RowOl W (.slice a 0 C) [] := ⟨⟨a, C, rfl, fun h => absurd rfl h⟩, by simp, fun i g hi => by simp at hi⟩
end Go.Proofs.Ytppfobeencnbdaa
