/- Plain lemmas: what DiffSum tells. -/
import Derived.Test.YtlckjhoobpjnaaaRowDf
namespace Go.Proofs.Ytlckjhoobpjnaaa
open Go.ChangeShapes Go.WideShapes Go.ChangeAt Go.RowKit
/-- Is a Diff of that Kind and Item? -/
def dfB (k : Int) (i : ByteArray) (d : Dff) : Bool := decide (d.kind = k) && (d.item.toList == i.toList)
/-- What is told so far, with one Diff more. -/
def dfAdd (k : Int) (i : ByteArray) (s : Int) (d : Dff) : Int := if dfB k i d = true then wrap64 (s + d.qty) else s
def dsum (k : Int) (i : ByteArray) (rs : List Dff) : Int := rs.foldl (dfAdd k i) 0
theorem dsum_next {k : Int} {i : ByteArray} {rs : List Dff} {n : Nat} {d : Dff} (h : rs[n]? = some d) : dsum k i (rs.take (n + 1)) = dfAdd k i (dsum k i (rs.take n)) d := by
  unfold dsum
  rw [List.take_add_one, h, List.foldl_append]
  rfl
theorem dfAdd_no {k : Int} {i : ByteArray} {s : Int} {d : Dff} (h : dfB k i d = false) : dfAdd k i s d = s := by simp [dfAdd, h]
theorem dfAdd_yes {k : Int} {i : ByteArray} {s : Int} {d : Dff} (h : dfB k i d = true) : dfAdd k i s d = wrap64 (s + d.qty) := by simp [dfAdd, h]
/-- What is picked of a Diff. -/
def pkD (k : Int) (i : ByteArray) (d : Dff) : Int := if dfB k i d = true then d.qty else 0
theorem pkD_no {k : Int} {i : ByteArray} {d : Dff} (h : dfB k i d = false) : pkD k i d = 0 := by simp [pkD, h]
theorem pkD_yes {k : Int} {i : ByteArray} {d : Dff} (h : dfB k i d = true) : pkD k i d = d.qty := by simp [pkD, h]
theorem wrap_in (n : Int) : -9223372036854775808 ≤ wrap64 n ∧ wrap64 n ≤ 9223372036854775807 := by unfold wrap64; omega
theorem wrap_id {n : Int} (h : -9223372036854775808 ≤ n ∧ n ≤ 9223372036854775807) : wrap64 n = n := by unfold wrap64; omega
/-- What DiffSum tells. -/
def diffT (k : Int) (i : ByteArray) (rs : List Dff) : Int := if rs.length ≤ 400 ∧ i.size ≤ 20000 then dsum k i rs else 0
theorem diffT_no1 {k : Int} {i : ByteArray} {rs : List Dff} (h : 400 < rs.length) : diffT k i rs = 0 := by unfold diffT; rw [if_neg (by omega)]
theorem diffT_no2 {k : Int} {i : ByteArray} {rs : List Dff} (h : 20000 < i.size) : diffT k i rs = 0 := by unfold diffT; rw [if_neg (by omega)]
theorem diffT_yes {k : Int} {i : ByteArray} {rs : List Dff} (h1 : rs.length ≤ 400) (h2 : i.size ≤ 20000) : diffT k i rs = dsum k i rs := by unfold diffT; rw [if_pos ⟨h1, h2⟩]
theorem box6 {W : World} {B t : Nat} {a0 a1 a2 a3 a4 a5 : Value} (h : W.heap[B]? = some (.cells #[a0, a1, a2, a3, a4, a5] t)) : W.cell? ⟨B, 0, none⟩ = some a0 ∧ W.cell? ⟨B, 0 + 1, none⟩ = some a1 ∧ W.cell? ⟨B, 0 + 2, none⟩ = some a2 ∧ W.cell? ⟨B, 0 + 3, none⟩ = some a3 ∧ W.cell? ⟨B, 0 + 4, none⟩ = some a4 ∧ W.cell? ⟨B, 0 + 5, none⟩ = some a5 := by
  simp [World.cell?, h]
end Go.Proofs.Ytlckjhoobpjnaaa
