/- What DiffsText tells: pure. -/
import Derived.Test.YtoccmgoglkdcpaaDoorRpT
import Derived.Test.YtoccmgoglkdcpaaDoorTxB
import Derived.Test.YtoccmgoglkdcpaaDoorDtI
import Derived.Test.YtoccmgoglkdcpaaDoorOpenDfsI
namespace Go.Proofs.YtoccmgoglkdcpaaDoor
open Go.ChangeShapes Go.WideShapes Go.ChangeAt Go.RowKit
/-- The words of a row of a Diff. -/
def dfR (d : Dff) : List ByteArray := [dfT d]
theorem dfR_len (d : Dff) : (dfR d).length = 1 := rfl
theorem dfR_flat (rs : List Dff) : (rs.map dfR).flatten.length = rs.length := by
  induction rs with
  | nil => rfl
  | cons a r ih => simp only [List.map_cons, List.flatten_cons, List.length_append, dfR_len, ih, List.length_cons]; omega
theorem dfR_row (d : Dff) : rowL (dfR d) = (dfT d).data.toList ++ [10] := by simp [rowL, dfR, Lib.join_cons, Lib.joinTail]
theorem dfs_app (t : ByteArray) (d : Dff) : ((t ++ dfT d) ++ (⟨#[10]⟩ : ByteArray)) = t ++ ⟨(rowL (dfR d)).toArray⟩ := by
  rw [dfR_row]
  apply ByteArray.ext
  apply Array.toList_inj.1
  simp [ByteArray.data_append]
/-- What DiffsText tells. -/
def dfsT (rs : List Dff) : ByteArray := if 400 < rs.length then ⟨#[]⟩ else txB (rs.map dfR)
theorem dfsT_no {rs : List Dff} (h : 400 < rs.length) : dfsT rs = ⟨#[]⟩ := by simp [dfsT, h]
theorem dfsT_yes {rs : List Dff} (h : ¬ 400 < rs.length) : dfsT rs = txB (rs.map dfR) := by simp [dfsT, h]
/-- Bounds of a Diff. -/
structure DfB (d : Dff) : Prop where
  z : d.partner.size ≤ 1048576 ∧ d.ref.size ≤ 1048576 ∧ d.item.size ≤ 1048576
  i : DfZ d
theorem DfB.len {d : Dff} (h : DfB d) : (dfT d).size ≤ 4000000 := by
  have := dfT_len d h.z (decS_long _ h.i.1.1 h.i.1.2).2 (decS_long _ h.i.2.1.1 h.i.2.1.2).2 (decS_long _ h.i.2.2.1 h.i.2.2.2).2
  unfold dfT
  simpa [ByteArray.size] using this
theorem dfs_len {rs : List Dff} (h : ∀ d ∈ rs, DfB d) : (txR (rs.map dfR)).length ≤ 4000001 * rs.length := by
  induction rs with
  | nil => simp [txR]
  | cons a r ih =>
    have h1 := ih fun l hl => h l (List.mem_cons_of_mem _ hl)
    have h2 := (h a List.mem_cons_self).len
    have h3 : (rowL (dfR a)).length = (dfT a).size + 1 := by rw [dfR_row, List.length_append]; rfl
    simp only [List.map_cons, txR, List.flatten_cons, List.length_append, List.length_cons] at *
    omega
theorem dfB_of {rs : List Dff} (h : BdDf 1048576 rs) (hz : ∀ (i : Nat) (g : Dff), rs[i]? = some g → DfZ g) : ∀ d ∈ rs, DfB d := fun d hd => by
  obtain ⟨i, hi⟩ := List.mem_iff_getElem?.1 hd
  exact ⟨h.2 i d hi, hz i d hi⟩
end Go.Proofs.YtoccmgoglkdcpaaDoor
