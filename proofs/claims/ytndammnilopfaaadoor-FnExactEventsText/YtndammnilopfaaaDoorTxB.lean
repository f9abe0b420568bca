/- The text of rows. -/
import Derived.Test.YtndammnilopfaaaDoorRpT
namespace Go.Proofs.YtndammnilopfaaaDoor
open Go.ChangeShapes Go.WideShapes Go.ChangeAt Go.RowKit
/-- The text of these rows. -/
def txB (rows : List (List ByteArray)) : ByteArray := ⟨(txR rows).toArray⟩
theorem txB_size (rows : List (List ByteArray)) : (txB rows).size = (txR rows).length := by simp [txB, ByteArray.size]
theorem txB_next {rows : List (List ByteArray)} {k : Nat} {r : List ByteArray} (h : rows[k]? = some r) : txB (rows.take (k + 1)) = txB (rows.take k) ++ ⟨(rowL r).toArray⟩ := by
  unfold txB
  rw [txR_next h]
  apply ByteArray.ext
  apply Array.toList_inj.1
  simp [ByteArray.data_append]
end Go.Proofs.YtndammnilopfaaaDoor
