/- Texts of ours put together: TxB, DecD. -/
import Derived.Test.YtamlhbjcokkmeaaGreatDoorG17
import Derived.Lib.AppendIntMem
import Derived.Test.YtamlhbjcokkmeaaGreatDoorRows
namespace Go.Proofs.YtamlhbjcokkmeaaGreatDoor
open Go.ChangeShapes Go.WideShapes Go.ChangeAt Go.RowKit
/-- The text of these rows. -/
def txB (rows : List (List ByteArray)) : ByteArray := ⟨(txR rows).toArray⟩
theorem txB_size (rows : List (List ByteArray)) : (txB rows).size = (txR rows).length := by simp [txB, ByteArray.size]
theorem txB_next {rows : List (List ByteArray)} {k : Nat} {r : List ByteArray} (h : rows[k]? = some r) : txB (rows.take (k + 1)) = txB (rows.take k) ++ ⟨(rowL r).toArray⟩ := by
  unfold txB
  rw [txR_next h]
  apply ByteArray.ext
  apply Array.toList_inj.1
  simp [ByteArray.data_append]
end Go.Proofs.YtamlhbjcokkmeaaGreatDoor
namespace Go.Proofs.YtamlhbjcokkmeaaGreatDoor
/-- A number told. -/
def decS (n : Int) : ByteArray := ⟨(Lib.itoa n).toArray⟩
end Go.Proofs.YtamlhbjcokkmeaaGreatDoor
