/- A number, told. -/
import Derived.Lib.AppendIntMem
import Derived.Test.YtbefefmfpenkkaaGreatDoorRows
namespace Go.Proofs.YtbefefmfpenkkaaGreatDoor
/-- A number told. -/
def decS (n : Int) : ByteArray := ⟨(Lib.itoa n).toArray⟩
end Go.Proofs.YtbefefmfpenkkaaGreatDoor
