/- A number, told. -/
import Derived.Lib.AppendIntMem
import Derived.Test.YtoccmgoglkdcpaaDoorRows
namespace Go.Proofs.YtoccmgoglkdcpaaDoor
/-- A number told. -/
def decS (n : Int) : ByteArray := ⟨(Lib.itoa n).toArray⟩
end Go.Proofs.YtoccmgoglkdcpaaDoor
