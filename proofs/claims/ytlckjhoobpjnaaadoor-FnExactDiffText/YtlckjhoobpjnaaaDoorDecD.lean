/- A number, told. -/
import Derived.Lib.AppendIntMem
import Derived.Test.YtlckjhoobpjnaaaDoorRows
namespace Go.Proofs.YtlckjhoobpjnaaaDoor
/-- A number told. -/
def decS (n : Int) : ByteArray := ⟨(Lib.itoa n).toArray⟩
end Go.Proofs.YtlckjhoobpjnaaaDoor
