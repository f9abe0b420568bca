/- A number, told. -/
import Derived.Lib.AppendIntMem
import Derived.Test.YthjddnhdfnhalaaDoorRows
namespace Go.Proofs.YthjddnhdfnhalaaDoor
/-- A number told. -/
def decS (n : Int) : ByteArray := ⟨(Lib.itoa n).toArray⟩
end Go.Proofs.YthjddnhdfnhalaaDoor
