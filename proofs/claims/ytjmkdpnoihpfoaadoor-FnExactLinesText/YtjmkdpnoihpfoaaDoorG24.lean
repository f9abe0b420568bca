/- Texts of ours put together: DecD. -/
import Derived.Lib.AppendIntMem
import Derived.Test.YtjmkdpnoihpfoaaDoorRows
namespace Go.Proofs.YtjmkdpnoihpfoaaDoor
/-- A number told. -/
def decS (n : Int) : ByteArray := ⟨(Lib.itoa n).toArray⟩
end Go.Proofs.YtjmkdpnoihpfoaaDoor
