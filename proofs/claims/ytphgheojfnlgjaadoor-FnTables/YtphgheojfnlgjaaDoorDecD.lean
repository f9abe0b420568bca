/- A number, told. -/
import Derived.Lib.AppendIntMem
import Derived.Test.YtphgheojfnlgjaaDoorRows
namespace Go.Proofs.YtphgheojfnlgjaaDoor
/-- A number told. -/
def decS (n : Int) : ByteArray := ⟨(Lib.itoa n).toArray⟩
end Go.Proofs.YtphgheojfnlgjaaDoor
