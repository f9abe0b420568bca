/- Texts of ours put together: I64B. -/
import Derived.Test.YtjmkdpnoihpfoaaDoorRows
namespace Go.Proofs.YtjmkdpnoihpfoaaDoor
def i64B (n : Int) : Prop := -9223372036854775808 ≤ n ∧ n ≤ 9223372036854775807
end Go.Proofs.YtjmkdpnoihpfoaaDoor
