/- Bounds of drawn elements. -/
import Derived.Test.YtphgheojfnlgjaaDoorOwnW
namespace Go.Proofs.YtphgheojfnlgjaaDoor
open Go.ChangeShapes Go.WideShapes Go.ChangeAt Go.RowKit
/-- Bounds of what is drawn. -/
def BdW (es : List (List ByteArray)) : Prop := ∀ e ∈ es, e.length ≤ 10 ∧ ∀ t ∈ e, t.size ≤ 100
end Go.Proofs.YtphgheojfnlgjaaDoor
