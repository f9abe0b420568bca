/- Texts of ours put together: BdLg. -/
import Derived.Test.YtjnikogaleofaaaDoorG00
namespace Go.Proofs.YtjnikogaleofaaaDoor
open Go.ChangeShapes Go.WideShapes Go.ChangeAt Go.RowKit
/-- Bounds of what was read. -/
def BdLg (gs : List Seg) : Prop := ∀ g ∈ gs, BdX g.2 ∧ g.2.length ≤ 10 ∧ g.1.size = 3
end Go.Proofs.YtjnikogaleofaaaDoor
