/- A segment in memory: its zero, its cells, its bytes. -/
import Derived.Test.YtmnfijgmfedpmaaDoorDeepRow
namespace Go.Proofs.YtmnfijgmfedpmaaDoor
open Go.ChangeShapes Go.WideShapes Go.ChangeAt Go.RowKit
theorem infoSg : (Tryd.prog.info? 51).map (fun i => (i.zero, i.size, i.bytes)) = some (some (.agg #[.string ⟨#[]⟩, .slice none 0 0]), 2, 40) := by kernel_rfl
end Go.Proofs.YtmnfijgmfedpmaaDoor
