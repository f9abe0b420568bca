/-
  No cell of these rows narrows 'for every input' (looked for: loops, veiled, ifaces, maps, wideKeys, modest, calm, conditions, laid).
  DERIVED. THE GIVEN ROWS OF THIS SEAT. 6 by the template 'for every input the law returns true; each argument reads behind the call as it read before'; 0 by the template 'total and deterministic' (their statements: YtcohoflilonnjaaTotals.lean).
  GIVEN WITH THE SEED: the statements are not yours to turn. If you find one false, say at which input.
  Laid BY PROGRAM, IN A SANDBOX (cutbox-rows.mjs): the forced cells as the released guide's own fill.sh prints them over the translation 03ad4d2c6803d738… (all of the seat's roots in one cut). By AI agents, Wed Nov 11 2026. No macro, syntax, notation, axiom, sorry.
-/
import Derived.Test.YtcohoflilonnjaaChecked
import GoSem.Claim
import GoSem.ClaimJoined
import GoSem.ClaimMapViews
import Derived.JoinedTies
import Derived.KernelRfl
namespace Go.Proofs.Ytcohoflilonnjaa
/- THE CELL 'sum', in the pinned program and in every row, IS THE sha256 OF THE DUMP (.gsa) THAT YtcohoflilonnjaaProg.lean LOADS. Nothing in Lean hashes anything: it is a label: what it is worth is what the hold of that sum in a sandbox is worth. -/
noncomputable def Try.pinned : Pinned := { name := "ytcohoflilonnjaa", sum := "03ad4d2c6803d73869d3d00abc0243497e5350e24a6bff118a210d9471d068d1", checked := Try.checked }
namespace Rows
def none {H : Type} : Left H := { results := [], args := [] }

/-- 'laws.FnEscape': WHATEVER THE INPUT: true; the input reads as it did. -/
def fnEscapeSpec : ChangeSpec := { name := "fnEscape", fn := fun _ => fun
  | [d1, d2] => { results := [.lit (.bool true)], args := [d1, d2] }
  | _ => none }
def fnEscapeRow : OpenClaim := { program := "ytcohoflilonnjaa", sum := "03ad4d2c6803d73869d3d00abc0243497e5350e24a6bff118a210d9471d068d1", func := "loop.example/g00096/laws.FnEscape", spec := "fnEscape", unfollowed := true, recurses := true, apart := false }
def FnEscapeSaid : Prop := fnEscapeRow.holds Try.pinned (OpenSpec.ofChange fnEscapeSpec)

/-- ITS FALSE NEIGHBOUR: 'it returns false'. Refute it at one input. -/
def fnEscapeWrong : ChangeSpec := { name := "fnEscape", fn := fun _ => fun
  | [d1, d2] => { results := [.lit (.bool false)], args := [d1, d2] }
  | _ => none }
def FnEscapeWrongFalsely : Prop := fnEscapeRow.holds Try.pinned (OpenSpec.ofChange fnEscapeWrong)

/-- 'laws.FnSyntax': WHATEVER THE INPUT: true; the input reads as it did. -/
def fnSyntaxSpec : ChangeSpec := { name := "fnSyntax", fn := fun _ => fun
  | [d] => { results := [.lit (.bool true)], args := [d] }
  | _ => none }
def fnSyntaxRow : OpenClaim := { program := "ytcohoflilonnjaa", sum := "03ad4d2c6803d73869d3d00abc0243497e5350e24a6bff118a210d9471d068d1", func := "loop.example/g00096/laws.FnSyntax", spec := "fnSyntax", apart := false }
def FnSyntaxSaid : Prop := fnSyntaxRow.holds Try.pinned (OpenSpec.ofChange fnSyntaxSpec)

/-- ITS FALSE NEIGHBOUR: 'it returns false'. Refute it at one input. -/
def fnSyntaxWrong : ChangeSpec := { name := "fnSyntax", fn := fun _ => fun
  | [d] => { results := [.lit (.bool false)], args := [d] }
  | _ => none }
def FnSyntaxWrongFalsely : Prop := fnSyntaxRow.holds Try.pinned (OpenSpec.ofChange fnSyntaxWrong)

/-- 'laws.FnSegmentBack': WHATEVER THE INPUT: true; the input reads as it did. -/
def fnSegmentBackSpec : ChangeSpec := { name := "fnSegmentBack", fn := fun _ => fun
  | [d1, d2] => { results := [.lit (.bool true)], args := [d1, d2] }
  | _ => none }
def fnSegmentBackRow : OpenClaim := { program := "ytcohoflilonnjaa", sum := "03ad4d2c6803d73869d3d00abc0243497e5350e24a6bff118a210d9471d068d1", func := "loop.example/g00096/laws.FnSegmentBack", spec := "fnSegmentBack", inPlace := ["internal/abi.NoEscape"], unfollowed := true, recurses := true, apart := false }
def FnSegmentBackSaid : Prop := fnSegmentBackRow.holds Try.pinned (OpenSpec.ofChange fnSegmentBackSpec)

/-- ITS FALSE NEIGHBOUR: 'it returns false'. Refute it at one input. -/
def fnSegmentBackWrong : ChangeSpec := { name := "fnSegmentBack", fn := fun _ => fun
  | [d1, d2] => { results := [.lit (.bool false)], args := [d1, d2] }
  | _ => none }
def FnSegmentBackWrongFalsely : Prop := fnSegmentBackRow.holds Try.pinned (OpenSpec.ofChange fnSegmentBackWrong)

/-- 'laws.FnSegments': WHATEVER THE INPUT: true; the input reads as it did. -/
def fnSegmentsSpec : ChangeSpec := { name := "fnSegments", fn := fun _ => fun
  | [d] => { results := [.lit (.bool true)], args := [d] }
  | _ => none }
def fnSegmentsRow : OpenClaim := { program := "ytcohoflilonnjaa", sum := "03ad4d2c6803d73869d3d00abc0243497e5350e24a6bff118a210d9471d068d1", func := "loop.example/g00096/laws.FnSegments", spec := "fnSegments", inPlace := ["internal/abi.NoEscape"], unfollowed := true, recurses := true, apart := false }
def FnSegmentsSaid : Prop := fnSegmentsRow.holds Try.pinned (OpenSpec.ofChange fnSegmentsSpec)

/-- ITS FALSE NEIGHBOUR: 'it returns false'. Refute it at one input. -/
def fnSegmentsWrong : ChangeSpec := { name := "fnSegments", fn := fun _ => fun
  | [d] => { results := [.lit (.bool false)], args := [d] }
  | _ => none }
def FnSegmentsWrongFalsely : Prop := fnSegmentsRow.holds Try.pinned (OpenSpec.ofChange fnSegmentsWrong)

/-- 'laws.FnPieces': WHATEVER THE INPUT: true; the input reads as it did. -/
def fnPiecesSpec : ChangeSpec := { name := "fnPieces", fn := fun _ => fun
  | [d] => { results := [.lit (.bool true)], args := [d] }
  | _ => none }
def fnPiecesRow : OpenClaim := { program := "ytcohoflilonnjaa", sum := "03ad4d2c6803d73869d3d00abc0243497e5350e24a6bff118a210d9471d068d1", func := "loop.example/g00096/laws.FnPieces", spec := "fnPieces", unfollowed := true, recurses := true, apart := false }
def FnPiecesSaid : Prop := fnPiecesRow.holds Try.pinned (OpenSpec.ofChange fnPiecesSpec)

/-- ITS FALSE NEIGHBOUR: 'it returns false'. Refute it at one input. -/
def fnPiecesWrong : ChangeSpec := { name := "fnPieces", fn := fun _ => fun
  | [d] => { results := [.lit (.bool false)], args := [d] }
  | _ => none }
def FnPiecesWrongFalsely : Prop := fnPiecesRow.holds Try.pinned (OpenSpec.ofChange fnPiecesWrong)

/-- 'laws.FnFirstSegments': WHATEVER THE INPUT: true; the input reads as it did. -/
def fnFirstSegmentsSpec : ChangeSpec := { name := "fnFirstSegments", fn := fun _ => fun
  | [d1, d2] => { results := [.lit (.bool true)], args := [d1, d2] }
  | _ => none }
def fnFirstSegmentsRow : OpenClaim := { program := "ytcohoflilonnjaa", sum := "03ad4d2c6803d73869d3d00abc0243497e5350e24a6bff118a210d9471d068d1", func := "loop.example/g00096/laws.FnFirstSegments", spec := "fnFirstSegments", inPlace := ["internal/abi.NoEscape"], unfollowed := true, recurses := true, apart := false }
def FnFirstSegmentsSaid : Prop := fnFirstSegmentsRow.holds Try.pinned (OpenSpec.ofChange fnFirstSegmentsSpec)

/-- ITS FALSE NEIGHBOUR: 'it returns false'. Refute it at one input. -/
def fnFirstSegmentsWrong : ChangeSpec := { name := "fnFirstSegments", fn := fun _ => fun
  | [d1, d2] => { results := [.lit (.bool false)], args := [d1, d2] }
  | _ => none }
def FnFirstSegmentsWrongFalsely : Prop := fnFirstSegmentsRow.holds Try.pinned (OpenSpec.ofChange fnFirstSegmentsWrong)

/- THE SECOND FORM. 'bulk': how many values and letters a reading holds, each counted each time it is reached (what is shared counts as often as it is met; a slice's spare places count too). A statement '..UptoSaid' is the law's where the arguments, and the package variables that the reading takes, are together of bulk at most 1048576: NARROWER than '..Said'. Prove '..Said' where nothing that the law and all that it calls make is longer than what came in: it says more and counts as full. Else prove '..UptoSaid'. A law counts once. -/
mutual
def uptoBulk {H : Type} : DataW H → Nat
  | .lit (.string bytes) => bytes.length + 1
  | .lit _ => 1
  | .nil => 1
  | .ptr d => uptoBulk d + 1
  | .slice elems spare => uptoBulkAll elems + uptoBulkAll spare + 1
  | .agg parts => uptoBulkAll parts + 1
  | .iface _ d => uptoBulk d + 1
  | .map entries => uptoBulkEntries entries + 1
  | .held _ => 1
def uptoBulkAll {H : Type} : List (DataW H) → Nat
  | [] => 0
  | d :: r => uptoBulk d + uptoBulkAll r
def uptoBulkEntries {H : Type} : List (Lit × DataW H) → Nat
  | [] => 0
  | x :: r => uptoBulkEntry x + uptoBulkEntries r
def uptoBulkEntry {H : Type} : Lit × DataW H → Nat
  | (.string bytes, d) => bytes.length + uptoBulk d + 1
  | (_, d) => uptoBulk d + 1
 end
def uptoSmall : (H : Type) → List (DataW H) → Bool := fun _ ds => decide (uptoBulkAll ds ≤ 1048576)
def OpenSpec.upto (s : _root_.Go.ChangeSpec) : _root_.Go.OpenSpec := { _root_.Go.OpenSpec.ofChange s with cond := some uptoSmall }

/-- 'laws.FnEscape', WHERE WHAT IT READS IS OF BULK AT MOST 1048576: true; the input reads as it did. -/
def fnEscapeUptoRow : OpenClaim := { program := "ytcohoflilonnjaa", sum := "03ad4d2c6803d73869d3d00abc0243497e5350e24a6bff118a210d9471d068d1", func := "loop.example/g00096/laws.FnEscape", spec := "fnEscape", unfollowed := true, recurses := true, apart := false, narrowed := true }
def FnEscapeUptoSaid : Prop := fnEscapeUptoRow.holds Try.pinned (OpenSpec.upto fnEscapeSpec)

/-- 'laws.FnSyntax', WHERE WHAT IT READS IS OF BULK AT MOST 1048576: true; the input reads as it did. -/
def fnSyntaxUptoRow : OpenClaim := { program := "ytcohoflilonnjaa", sum := "03ad4d2c6803d73869d3d00abc0243497e5350e24a6bff118a210d9471d068d1", func := "loop.example/g00096/laws.FnSyntax", spec := "fnSyntax", apart := false, narrowed := true }
def FnSyntaxUptoSaid : Prop := fnSyntaxUptoRow.holds Try.pinned (OpenSpec.upto fnSyntaxSpec)

/-- 'laws.FnSegmentBack', WHERE WHAT IT READS IS OF BULK AT MOST 1048576: true; the input reads as it did. -/
def fnSegmentBackUptoRow : OpenClaim := { program := "ytcohoflilonnjaa", sum := "03ad4d2c6803d73869d3d00abc0243497e5350e24a6bff118a210d9471d068d1", func := "loop.example/g00096/laws.FnSegmentBack", spec := "fnSegmentBack", inPlace := ["internal/abi.NoEscape"], unfollowed := true, recurses := true, apart := false, narrowed := true }
def FnSegmentBackUptoSaid : Prop := fnSegmentBackUptoRow.holds Try.pinned (OpenSpec.upto fnSegmentBackSpec)

/-- 'laws.FnSegments', WHERE WHAT IT READS IS OF BULK AT MOST 1048576: true; the input reads as it did. -/
def fnSegmentsUptoRow : OpenClaim := { program := "ytcohoflilonnjaa", sum := "03ad4d2c6803d73869d3d00abc0243497e5350e24a6bff118a210d9471d068d1", func := "loop.example/g00096/laws.FnSegments", spec := "fnSegments", inPlace := ["internal/abi.NoEscape"], unfollowed := true, recurses := true, apart := false, narrowed := true }
def FnSegmentsUptoSaid : Prop := fnSegmentsUptoRow.holds Try.pinned (OpenSpec.upto fnSegmentsSpec)

/-- 'laws.FnPieces', WHERE WHAT IT READS IS OF BULK AT MOST 1048576: true; the input reads as it did. -/
def fnPiecesUptoRow : OpenClaim := { program := "ytcohoflilonnjaa", sum := "03ad4d2c6803d73869d3d00abc0243497e5350e24a6bff118a210d9471d068d1", func := "loop.example/g00096/laws.FnPieces", spec := "fnPieces", unfollowed := true, recurses := true, apart := false, narrowed := true }
def FnPiecesUptoSaid : Prop := fnPiecesUptoRow.holds Try.pinned (OpenSpec.upto fnPiecesSpec)

/-- 'laws.FnFirstSegments', WHERE WHAT IT READS IS OF BULK AT MOST 1048576: true; the input reads as it did. -/
def fnFirstSegmentsUptoRow : OpenClaim := { program := "ytcohoflilonnjaa", sum := "03ad4d2c6803d73869d3d00abc0243497e5350e24a6bff118a210d9471d068d1", func := "loop.example/g00096/laws.FnFirstSegments", spec := "fnFirstSegments", inPlace := ["internal/abi.NoEscape"], unfollowed := true, recurses := true, apart := false, narrowed := true }
def FnFirstSegmentsUptoSaid : Prop := fnFirstSegmentsUptoRow.holds Try.pinned (OpenSpec.upto fnFirstSegmentsSpec)

end Rows
end Go.Proofs.Ytcohoflilonnjaa
