/-
  No cell of these rows narrows 'for every input' (looked for: loops, veiled, ifaces, maps, wideKeys, modest, calm, conditions, laid).
  DERIVED. THE GIVEN ROWS OF THIS SEAT. 6 by the template 'for every input the law returns true; each argument reads behind the call as it read before'; 0 by the template 'total and deterministic' (their statements: YtcohoflilonnjacTotals.lean).
  GIVEN WITH THE SEED: the statements are not yours to turn. If you find one false, say at which input.
  Laid BY PROGRAM, IN A SANDBOX (cutbox-rows.mjs): the forced cells as the released guide's own fill.sh prints them over the translation 2b39d317a6ced0fe… (all of the seat's roots in one cut). By AI agents, Wed Nov 11 2026. No macro, syntax, notation, axiom, sorry.
-/
import Derived.Test.YtcohoflilonnjacChecked
import GoSem.Claim
import GoSem.ClaimJoined
import GoSem.ClaimMapViews
import Derived.JoinedTies
import Derived.KernelRfl
namespace Go.Proofs.Ytcohoflilonnjac
/- THE CELL 'sum', in the pinned program and in every row, IS THE sha256 OF THE DUMP (.gsa) THAT YtcohoflilonnjacProg.lean LOADS. Nothing in Lean hashes anything: it is a label: what it is worth is what the hold of that sum in a sandbox is worth. -/
noncomputable def Try.pinned : Pinned := { name := "ytcohoflilonnjac", sum := "2b39d317a6ced0fef7918b5427daa9ae308580e1f949b69a9424fe7113213d7a", checked := Try.checked }
namespace Rows
def none {H : Type} : Left H := { results := [], args := [] }

/-- 'laws.FnExactSegmentRight': WHATEVER THE INPUT: true; the input reads as it did. -/
def fnExactSegmentRightSpec : ChangeSpec := { name := "fnExactSegmentRight", fn := fun _ => fun
  | [d] => { results := [.lit (.bool true)], args := [d] }
  | _ => none }
def fnExactSegmentRightRow : OpenClaim := { program := "ytcohoflilonnjac", sum := "2b39d317a6ced0fef7918b5427daa9ae308580e1f949b69a9424fe7113213d7a", func := "loop.example/g00096/laws.FnExactSegmentRight", spec := "fnExactSegmentRight", apart := false }
def FnExactSegmentRightSaid : Prop := fnExactSegmentRightRow.holds Try.pinned (OpenSpec.ofChange fnExactSegmentRightSpec)

/-- ITS FALSE NEIGHBOUR: 'it returns false'. Refute it at one input. -/
def fnExactSegmentRightWrong : ChangeSpec := { name := "fnExactSegmentRight", fn := fun _ => fun
  | [d] => { results := [.lit (.bool false)], args := [d] }
  | _ => none }
def FnExactSegmentRightWrongFalsely : Prop := fnExactSegmentRightRow.holds Try.pinned (OpenSpec.ofChange fnExactSegmentRightWrong)

/-- 'laws.FnExactSegmentText': WHATEVER THE INPUT: true; the input reads as it did. -/
def fnExactSegmentTextSpec : ChangeSpec := { name := "fnExactSegmentText", fn := fun _ => fun
  | [d1, d2] => { results := [.lit (.bool true)], args := [d1, d2] }
  | _ => none }
def fnExactSegmentTextRow : OpenClaim := { program := "ytcohoflilonnjac", sum := "2b39d317a6ced0fef7918b5427daa9ae308580e1f949b69a9424fe7113213d7a", func := "loop.example/g00096/laws.FnExactSegmentText", spec := "fnExactSegmentText", inPlace := ["internal/abi.NoEscape"], unfollowed := true, recurses := true, apart := false }
def FnExactSegmentTextSaid : Prop := fnExactSegmentTextRow.holds Try.pinned (OpenSpec.ofChange fnExactSegmentTextSpec)

/-- ITS FALSE NEIGHBOUR: 'it returns false'. Refute it at one input. -/
def fnExactSegmentTextWrong : ChangeSpec := { name := "fnExactSegmentText", fn := fun _ => fun
  | [d1, d2] => { results := [.lit (.bool false)], args := [d1, d2] }
  | _ => none }
def FnExactSegmentTextWrongFalsely : Prop := fnExactSegmentTextRow.holds Try.pinned (OpenSpec.ofChange fnExactSegmentTextWrong)

/-- 'laws.FnExactSegmentRead': WHATEVER THE INPUT: true; the input reads as it did. -/
def fnExactSegmentReadSpec : ChangeSpec := { name := "fnExactSegmentRead", fn := fun _ => fun
  | [d1, d2] => { results := [.lit (.bool true)], args := [d1, d2] }
  | _ => none }
def fnExactSegmentReadRow : OpenClaim := { program := "ytcohoflilonnjac", sum := "2b39d317a6ced0fef7918b5427daa9ae308580e1f949b69a9424fe7113213d7a", func := "loop.example/g00096/laws.FnExactSegmentRead", spec := "fnExactSegmentRead", unfollowed := true, recurses := true, apart := false }
def FnExactSegmentReadSaid : Prop := fnExactSegmentReadRow.holds Try.pinned (OpenSpec.ofChange fnExactSegmentReadSpec)

/-- ITS FALSE NEIGHBOUR: 'it returns false'. Refute it at one input. -/
def fnExactSegmentReadWrong : ChangeSpec := { name := "fnExactSegmentRead", fn := fun _ => fun
  | [d1, d2] => { results := [.lit (.bool false)], args := [d1, d2] }
  | _ => none }
def FnExactSegmentReadWrongFalsely : Prop := fnExactSegmentReadRow.holds Try.pinned (OpenSpec.ofChange fnExactSegmentReadWrong)

/-- 'laws.FnExactSegmentsText': WHATEVER THE INPUT: true; the input reads as it did. -/
def fnExactSegmentsTextSpec : ChangeSpec := { name := "fnExactSegmentsText", fn := fun _ => fun
  | [d1, d2] => { results := [.lit (.bool true)], args := [d1, d2] }
  | _ => none }
def fnExactSegmentsTextRow : OpenClaim := { program := "ytcohoflilonnjac", sum := "2b39d317a6ced0fef7918b5427daa9ae308580e1f949b69a9424fe7113213d7a", func := "loop.example/g00096/laws.FnExactSegmentsText", spec := "fnExactSegmentsText", inPlace := ["internal/abi.NoEscape"], unfollowed := true, recurses := true, apart := false }
def FnExactSegmentsTextSaid : Prop := fnExactSegmentsTextRow.holds Try.pinned (OpenSpec.ofChange fnExactSegmentsTextSpec)

/-- ITS FALSE NEIGHBOUR: 'it returns false'. Refute it at one input. -/
def fnExactSegmentsTextWrong : ChangeSpec := { name := "fnExactSegmentsText", fn := fun _ => fun
  | [d1, d2] => { results := [.lit (.bool false)], args := [d1, d2] }
  | _ => none }
def FnExactSegmentsTextWrongFalsely : Prop := fnExactSegmentsTextRow.holds Try.pinned (OpenSpec.ofChange fnExactSegmentsTextWrong)

/-- 'laws.FnExactSegmentsRead': WHATEVER THE INPUT: true; the input reads as it did. -/
def fnExactSegmentsReadSpec : ChangeSpec := { name := "fnExactSegmentsRead", fn := fun _ => fun
  | [d1, d2] => { results := [.lit (.bool true)], args := [d1, d2] }
  | _ => none }
def fnExactSegmentsReadRow : OpenClaim := { program := "ytcohoflilonnjac", sum := "2b39d317a6ced0fef7918b5427daa9ae308580e1f949b69a9424fe7113213d7a", func := "loop.example/g00096/laws.FnExactSegmentsRead", spec := "fnExactSegmentsRead", unfollowed := true, recurses := true, apart := false }
def FnExactSegmentsReadSaid : Prop := fnExactSegmentsReadRow.holds Try.pinned (OpenSpec.ofChange fnExactSegmentsReadSpec)

/-- ITS FALSE NEIGHBOUR: 'it returns false'. Refute it at one input. -/
def fnExactSegmentsReadWrong : ChangeSpec := { name := "fnExactSegmentsRead", fn := fun _ => fun
  | [d1, d2] => { results := [.lit (.bool false)], args := [d1, d2] }
  | _ => none }
def FnExactSegmentsReadWrongFalsely : Prop := fnExactSegmentsReadRow.holds Try.pinned (OpenSpec.ofChange fnExactSegmentsReadWrong)

/-- 'laws.FnExactPartOf': WHATEVER THE INPUT: true; the input reads as it did. -/
def fnExactPartOfSpec : ChangeSpec := { name := "fnExactPartOf", fn := fun _ => fun
  | [d1, d2, d3] => { results := [.lit (.bool true)], args := [d1, d2, d3] }
  | _ => none }
def fnExactPartOfRow : OpenClaim := { program := "ytcohoflilonnjac", sum := "2b39d317a6ced0fef7918b5427daa9ae308580e1f949b69a9424fe7113213d7a", func := "loop.example/g00096/laws.FnExactPartOf", spec := "fnExactPartOf", apart := false }
def FnExactPartOfSaid : Prop := fnExactPartOfRow.holds Try.pinned (OpenSpec.ofChange fnExactPartOfSpec)

/-- ITS FALSE NEIGHBOUR: 'it returns false'. Refute it at one input. -/
def fnExactPartOfWrong : ChangeSpec := { name := "fnExactPartOf", fn := fun _ => fun
  | [d1, d2, d3] => { results := [.lit (.bool false)], args := [d1, d2, d3] }
  | _ => none }
def FnExactPartOfWrongFalsely : Prop := fnExactPartOfRow.holds Try.pinned (OpenSpec.ofChange fnExactPartOfWrong)

/- THE SECOND FORM. 'bulk': how many values and letters a reading holds, each counted each time it is reached (what is shared counts as often as it is met; a slice's spare places count too). A statement '..UptoSaid' is the law's where the arguments, and the package variables that the reading takes, are together of bulk at most 1048576: NARROWER than '..Said'. Prove '..Said' where nothing that the law and all that it calls make is longer than what came in: it says more and counts as full. Else prove '..UptoSaid'. A law counts once. -/
mutual
def uptoBulk {H : Type} : DataW H → Nat
  | .lit (.string bytes) => bytes.length + 1
  | .lit _ => 1
  | .nil => 1
  | .ptr d => uptoBulk d + 1
  | .slice elems spare => uptoBulkAll elems + uptoBulkAll spare + 1
  | .agg parts => uptoBulkAll parts + 1
  | .iface _ d => uptoBulk d + 1
  | .map entries => uptoBulkEntries entries + 1
  | .held _ => 1
def uptoBulkAll {H : Type} : List (DataW H) → Nat
  | [] => 0
  | d :: r => uptoBulk d + uptoBulkAll r
def uptoBulkEntries {H : Type} : List (Lit × DataW H) → Nat
  | [] => 0
  | x :: r => uptoBulkEntry x + uptoBulkEntries r
def uptoBulkEntry {H : Type} : Lit × DataW H → Nat
  | (.string bytes, d) => bytes.length + uptoBulk d + 1
  | (_, d) => uptoBulk d + 1
 end
def uptoSmall : (H : Type) → List (DataW H) → Bool := fun _ ds => decide (uptoBulkAll ds ≤ 1048576)
def OpenSpec.upto (s : _root_.Go.ChangeSpec) : _root_.Go.OpenSpec := { _root_.Go.OpenSpec.ofChange s with cond := some uptoSmall }

/-- 'laws.FnExactSegmentRight', WHERE WHAT IT READS IS OF BULK AT MOST 1048576: true; the input reads as it did. -/
def fnExactSegmentRightUptoRow : OpenClaim := { program := "ytcohoflilonnjac", sum := "2b39d317a6ced0fef7918b5427daa9ae308580e1f949b69a9424fe7113213d7a", func := "loop.example/g00096/laws.FnExactSegmentRight", spec := "fnExactSegmentRight", apart := false, narrowed := true }
def FnExactSegmentRightUptoSaid : Prop := fnExactSegmentRightUptoRow.holds Try.pinned (OpenSpec.upto fnExactSegmentRightSpec)

/-- 'laws.FnExactSegmentText', WHERE WHAT IT READS IS OF BULK AT MOST 1048576: true; the input reads as it did. -/
def fnExactSegmentTextUptoRow : OpenClaim := { program := "ytcohoflilonnjac", sum := "2b39d317a6ced0fef7918b5427daa9ae308580e1f949b69a9424fe7113213d7a", func := "loop.example/g00096/laws.FnExactSegmentText", spec := "fnExactSegmentText", inPlace := ["internal/abi.NoEscape"], unfollowed := true, recurses := true, apart := false, narrowed := true }
def FnExactSegmentTextUptoSaid : Prop := fnExactSegmentTextUptoRow.holds Try.pinned (OpenSpec.upto fnExactSegmentTextSpec)

/-- 'laws.FnExactSegmentRead', WHERE WHAT IT READS IS OF BULK AT MOST 1048576: true; the input reads as it did. -/
def fnExactSegmentReadUptoRow : OpenClaim := { program := "ytcohoflilonnjac", sum := "2b39d317a6ced0fef7918b5427daa9ae308580e1f949b69a9424fe7113213d7a", func := "loop.example/g00096/laws.FnExactSegmentRead", spec := "fnExactSegmentRead", unfollowed := true, recurses := true, apart := false, narrowed := true }
def FnExactSegmentReadUptoSaid : Prop := fnExactSegmentReadUptoRow.holds Try.pinned (OpenSpec.upto fnExactSegmentReadSpec)

/-- 'laws.FnExactSegmentsText', WHERE WHAT IT READS IS OF BULK AT MOST 1048576: true; the input reads as it did. -/
def fnExactSegmentsTextUptoRow : OpenClaim := { program := "ytcohoflilonnjac", sum := "2b39d317a6ced0fef7918b5427daa9ae308580e1f949b69a9424fe7113213d7a", func := "loop.example/g00096/laws.FnExactSegmentsText", spec := "fnExactSegmentsText", inPlace := ["internal/abi.NoEscape"], unfollowed := true, recurses := true, apart := false, narrowed := true }
def FnExactSegmentsTextUptoSaid : Prop := fnExactSegmentsTextUptoRow.holds Try.pinned (OpenSpec.upto fnExactSegmentsTextSpec)

/-- 'laws.FnExactSegmentsRead', WHERE WHAT IT READS IS OF BULK AT MOST 1048576: true; the input reads as it did. -/
def fnExactSegmentsReadUptoRow : OpenClaim := { program := "ytcohoflilonnjac", sum := "2b39d317a6ced0fef7918b5427daa9ae308580e1f949b69a9424fe7113213d7a", func := "loop.example/g00096/laws.FnExactSegmentsRead", spec := "fnExactSegmentsRead", unfollowed := true, recurses := true, apart := false, narrowed := true }
def FnExactSegmentsReadUptoSaid : Prop := fnExactSegmentsReadUptoRow.holds Try.pinned (OpenSpec.upto fnExactSegmentsReadSpec)

/-- 'laws.FnExactPartOf', WHERE WHAT IT READS IS OF BULK AT MOST 1048576: true; the input reads as it did. -/
def fnExactPartOfUptoRow : OpenClaim := { program := "ytcohoflilonnjac", sum := "2b39d317a6ced0fef7918b5427daa9ae308580e1f949b69a9424fe7113213d7a", func := "loop.example/g00096/laws.FnExactPartOf", spec := "fnExactPartOf", apart := false, narrowed := true }
def FnExactPartOfUptoSaid : Prop := fnExactPartOfUptoRow.holds Try.pinned (OpenSpec.upto fnExactPartOfSpec)

end Rows
end Go.Proofs.Ytcohoflilonnjac
