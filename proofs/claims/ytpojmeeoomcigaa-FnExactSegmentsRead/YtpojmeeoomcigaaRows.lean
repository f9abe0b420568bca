/-
  No cell of these rows narrows 'for every input' (looked for: loops, veiled, ifaces, maps, wideKeys, modest, calm, conditions, laid).
  DERIVED. THE GIVEN ROWS OF THIS SEAT. 6 by the template 'for every input the law returns true; each argument reads behind the call as it read before'; 0 by the template 'total and deterministic' (their statements: YtpojmeeoomcigaaTotals.lean).
  GIVEN WITH THE SEED: the statements are not yours to turn. If you find one false, say at which input.
  Laid BY PROGRAM, IN A SANDBOX (cutbox-rows.mjs): the forced cells as the released guide's own fill.sh prints them over the translation 5aa364a1d3b7e569… (all of the seat's roots in one cut). By AI agents, Wed Nov 11 2026. No macro, syntax, notation, axiom, sorry.
-/
import Derived.Test.YtpojmeeoomcigaaChecked
import GoSem.Claim
import GoSem.ClaimJoined
import GoSem.ClaimMapViews
import Derived.JoinedTies
import Derived.KernelRfl
namespace Go.Proofs.Ytpojmeeoomcigaa
/- THE CELL 'sum', in the pinned program and in every row, IS THE sha256 OF THE DUMP (.gsa) THAT YtpojmeeoomcigaaProg.lean LOADS. Nothing in Lean hashes anything: it is a label: what it is worth is what the hold of that sum in a sandbox is worth. -/
noncomputable def Try.pinned : Pinned := { name := "ytpojmeeoomcigaa", sum := "5aa364a1d3b7e56983d163ea3e21355472bb66fac228d44962cde01cec89a554", checked := Try.checked }
namespace Rows
def none {H : Type} : Left H := { results := [], args := [] }

/-- 'laws.FnSegmentBack': WHATEVER THE INPUT: true; the input reads as it did. -/
def fnSegmentBackSpec : ChangeSpec := { name := "fnSegmentBack", fn := fun _ => fun
  | [d1, d2] => { results := [.lit (.bool true)], args := [d1, d2] }
  | _ => none }
def fnSegmentBackRow : OpenClaim := { program := "ytpojmeeoomcigaa", sum := "5aa364a1d3b7e56983d163ea3e21355472bb66fac228d44962cde01cec89a554", func := "loop.example/g00096/laws.FnSegmentBack", spec := "fnSegmentBack", inPlace := ["internal/abi.NoEscape"], unfollowed := true, recurses := true, apart := false }
def FnSegmentBackSaid : Prop := fnSegmentBackRow.holds Try.pinned (OpenSpec.ofChange fnSegmentBackSpec)

/-- ITS FALSE NEIGHBOUR: 'it returns false'. Refute it at one input. -/
def fnSegmentBackWrong : ChangeSpec := { name := "fnSegmentBack", fn := fun _ => fun
  | [d1, d2] => { results := [.lit (.bool false)], args := [d1, d2] }
  | _ => none }
def FnSegmentBackWrongFalsely : Prop := fnSegmentBackRow.holds Try.pinned (OpenSpec.ofChange fnSegmentBackWrong)

/-- 'laws.FnSegments': WHATEVER THE INPUT: true; the input reads as it did. -/
def fnSegmentsSpec : ChangeSpec := { name := "fnSegments", fn := fun _ => fun
  | [d] => { results := [.lit (.bool true)], args := [d] }
  | _ => none }
def fnSegmentsRow : OpenClaim := { program := "ytpojmeeoomcigaa", sum := "5aa364a1d3b7e56983d163ea3e21355472bb66fac228d44962cde01cec89a554", func := "loop.example/g00096/laws.FnSegments", spec := "fnSegments", inPlace := ["internal/abi.NoEscape"], unfollowed := true, recurses := true, apart := false }
def FnSegmentsSaid : Prop := fnSegmentsRow.holds Try.pinned (OpenSpec.ofChange fnSegmentsSpec)

/-- ITS FALSE NEIGHBOUR: 'it returns false'. Refute it at one input. -/
def fnSegmentsWrong : ChangeSpec := { name := "fnSegments", fn := fun _ => fun
  | [d] => { results := [.lit (.bool false)], args := [d] }
  | _ => none }
def FnSegmentsWrongFalsely : Prop := fnSegmentsRow.holds Try.pinned (OpenSpec.ofChange fnSegmentsWrong)

/-- 'laws.FnFirstSegments': WHATEVER THE INPUT: true; the input reads as it did. -/
def fnFirstSegmentsSpec : ChangeSpec := { name := "fnFirstSegments", fn := fun _ => fun
  | [d1, d2] => { results := [.lit (.bool true)], args := [d1, d2] }
  | _ => none }
def fnFirstSegmentsRow : OpenClaim := { program := "ytpojmeeoomcigaa", sum := "5aa364a1d3b7e56983d163ea3e21355472bb66fac228d44962cde01cec89a554", func := "loop.example/g00096/laws.FnFirstSegments", spec := "fnFirstSegments", inPlace := ["internal/abi.NoEscape"], unfollowed := true, recurses := true, apart := false }
def FnFirstSegmentsSaid : Prop := fnFirstSegmentsRow.holds Try.pinned (OpenSpec.ofChange fnFirstSegmentsSpec)

/-- ITS FALSE NEIGHBOUR: 'it returns false'. Refute it at one input. -/
def fnFirstSegmentsWrong : ChangeSpec := { name := "fnFirstSegments", fn := fun _ => fun
  | [d1, d2] => { results := [.lit (.bool false)], args := [d1, d2] }
  | _ => none }
def FnFirstSegmentsWrongFalsely : Prop := fnFirstSegmentsRow.holds Try.pinned (OpenSpec.ofChange fnFirstSegmentsWrong)

/-- 'laws.FnExactSegmentRead': WHATEVER THE INPUT: true; the input reads as it did. -/
def fnExactSegmentReadSpec : ChangeSpec := { name := "fnExactSegmentRead", fn := fun _ => fun
  | [d1, d2] => { results := [.lit (.bool true)], args := [d1, d2] }
  | _ => none }
def fnExactSegmentReadRow : OpenClaim := { program := "ytpojmeeoomcigaa", sum := "5aa364a1d3b7e56983d163ea3e21355472bb66fac228d44962cde01cec89a554", func := "loop.example/g00096/laws.FnExactSegmentRead", spec := "fnExactSegmentRead", unfollowed := true, recurses := true, apart := false }
def FnExactSegmentReadSaid : Prop := fnExactSegmentReadRow.holds Try.pinned (OpenSpec.ofChange fnExactSegmentReadSpec)

/-- ITS FALSE NEIGHBOUR: 'it returns false'. Refute it at one input. -/
def fnExactSegmentReadWrong : ChangeSpec := { name := "fnExactSegmentRead", fn := fun _ => fun
  | [d1, d2] => { results := [.lit (.bool false)], args := [d1, d2] }
  | _ => none }
def FnExactSegmentReadWrongFalsely : Prop := fnExactSegmentReadRow.holds Try.pinned (OpenSpec.ofChange fnExactSegmentReadWrong)

/-- 'laws.FnExactSegmentsRead': WHATEVER THE INPUT: true; the input reads as it did. -/
def fnExactSegmentsReadSpec : ChangeSpec := { name := "fnExactSegmentsRead", fn := fun _ => fun
  | [d1, d2] => { results := [.lit (.bool true)], args := [d1, d2] }
  | _ => none }
def fnExactSegmentsReadRow : OpenClaim := { program := "ytpojmeeoomcigaa", sum := "5aa364a1d3b7e56983d163ea3e21355472bb66fac228d44962cde01cec89a554", func := "loop.example/g00096/laws.FnExactSegmentsRead", spec := "fnExactSegmentsRead", unfollowed := true, recurses := true, apart := false }
def FnExactSegmentsReadSaid : Prop := fnExactSegmentsReadRow.holds Try.pinned (OpenSpec.ofChange fnExactSegmentsReadSpec)

/-- ITS FALSE NEIGHBOUR: 'it returns false'. Refute it at one input. -/
def fnExactSegmentsReadWrong : ChangeSpec := { name := "fnExactSegmentsRead", fn := fun _ => fun
  | [d1, d2] => { results := [.lit (.bool false)], args := [d1, d2] }
  | _ => none }
def FnExactSegmentsReadWrongFalsely : Prop := fnExactSegmentsReadRow.holds Try.pinned (OpenSpec.ofChange fnExactSegmentsReadWrong)

/-- 'laws.FnExactIxRight': WHATEVER THE INPUT: true; the input reads as it did. -/
def fnExactIxRightSpec : ChangeSpec := { name := "fnExactIxRight", fn := fun _ => fun
  | [d] => { results := [.lit (.bool true)], args := [d] }
  | _ => none }
def fnExactIxRightRow : OpenClaim := { program := "ytpojmeeoomcigaa", sum := "5aa364a1d3b7e56983d163ea3e21355472bb66fac228d44962cde01cec89a554", func := "loop.example/g00096/laws.FnExactIxRight", spec := "fnExactIxRight", apart := false }
def FnExactIxRightSaid : Prop := fnExactIxRightRow.holds Try.pinned (OpenSpec.ofChange fnExactIxRightSpec)

/-- ITS FALSE NEIGHBOUR: 'it returns false'. Refute it at one input. -/
def fnExactIxRightWrong : ChangeSpec := { name := "fnExactIxRight", fn := fun _ => fun
  | [d] => { results := [.lit (.bool false)], args := [d] }
  | _ => none }
def FnExactIxRightWrongFalsely : Prop := fnExactIxRightRow.holds Try.pinned (OpenSpec.ofChange fnExactIxRightWrong)

/- THE SECOND FORM. 'bulk': how many values and letters a reading holds, each counted each time it is reached (what is shared counts as often as it is met; a slice's spare places count too). A statement '..UptoSaid' is the law's where the arguments, and the package variables that the reading takes, are together of bulk at most 1048576: NARROWER than '..Said'. Prove '..Said' where nothing that the law and all that it calls make is longer than what came in: it says more and counts as full. Else prove '..UptoSaid'. A law counts once. -/
mutual
def uptoBulk {H : Type} : DataW H → Nat
  | .lit (.string bytes) => bytes.length + 1
  | .lit _ => 1
  | .nil => 1
  | .ptr d => uptoBulk d + 1
  | .slice elems spare => uptoBulkAll elems + uptoBulkAll spare + 1
  | .agg parts => uptoBulkAll parts + 1
  | .iface _ d => uptoBulk d + 1
  | .map entries => uptoBulkEntries entries + 1
  | .held _ => 1
def uptoBulkAll {H : Type} : List (DataW H) → Nat
  | [] => 0
  | d :: r => uptoBulk d + uptoBulkAll r
def uptoBulkEntries {H : Type} : List (Lit × DataW H) → Nat
  | [] => 0
  | x :: r => uptoBulkEntry x + uptoBulkEntries r
def uptoBulkEntry {H : Type} : Lit × DataW H → Nat
  | (.string bytes, d) => bytes.length + uptoBulk d + 1
  | (_, d) => uptoBulk d + 1
 end
def uptoSmall : (H : Type) → List (DataW H) → Bool := fun _ ds => decide (uptoBulkAll ds ≤ 1048576)
def OpenSpec.upto (s : _root_.Go.ChangeSpec) : _root_.Go.OpenSpec := { _root_.Go.OpenSpec.ofChange s with cond := some uptoSmall }

/-- 'laws.FnSegmentBack', WHERE WHAT IT READS IS OF BULK AT MOST 1048576: true; the input reads as it did. -/
def fnSegmentBackUptoRow : OpenClaim := { program := "ytpojmeeoomcigaa", sum := "5aa364a1d3b7e56983d163ea3e21355472bb66fac228d44962cde01cec89a554", func := "loop.example/g00096/laws.FnSegmentBack", spec := "fnSegmentBack", inPlace := ["internal/abi.NoEscape"], unfollowed := true, recurses := true, apart := false, narrowed := true }
def FnSegmentBackUptoSaid : Prop := fnSegmentBackUptoRow.holds Try.pinned (OpenSpec.upto fnSegmentBackSpec)

/-- 'laws.FnSegments', WHERE WHAT IT READS IS OF BULK AT MOST 1048576: true; the input reads as it did. -/
def fnSegmentsUptoRow : OpenClaim := { program := "ytpojmeeoomcigaa", sum := "5aa364a1d3b7e56983d163ea3e21355472bb66fac228d44962cde01cec89a554", func := "loop.example/g00096/laws.FnSegments", spec := "fnSegments", inPlace := ["internal/abi.NoEscape"], unfollowed := true, recurses := true, apart := false, narrowed := true }
def FnSegmentsUptoSaid : Prop := fnSegmentsUptoRow.holds Try.pinned (OpenSpec.upto fnSegmentsSpec)

/-- 'laws.FnFirstSegments', WHERE WHAT IT READS IS OF BULK AT MOST 1048576: true; the input reads as it did. -/
def fnFirstSegmentsUptoRow : OpenClaim := { program := "ytpojmeeoomcigaa", sum := "5aa364a1d3b7e56983d163ea3e21355472bb66fac228d44962cde01cec89a554", func := "loop.example/g00096/laws.FnFirstSegments", spec := "fnFirstSegments", inPlace := ["internal/abi.NoEscape"], unfollowed := true, recurses := true, apart := false, narrowed := true }
def FnFirstSegmentsUptoSaid : Prop := fnFirstSegmentsUptoRow.holds Try.pinned (OpenSpec.upto fnFirstSegmentsSpec)

/-- 'laws.FnExactSegmentRead', WHERE WHAT IT READS IS OF BULK AT MOST 1048576: true; the input reads as it did. -/
def fnExactSegmentReadUptoRow : OpenClaim := { program := "ytpojmeeoomcigaa", sum := "5aa364a1d3b7e56983d163ea3e21355472bb66fac228d44962cde01cec89a554", func := "loop.example/g00096/laws.FnExactSegmentRead", spec := "fnExactSegmentRead", unfollowed := true, recurses := true, apart := false, narrowed := true }
def FnExactSegmentReadUptoSaid : Prop := fnExactSegmentReadUptoRow.holds Try.pinned (OpenSpec.upto fnExactSegmentReadSpec)

/-- 'laws.FnExactSegmentsRead', WHERE WHAT IT READS IS OF BULK AT MOST 1048576: true; the input reads as it did. -/
def fnExactSegmentsReadUptoRow : OpenClaim := { program := "ytpojmeeoomcigaa", sum := "5aa364a1d3b7e56983d163ea3e21355472bb66fac228d44962cde01cec89a554", func := "loop.example/g00096/laws.FnExactSegmentsRead", spec := "fnExactSegmentsRead", unfollowed := true, recurses := true, apart := false, narrowed := true }
def FnExactSegmentsReadUptoSaid : Prop := fnExactSegmentsReadUptoRow.holds Try.pinned (OpenSpec.upto fnExactSegmentsReadSpec)

/-- 'laws.FnExactIxRight', WHERE WHAT IT READS IS OF BULK AT MOST 1048576: true; the input reads as it did. -/
def fnExactIxRightUptoRow : OpenClaim := { program := "ytpojmeeoomcigaa", sum := "5aa364a1d3b7e56983d163ea3e21355472bb66fac228d44962cde01cec89a554", func := "loop.example/g00096/laws.FnExactIxRight", spec := "fnExactIxRight", apart := false, narrowed := true }
def FnExactIxRightUptoSaid : Prop := fnExactIxRightUptoRow.holds Try.pinned (OpenSpec.upto fnExactIxRightSpec)

end Rows
end Go.Proofs.Ytpojmeeoomcigaa
