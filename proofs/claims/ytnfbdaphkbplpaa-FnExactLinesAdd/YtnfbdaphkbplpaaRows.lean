/-
  No cell of these rows narrows 'for every input' (looked for: loops, veiled, ifaces, maps, wideKeys, modest, calm, conditions, laid).
  DERIVED. THE GIVEN ROWS OF THIS SEAT. 7 by the template 'for every input the law returns true; each argument reads behind the call as it read before'; 0 by the template 'total and deterministic' (their statements: YtnfbdaphkbplpaaTotals.lean).
  GIVEN WITH THE SEED: the statements are not yours to turn. If you find one false, say at which input.
  Laid BY PROGRAM, IN A SANDBOX (cutbox-rows.mjs): the forced cells as the released guide's own fill.sh prints them over the translation 44ec6a8f4a27e3c8… (all of the seat's roots in one cut). By AI agents, Wed Nov 11 2026. No macro, syntax, notation, axiom, sorry.
-/
import Derived.Test.YtnfbdaphkbplpaaChecked
import GoSem.Claim
import GoSem.ClaimJoined
import GoSem.ClaimMapViews
import Derived.JoinedTies
import Derived.KernelRfl
namespace Go.Proofs.Ytnfbdaphkbplpaa
/- THE CELL 'sum', in the pinned program and in every row, IS THE sha256 OF THE DUMP (.gsa) THAT YtnfbdaphkbplpaaProg.lean LOADS. Nothing in Lean hashes anything: it is a label: what it is worth is what the hold of that sum in a sandbox is worth. -/
noncomputable def Try.pinned : Pinned := { name := "ytnfbdaphkbplpaa", sum := "44ec6a8f4a27e3c8ee048f48ad5eeb3999edb1a2573462b145a685d15dbd2bbf", checked := Try.checked }
namespace Rows
def none {H : Type} : Left H := { results := [], args := [] }

/-- 'laws.FnExactLineRight': WHATEVER THE INPUT: true; the input reads as it did. -/
def fnExactLineRightSpec : ChangeSpec := { name := "fnExactLineRight", fn := fun _ => fun
  | [d] => { results := [.lit (.bool true)], args := [d] }
  | _ => none }
def fnExactLineRightRow : OpenClaim := { program := "ytnfbdaphkbplpaa", sum := "44ec6a8f4a27e3c8ee048f48ad5eeb3999edb1a2573462b145a685d15dbd2bbf", func := "loop.example/g00096/laws.FnExactLineRight", spec := "fnExactLineRight", apart := false }
def FnExactLineRightSaid : Prop := fnExactLineRightRow.holds Try.pinned (OpenSpec.ofChange fnExactLineRightSpec)

/-- ITS FALSE NEIGHBOUR: 'it returns false'. Refute it at one input. -/
def fnExactLineRightWrong : ChangeSpec := { name := "fnExactLineRight", fn := fun _ => fun
  | [d] => { results := [.lit (.bool false)], args := [d] }
  | _ => none }
def FnExactLineRightWrongFalsely : Prop := fnExactLineRightRow.holds Try.pinned (OpenSpec.ofChange fnExactLineRightWrong)

/-- 'laws.FnExactLinesRight': WHATEVER THE INPUT: true; the input reads as it did. -/
def fnExactLinesRightSpec : ChangeSpec := { name := "fnExactLinesRight", fn := fun _ => fun
  | [d] => { results := [.lit (.bool true)], args := [d] }
  | _ => none }
def fnExactLinesRightRow : OpenClaim := { program := "ytnfbdaphkbplpaa", sum := "44ec6a8f4a27e3c8ee048f48ad5eeb3999edb1a2573462b145a685d15dbd2bbf", func := "loop.example/g00096/laws.FnExactLinesRight", spec := "fnExactLinesRight", inPlace := ["internal/bytealg.abigen_runtime_cmpstring"], apart := false }
def FnExactLinesRightSaid : Prop := fnExactLinesRightRow.holds Try.pinned (OpenSpec.ofChange fnExactLinesRightSpec)

/-- ITS FALSE NEIGHBOUR: 'it returns false'. Refute it at one input. -/
def fnExactLinesRightWrong : ChangeSpec := { name := "fnExactLinesRight", fn := fun _ => fun
  | [d] => { results := [.lit (.bool false)], args := [d] }
  | _ => none }
def FnExactLinesRightWrongFalsely : Prop := fnExactLinesRightRow.holds Try.pinned (OpenSpec.ofChange fnExactLinesRightWrong)

/-- 'laws.FnExactLineOpen': WHATEVER THE INPUT: true; the input reads as it did. -/
def fnExactLineOpenSpec : ChangeSpec := { name := "fnExactLineOpen", fn := fun _ => fun
  | [d] => { results := [.lit (.bool true)], args := [d] }
  | _ => none }
def fnExactLineOpenRow : OpenClaim := { program := "ytnfbdaphkbplpaa", sum := "44ec6a8f4a27e3c8ee048f48ad5eeb3999edb1a2573462b145a685d15dbd2bbf", func := "loop.example/g00096/laws.FnExactLineOpen", spec := "fnExactLineOpen", apart := false }
def FnExactLineOpenSaid : Prop := fnExactLineOpenRow.holds Try.pinned (OpenSpec.ofChange fnExactLineOpenSpec)

/-- ITS FALSE NEIGHBOUR: 'it returns false'. Refute it at one input. -/
def fnExactLineOpenWrong : ChangeSpec := { name := "fnExactLineOpen", fn := fun _ => fun
  | [d] => { results := [.lit (.bool false)], args := [d] }
  | _ => none }
def FnExactLineOpenWrongFalsely : Prop := fnExactLineOpenRow.holds Try.pinned (OpenSpec.ofChange fnExactLineOpenWrong)

/-- 'laws.FnExactLineTransit': WHATEVER THE INPUT: true; the input reads as it did. -/
def fnExactLineTransitSpec : ChangeSpec := { name := "fnExactLineTransit", fn := fun _ => fun
  | [d] => { results := [.lit (.bool true)], args := [d] }
  | _ => none }
def fnExactLineTransitRow : OpenClaim := { program := "ytnfbdaphkbplpaa", sum := "44ec6a8f4a27e3c8ee048f48ad5eeb3999edb1a2573462b145a685d15dbd2bbf", func := "loop.example/g00096/laws.FnExactLineTransit", spec := "fnExactLineTransit", apart := false }
def FnExactLineTransitSaid : Prop := fnExactLineTransitRow.holds Try.pinned (OpenSpec.ofChange fnExactLineTransitSpec)

/-- ITS FALSE NEIGHBOUR: 'it returns false'. Refute it at one input. -/
def fnExactLineTransitWrong : ChangeSpec := { name := "fnExactLineTransit", fn := fun _ => fun
  | [d] => { results := [.lit (.bool false)], args := [d] }
  | _ => none }
def FnExactLineTransitWrongFalsely : Prop := fnExactLineTransitRow.holds Try.pinned (OpenSpec.ofChange fnExactLineTransitWrong)

/-- 'laws.FnExactLinePost': WHATEVER THE INPUT: true; the input reads as it did. -/
def fnExactLinePostSpec : ChangeSpec := { name := "fnExactLinePost", fn := fun _ => fun
  | [d1, d2, d3] => { results := [.lit (.bool true)], args := [d1, d2, d3] }
  | _ => none }
def fnExactLinePostRow : OpenClaim := { program := "ytnfbdaphkbplpaa", sum := "44ec6a8f4a27e3c8ee048f48ad5eeb3999edb1a2573462b145a685d15dbd2bbf", func := "loop.example/g00096/laws.FnExactLinePost", spec := "fnExactLinePost", unfollowed := true, recurses := true, apart := false }
def FnExactLinePostSaid : Prop := fnExactLinePostRow.holds Try.pinned (OpenSpec.ofChange fnExactLinePostSpec)

/-- ITS FALSE NEIGHBOUR: 'it returns false'. Refute it at one input. -/
def fnExactLinePostWrong : ChangeSpec := { name := "fnExactLinePost", fn := fun _ => fun
  | [d1, d2, d3] => { results := [.lit (.bool false)], args := [d1, d2, d3] }
  | _ => none }
def FnExactLinePostWrongFalsely : Prop := fnExactLinePostRow.holds Try.pinned (OpenSpec.ofChange fnExactLinePostWrong)

/-- 'laws.FnExactLineFind': WHATEVER THE INPUT: true; the input reads as it did. -/
def fnExactLineFindSpec : ChangeSpec := { name := "fnExactLineFind", fn := fun _ => fun
  | [d1, d2, d3, d4] => { results := [.lit (.bool true)], args := [d1, d2, d3, d4] }
  | _ => none }
def fnExactLineFindRow : OpenClaim := { program := "ytnfbdaphkbplpaa", sum := "44ec6a8f4a27e3c8ee048f48ad5eeb3999edb1a2573462b145a685d15dbd2bbf", func := "loop.example/g00096/laws.FnExactLineFind", spec := "fnExactLineFind", inPlace := ["internal/bytealg.abigen_runtime_cmpstring"], unfollowed := true, recurses := true, apart := false }
def FnExactLineFindSaid : Prop := fnExactLineFindRow.holds Try.pinned (OpenSpec.ofChange fnExactLineFindSpec)

/-- ITS FALSE NEIGHBOUR: 'it returns false'. Refute it at one input. -/
def fnExactLineFindWrong : ChangeSpec := { name := "fnExactLineFind", fn := fun _ => fun
  | [d1, d2, d3, d4] => { results := [.lit (.bool false)], args := [d1, d2, d3, d4] }
  | _ => none }
def FnExactLineFindWrongFalsely : Prop := fnExactLineFindRow.holds Try.pinned (OpenSpec.ofChange fnExactLineFindWrong)

/-- 'laws.FnExactLinesAdd': WHATEVER THE INPUT: true; the input reads as it did. -/
def fnExactLinesAddSpec : ChangeSpec := { name := "fnExactLinesAdd", fn := fun _ => fun
  | [d1, d2] => { results := [.lit (.bool true)], args := [d1, d2] }
  | _ => none }
def fnExactLinesAddRow : OpenClaim := { program := "ytnfbdaphkbplpaa", sum := "44ec6a8f4a27e3c8ee048f48ad5eeb3999edb1a2573462b145a685d15dbd2bbf", func := "loop.example/g00096/laws.FnExactLinesAdd", spec := "fnExactLinesAdd", inPlace := ["internal/bytealg.abigen_runtime_cmpstring", "slices.overlaps[loop.example/g00096/impl.OrderLine]"], unfollowed := true, recurses := true, apart := false }
def FnExactLinesAddSaid : Prop := fnExactLinesAddRow.holds Try.pinned (OpenSpec.ofChange fnExactLinesAddSpec)

/-- ITS FALSE NEIGHBOUR: 'it returns false'. Refute it at one input. -/
def fnExactLinesAddWrong : ChangeSpec := { name := "fnExactLinesAdd", fn := fun _ => fun
  | [d1, d2] => { results := [.lit (.bool false)], args := [d1, d2] }
  | _ => none }
def FnExactLinesAddWrongFalsely : Prop := fnExactLinesAddRow.holds Try.pinned (OpenSpec.ofChange fnExactLinesAddWrong)

/- THE SECOND FORM. 'bulk': how many values and letters a reading holds, each counted each time it is reached (what is shared counts as often as it is met; a slice's spare places count too). A statement '..UptoSaid' is the law's where the arguments, and the package variables that the reading takes, are together of bulk at most 1048576: NARROWER than '..Said'. Prove '..Said' where nothing that the law and all that it calls make is longer than what came in: it says more and counts as full. Else prove '..UptoSaid'. A law counts once. -/
mutual
def uptoBulk {H : Type} : DataW H → Nat
  | .lit (.string bytes) => bytes.length + 1
  | .lit _ => 1
  | .nil => 1
  | .ptr d => uptoBulk d + 1
  | .slice elems spare => uptoBulkAll elems + uptoBulkAll spare + 1
  | .agg parts => uptoBulkAll parts + 1
  | .iface _ d => uptoBulk d + 1
  | .map entries => uptoBulkEntries entries + 1
  | .held _ => 1
def uptoBulkAll {H : Type} : List (DataW H) → Nat
  | [] => 0
  | d :: r => uptoBulk d + uptoBulkAll r
def uptoBulkEntries {H : Type} : List (Lit × DataW H) → Nat
  | [] => 0
  | x :: r => uptoBulkEntry x + uptoBulkEntries r
def uptoBulkEntry {H : Type} : Lit × DataW H → Nat
  | (.string bytes, d) => bytes.length + uptoBulk d + 1
  | (_, d) => uptoBulk d + 1
 end
def uptoSmall : (H : Type) → List (DataW H) → Bool := fun _ ds => decide (uptoBulkAll ds ≤ 1048576)
def OpenSpec.upto (s : _root_.Go.ChangeSpec) : _root_.Go.OpenSpec := { _root_.Go.OpenSpec.ofChange s with cond := some uptoSmall }

/-- 'laws.FnExactLineRight', WHERE WHAT IT READS IS OF BULK AT MOST 1048576: true; the input reads as it did. -/
def fnExactLineRightUptoRow : OpenClaim := { program := "ytnfbdaphkbplpaa", sum := "44ec6a8f4a27e3c8ee048f48ad5eeb3999edb1a2573462b145a685d15dbd2bbf", func := "loop.example/g00096/laws.FnExactLineRight", spec := "fnExactLineRight", apart := false, narrowed := true }
def FnExactLineRightUptoSaid : Prop := fnExactLineRightUptoRow.holds Try.pinned (OpenSpec.upto fnExactLineRightSpec)

/-- 'laws.FnExactLinesRight', WHERE WHAT IT READS IS OF BULK AT MOST 1048576: true; the input reads as it did. -/
def fnExactLinesRightUptoRow : OpenClaim := { program := "ytnfbdaphkbplpaa", sum := "44ec6a8f4a27e3c8ee048f48ad5eeb3999edb1a2573462b145a685d15dbd2bbf", func := "loop.example/g00096/laws.FnExactLinesRight", spec := "fnExactLinesRight", inPlace := ["internal/bytealg.abigen_runtime_cmpstring"], apart := false, narrowed := true }
def FnExactLinesRightUptoSaid : Prop := fnExactLinesRightUptoRow.holds Try.pinned (OpenSpec.upto fnExactLinesRightSpec)

/-- 'laws.FnExactLineOpen', WHERE WHAT IT READS IS OF BULK AT MOST 1048576: true; the input reads as it did. -/
def fnExactLineOpenUptoRow : OpenClaim := { program := "ytnfbdaphkbplpaa", sum := "44ec6a8f4a27e3c8ee048f48ad5eeb3999edb1a2573462b145a685d15dbd2bbf", func := "loop.example/g00096/laws.FnExactLineOpen", spec := "fnExactLineOpen", apart := false, narrowed := true }
def FnExactLineOpenUptoSaid : Prop := fnExactLineOpenUptoRow.holds Try.pinned (OpenSpec.upto fnExactLineOpenSpec)

/-- 'laws.FnExactLineTransit', WHERE WHAT IT READS IS OF BULK AT MOST 1048576: true; the input reads as it did. -/
def fnExactLineTransitUptoRow : OpenClaim := { program := "ytnfbdaphkbplpaa", sum := "44ec6a8f4a27e3c8ee048f48ad5eeb3999edb1a2573462b145a685d15dbd2bbf", func := "loop.example/g00096/laws.FnExactLineTransit", spec := "fnExactLineTransit", apart := false, narrowed := true }
def FnExactLineTransitUptoSaid : Prop := fnExactLineTransitUptoRow.holds Try.pinned (OpenSpec.upto fnExactLineTransitSpec)

/-- 'laws.FnExactLinePost', WHERE WHAT IT READS IS OF BULK AT MOST 1048576: true; the input reads as it did. -/
def fnExactLinePostUptoRow : OpenClaim := { program := "ytnfbdaphkbplpaa", sum := "44ec6a8f4a27e3c8ee048f48ad5eeb3999edb1a2573462b145a685d15dbd2bbf", func := "loop.example/g00096/laws.FnExactLinePost", spec := "fnExactLinePost", unfollowed := true, recurses := true, apart := false, narrowed := true }
def FnExactLinePostUptoSaid : Prop := fnExactLinePostUptoRow.holds Try.pinned (OpenSpec.upto fnExactLinePostSpec)

/-- 'laws.FnExactLineFind', WHERE WHAT IT READS IS OF BULK AT MOST 1048576: true; the input reads as it did. -/
def fnExactLineFindUptoRow : OpenClaim := { program := "ytnfbdaphkbplpaa", sum := "44ec6a8f4a27e3c8ee048f48ad5eeb3999edb1a2573462b145a685d15dbd2bbf", func := "loop.example/g00096/laws.FnExactLineFind", spec := "fnExactLineFind", inPlace := ["internal/bytealg.abigen_runtime_cmpstring"], unfollowed := true, recurses := true, apart := false, narrowed := true }
def FnExactLineFindUptoSaid : Prop := fnExactLineFindUptoRow.holds Try.pinned (OpenSpec.upto fnExactLineFindSpec)

/-- 'laws.FnExactLinesAdd', WHERE WHAT IT READS IS OF BULK AT MOST 1048576: true; the input reads as it did. -/
def fnExactLinesAddUptoRow : OpenClaim := { program := "ytnfbdaphkbplpaa", sum := "44ec6a8f4a27e3c8ee048f48ad5eeb3999edb1a2573462b145a685d15dbd2bbf", func := "loop.example/g00096/laws.FnExactLinesAdd", spec := "fnExactLinesAdd", inPlace := ["internal/bytealg.abigen_runtime_cmpstring", "slices.overlaps[loop.example/g00096/impl.OrderLine]"], unfollowed := true, recurses := true, apart := false, narrowed := true }
def FnExactLinesAddUptoSaid : Prop := fnExactLinesAddUptoRow.holds Try.pinned (OpenSpec.upto fnExactLinesAddSpec)

end Rows
end Go.Proofs.Ytnfbdaphkbplpaa
