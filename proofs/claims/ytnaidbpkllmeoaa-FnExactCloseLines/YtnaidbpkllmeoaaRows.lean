/-
  No cell of these rows narrows 'for every input' (looked for: loops, veiled, ifaces, maps, wideKeys, modest, calm, conditions, laid).
  DERIVED. THE GIVEN ROWS OF THIS SEAT. 5 by the template 'for every input the law returns true; each argument reads behind the call as it read before'; 0 by the template 'total and deterministic' (their statements: YtnaidbpkllmeoaaTotals.lean).
  GIVEN WITH THE SEED: the statements are not yours to turn. If you find one false, say at which input.
  Laid BY PROGRAM, IN A SANDBOX (cutbox-rows.mjs): the forced cells as the released guide's own fill.sh prints them over the translation dad9b7f598091432… (all of the seat's roots in one cut). By AI agents, Wed Nov 11 2026. No macro, syntax, notation, axiom, sorry.
-/
import Derived.Test.YtnaidbpkllmeoaaChecked
import GoSem.Claim
import GoSem.ClaimJoined
import GoSem.ClaimMapViews
import Derived.JoinedTies
import Derived.KernelRfl
namespace Go.Proofs.Ytnaidbpkllmeoaa
/- THE CELL 'sum', in the pinned program and in every row, IS THE sha256 OF THE DUMP (.gsa) THAT YtnaidbpkllmeoaaProg.lean LOADS. Nothing in Lean hashes anything: it is a label: what it is worth is what the hold of that sum in a sandbox is worth. -/
noncomputable def Try.pinned : Pinned := { name := "ytnaidbpkllmeoaa", sum := "dad9b7f598091432f71f1d72ec3f5aa718b448844ee4949a60904de9c0a205a7", checked := Try.checked }
namespace Rows
def none {H : Type} : Left H := { results := [], args := [] }

/-- 'laws.FnExactThreeOf': WHATEVER THE INPUT: true; the input reads as it did. -/
def fnExactThreeOfSpec : ChangeSpec := { name := "fnExactThreeOf", fn := fun _ => fun
  | [d] => { results := [.lit (.bool true)], args := [d] }
  | _ => none }
def fnExactThreeOfRow : OpenClaim := { program := "ytnaidbpkllmeoaa", sum := "dad9b7f598091432f71f1d72ec3f5aa718b448844ee4949a60904de9c0a205a7", func := "loop.example/g00096/laws.FnExactThreeOf", spec := "fnExactThreeOf", unfollowed := true, recurses := true, apart := false }
def FnExactThreeOfSaid : Prop := fnExactThreeOfRow.holds Try.pinned (OpenSpec.ofChange fnExactThreeOfSpec)

/-- ITS FALSE NEIGHBOUR: 'it returns false'. Refute it at one input. -/
def fnExactThreeOfWrong : ChangeSpec := { name := "fnExactThreeOf", fn := fun _ => fun
  | [d] => { results := [.lit (.bool false)], args := [d] }
  | _ => none }
def FnExactThreeOfWrongFalsely : Prop := fnExactThreeOfRow.holds Try.pinned (OpenSpec.ofChange fnExactThreeOfWrong)

/-- 'laws.FnExactThreeCount': WHATEVER THE INPUT: true; the input reads as it did. -/
def fnExactThreeCountSpec : ChangeSpec := { name := "fnExactThreeCount", fn := fun _ => fun
  | [d1, d2] => { results := [.lit (.bool true)], args := [d1, d2] }
  | _ => none }
def fnExactThreeCountRow : OpenClaim := { program := "ytnaidbpkllmeoaa", sum := "dad9b7f598091432f71f1d72ec3f5aa718b448844ee4949a60904de9c0a205a7", func := "loop.example/g00096/laws.FnExactThreeCount", spec := "fnExactThreeCount", inPlace := ["internal/bytealg.abigen_runtime_cmpstring"], unfollowed := true, recurses := true, apart := false }
def FnExactThreeCountSaid : Prop := fnExactThreeCountRow.holds Try.pinned (OpenSpec.ofChange fnExactThreeCountSpec)

/-- ITS FALSE NEIGHBOUR: 'it returns false'. Refute it at one input. -/
def fnExactThreeCountWrong : ChangeSpec := { name := "fnExactThreeCount", fn := fun _ => fun
  | [d1, d2] => { results := [.lit (.bool false)], args := [d1, d2] }
  | _ => none }
def FnExactThreeCountWrongFalsely : Prop := fnExactThreeCountRow.holds Try.pinned (OpenSpec.ofChange fnExactThreeCountWrong)

/-- 'laws.FnExactThreeOrder': WHATEVER THE INPUT: true; the input reads as it did. -/
def fnExactThreeOrderSpec : ChangeSpec := { name := "fnExactThreeOrder", fn := fun _ => fun
  | [d1, d2, d3] => { results := [.lit (.bool true)], args := [d1, d2, d3] }
  | _ => none }
def fnExactThreeOrderRow : OpenClaim := { program := "ytnaidbpkllmeoaa", sum := "dad9b7f598091432f71f1d72ec3f5aa718b448844ee4949a60904de9c0a205a7", func := "loop.example/g00096/laws.FnExactThreeOrder", spec := "fnExactThreeOrder", inPlace := ["internal/bytealg.abigen_runtime_cmpstring"], unfollowed := true, recurses := true, apart := false }
def FnExactThreeOrderSaid : Prop := fnExactThreeOrderRow.holds Try.pinned (OpenSpec.ofChange fnExactThreeOrderSpec)

/-- ITS FALSE NEIGHBOUR: 'it returns false'. Refute it at one input. -/
def fnExactThreeOrderWrong : ChangeSpec := { name := "fnExactThreeOrder", fn := fun _ => fun
  | [d1, d2, d3] => { results := [.lit (.bool false)], args := [d1, d2, d3] }
  | _ => none }
def FnExactThreeOrderWrongFalsely : Prop := fnExactThreeOrderRow.holds Try.pinned (OpenSpec.ofChange fnExactThreeOrderWrong)

/-- 'laws.FnExactThreeText': WHATEVER THE INPUT: true; the input reads as it did. -/
def fnExactThreeTextSpec : ChangeSpec := { name := "fnExactThreeText", fn := fun _ => fun
  | [d] => { results := [.lit (.bool true)], args := [d] }
  | _ => none }
def fnExactThreeTextRow : OpenClaim := { program := "ytnaidbpkllmeoaa", sum := "dad9b7f598091432f71f1d72ec3f5aa718b448844ee4949a60904de9c0a205a7", func := "loop.example/g00096/laws.FnExactThreeText", spec := "fnExactThreeText", unfollowed := true, recurses := true, apart := false }
def FnExactThreeTextSaid : Prop := fnExactThreeTextRow.holds Try.pinned (OpenSpec.ofChange fnExactThreeTextSpec)

/-- ITS FALSE NEIGHBOUR: 'it returns false'. Refute it at one input. -/
def fnExactThreeTextWrong : ChangeSpec := { name := "fnExactThreeText", fn := fun _ => fun
  | [d] => { results := [.lit (.bool false)], args := [d] }
  | _ => none }
def FnExactThreeTextWrongFalsely : Prop := fnExactThreeTextRow.holds Try.pinned (OpenSpec.ofChange fnExactThreeTextWrong)

/-- 'laws.FnExactCloseLines': WHATEVER THE INPUT: true; the input reads as it did. -/
def fnExactCloseLinesSpec : ChangeSpec := { name := "fnExactCloseLines", fn := fun _ => fun
  | [d] => { results := [.lit (.bool true)], args := [d] }
  | _ => none }
def fnExactCloseLinesRow : OpenClaim := { program := "ytnaidbpkllmeoaa", sum := "dad9b7f598091432f71f1d72ec3f5aa718b448844ee4949a60904de9c0a205a7", func := "loop.example/g00096/laws.FnExactCloseLines", spec := "fnExactCloseLines", inPlace := ["internal/bytealg.abigen_runtime_cmpstring"], unfollowed := true, recurses := true, apart := false }
def FnExactCloseLinesSaid : Prop := fnExactCloseLinesRow.holds Try.pinned (OpenSpec.ofChange fnExactCloseLinesSpec)

/-- ITS FALSE NEIGHBOUR: 'it returns false'. Refute it at one input. -/
def fnExactCloseLinesWrong : ChangeSpec := { name := "fnExactCloseLines", fn := fun _ => fun
  | [d] => { results := [.lit (.bool false)], args := [d] }
  | _ => none }
def FnExactCloseLinesWrongFalsely : Prop := fnExactCloseLinesRow.holds Try.pinned (OpenSpec.ofChange fnExactCloseLinesWrong)

/- THE SECOND FORM. 'bulk': how many values and letters a reading holds, each counted each time it is reached (what is shared counts as often as it is met; a slice's spare places count too). A statement '..UptoSaid' is the law's where the arguments, and the package variables that the reading takes, are together of bulk at most 1048576: NARROWER than '..Said'. Prove '..Said' where nothing that the law and all that it calls make is longer than what came in: it says more and counts as full. Else prove '..UptoSaid'. A law counts once. -/
mutual
def uptoBulk {H : Type} : DataW H → Nat
  | .lit (.string bytes) => bytes.length + 1
  | .lit _ => 1
  | .nil => 1
  | .ptr d => uptoBulk d + 1
  | .slice elems spare => uptoBulkAll elems + uptoBulkAll spare + 1
  | .agg parts => uptoBulkAll parts + 1
  | .iface _ d => uptoBulk d + 1
  | .map entries => uptoBulkEntries entries + 1
  | .held _ => 1
def uptoBulkAll {H : Type} : List (DataW H) → Nat
  | [] => 0
  | d :: r => uptoBulk d + uptoBulkAll r
def uptoBulkEntries {H : Type} : List (Lit × DataW H) → Nat
  | [] => 0
  | x :: r => uptoBulkEntry x + uptoBulkEntries r
def uptoBulkEntry {H : Type} : Lit × DataW H → Nat
  | (.string bytes, d) => bytes.length + uptoBulk d + 1
  | (_, d) => uptoBulk d + 1
 end
def uptoSmall : (H : Type) → List (DataW H) → Bool := fun _ ds => decide (uptoBulkAll ds ≤ 1048576)
def OpenSpec.upto (s : _root_.Go.ChangeSpec) : _root_.Go.OpenSpec := { _root_.Go.OpenSpec.ofChange s with cond := some uptoSmall }

/-- 'laws.FnExactThreeOf', WHERE WHAT IT READS IS OF BULK AT MOST 1048576: true; the input reads as it did. -/
def fnExactThreeOfUptoRow : OpenClaim := { program := "ytnaidbpkllmeoaa", sum := "dad9b7f598091432f71f1d72ec3f5aa718b448844ee4949a60904de9c0a205a7", func := "loop.example/g00096/laws.FnExactThreeOf", spec := "fnExactThreeOf", unfollowed := true, recurses := true, apart := false, narrowed := true }
def FnExactThreeOfUptoSaid : Prop := fnExactThreeOfUptoRow.holds Try.pinned (OpenSpec.upto fnExactThreeOfSpec)

/-- 'laws.FnExactThreeCount', WHERE WHAT IT READS IS OF BULK AT MOST 1048576: true; the input reads as it did. -/
def fnExactThreeCountUptoRow : OpenClaim := { program := "ytnaidbpkllmeoaa", sum := "dad9b7f598091432f71f1d72ec3f5aa718b448844ee4949a60904de9c0a205a7", func := "loop.example/g00096/laws.FnExactThreeCount", spec := "fnExactThreeCount", inPlace := ["internal/bytealg.abigen_runtime_cmpstring"], unfollowed := true, recurses := true, apart := false, narrowed := true }
def FnExactThreeCountUptoSaid : Prop := fnExactThreeCountUptoRow.holds Try.pinned (OpenSpec.upto fnExactThreeCountSpec)

/-- 'laws.FnExactThreeOrder', WHERE WHAT IT READS IS OF BULK AT MOST 1048576: true; the input reads as it did. -/
def fnExactThreeOrderUptoRow : OpenClaim := { program := "ytnaidbpkllmeoaa", sum := "dad9b7f598091432f71f1d72ec3f5aa718b448844ee4949a60904de9c0a205a7", func := "loop.example/g00096/laws.FnExactThreeOrder", spec := "fnExactThreeOrder", inPlace := ["internal/bytealg.abigen_runtime_cmpstring"], unfollowed := true, recurses := true, apart := false, narrowed := true }
def FnExactThreeOrderUptoSaid : Prop := fnExactThreeOrderUptoRow.holds Try.pinned (OpenSpec.upto fnExactThreeOrderSpec)

/-- 'laws.FnExactThreeText', WHERE WHAT IT READS IS OF BULK AT MOST 1048576: true; the input reads as it did. -/
def fnExactThreeTextUptoRow : OpenClaim := { program := "ytnaidbpkllmeoaa", sum := "dad9b7f598091432f71f1d72ec3f5aa718b448844ee4949a60904de9c0a205a7", func := "loop.example/g00096/laws.FnExactThreeText", spec := "fnExactThreeText", unfollowed := true, recurses := true, apart := false, narrowed := true }
def FnExactThreeTextUptoSaid : Prop := fnExactThreeTextUptoRow.holds Try.pinned (OpenSpec.upto fnExactThreeTextSpec)

/-- 'laws.FnExactCloseLines', WHERE WHAT IT READS IS OF BULK AT MOST 1048576: true; the input reads as it did. -/
def fnExactCloseLinesUptoRow : OpenClaim := { program := "ytnaidbpkllmeoaa", sum := "dad9b7f598091432f71f1d72ec3f5aa718b448844ee4949a60904de9c0a205a7", func := "loop.example/g00096/laws.FnExactCloseLines", spec := "fnExactCloseLines", inPlace := ["internal/bytealg.abigen_runtime_cmpstring"], unfollowed := true, recurses := true, apart := false, narrowed := true }
def FnExactCloseLinesUptoSaid : Prop := fnExactCloseLinesUptoRow.holds Try.pinned (OpenSpec.upto fnExactCloseLinesSpec)

end Rows
end Go.Proofs.Ytnaidbpkllmeoaa
