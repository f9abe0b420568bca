/-
  No cell of these rows narrows 'for every input' (looked for: loops, veiled, ifaces, maps, wideKeys, modest, calm, conditions, laid).
  DERIVED. THE GIVEN ROWS OF THIS SEAT. 3 by the template 'for every input the law returns true; each argument reads behind the call as it read before'; 0 by the template 'total and deterministic' (their statements: YtppfobeencnbdaaTotals.lean).
  GIVEN WITH THE SEED: the statements are not yours to turn. If you find one false, say at which input.
  Laid BY PROGRAM, IN A SANDBOX (cutbox-rows.mjs): the forced cells as the released guide's own fill.sh prints them over the translation f34f4d8af5dc8bb7… (all of the seat's roots in one cut). By AI agents, Wed Nov 11 2026. No macro, syntax, notation, axiom, sorry.
-/
import Derived.Test.YtppfobeencnbdaaChecked
import GoSem.Claim
import GoSem.ClaimJoined
import GoSem.ClaimMapViews
import Derived.JoinedTies
import Derived.KernelRfl
namespace Go.Proofs.Ytppfobeencnbdaa
/- THE CELL 'sum', in the pinned program and in every row, IS THE sha256 OF THE DUMP (.gsa) THAT YtppfobeencnbdaaProg.lean LOADS. Nothing in Lean hashes anything: it is a label: what it is worth is what the hold of that sum in a sandbox is worth. -/
noncomputable def Try.pinned : Pinned := { name := "ytppfobeencnbdaa", sum := "f34f4d8af5dc8bb7f6649f177c56b0e16199be2c94b1f32de07998a4cb63d8e8", checked := Try.checked }
namespace Rows
def none {H : Type} : Left H := { results := [], args := [] }

/-- 'laws.FnThrees': WHATEVER THE INPUT: true; the input reads as it did. -/
def fnThreesSpec : ChangeSpec := { name := "fnThrees", fn := fun _ => fun
  | [d] => { results := [.lit (.bool true)], args := [d] }
  | _ => none }
def fnThreesRow : OpenClaim := { program := "ytppfobeencnbdaa", sum := "f34f4d8af5dc8bb7f6649f177c56b0e16199be2c94b1f32de07998a4cb63d8e8", func := "loop.example/g00096/laws.FnThrees", spec := "fnThrees", inPlace := ["internal/bytealg.abigen_runtime_cmpstring"], unfollowed := true, recurses := true, apart := false }
def FnThreesSaid : Prop := fnThreesRow.holds Try.pinned (OpenSpec.ofChange fnThreesSpec)

/-- ITS FALSE NEIGHBOUR: 'it returns false'. Refute it at one input. -/
def fnThreesWrong : ChangeSpec := { name := "fnThrees", fn := fun _ => fun
  | [d] => { results := [.lit (.bool false)], args := [d] }
  | _ => none }
def FnThreesWrongFalsely : Prop := fnThreesRow.holds Try.pinned (OpenSpec.ofChange fnThreesWrong)

/-- 'laws.FnClosed': WHATEVER THE INPUT: true; the input reads as it did. -/
def fnClosedSpec : ChangeSpec := { name := "fnClosed", fn := fun _ => fun
  | [d] => { results := [.lit (.bool true)], args := [d] }
  | _ => none }
def fnClosedRow : OpenClaim := { program := "ytppfobeencnbdaa", sum := "f34f4d8af5dc8bb7f6649f177c56b0e16199be2c94b1f32de07998a4cb63d8e8", func := "loop.example/g00096/laws.FnClosed", spec := "fnClosed", inPlace := ["internal/bytealg.abigen_runtime_cmpstring"], unfollowed := true, recurses := true, apart := false }
def FnClosedSaid : Prop := fnClosedRow.holds Try.pinned (OpenSpec.ofChange fnClosedSpec)

/-- ITS FALSE NEIGHBOUR: 'it returns false'. Refute it at one input. -/
def fnClosedWrong : ChangeSpec := { name := "fnClosed", fn := fun _ => fun
  | [d] => { results := [.lit (.bool false)], args := [d] }
  | _ => none }
def FnClosedWrongFalsely : Prop := fnClosedRow.holds Try.pinned (OpenSpec.ofChange fnClosedWrong)

/-- 'laws.FnOrderStands': WHATEVER THE INPUT: true; the input reads as it did. -/
def fnOrderStandsSpec : ChangeSpec := { name := "fnOrderStands", fn := fun _ => fun
  | [d] => { results := [.lit (.bool true)], args := [d] }
  | _ => none }
def fnOrderStandsRow : OpenClaim := { program := "ytppfobeencnbdaa", sum := "f34f4d8af5dc8bb7f6649f177c56b0e16199be2c94b1f32de07998a4cb63d8e8", func := "loop.example/g00096/laws.FnOrderStands", spec := "fnOrderStands", inPlace := ["internal/bytealg.abigen_runtime_cmpstring"], unfollowed := true, recurses := true, apart := false }
def FnOrderStandsSaid : Prop := fnOrderStandsRow.holds Try.pinned (OpenSpec.ofChange fnOrderStandsSpec)

/-- ITS FALSE NEIGHBOUR: 'it returns false'. Refute it at one input. -/
def fnOrderStandsWrong : ChangeSpec := { name := "fnOrderStands", fn := fun _ => fun
  | [d] => { results := [.lit (.bool false)], args := [d] }
  | _ => none }
def FnOrderStandsWrongFalsely : Prop := fnOrderStandsRow.holds Try.pinned (OpenSpec.ofChange fnOrderStandsWrong)

/- THE SECOND FORM. 'bulk': how many values and letters a reading holds, each counted each time it is reached (what is shared counts as often as it is met; a slice's spare places count too). A statement '..UptoSaid' is the law's where the arguments, and the package variables that the reading takes, are together of bulk at most 1048576: NARROWER than '..Said'. Prove '..Said' where nothing that the law and all that it calls make is longer than what came in: it says more and counts as full. Else prove '..UptoSaid'. A law counts once. -/
mutual
def uptoBulk {H : Type} : DataW H → Nat
  | .lit (.string bytes) => bytes.length + 1
  | .lit _ => 1
  | .nil => 1
  | .ptr d => uptoBulk d + 1
  | .slice elems spare => uptoBulkAll elems + uptoBulkAll spare + 1
  | .agg parts => uptoBulkAll parts + 1
  | .iface _ d => uptoBulk d + 1
  | .map entries => uptoBulkEntries entries + 1
  | .held _ => 1
def uptoBulkAll {H : Type} : List (DataW H) → Nat
  | [] => 0
  | d :: r => uptoBulk d + uptoBulkAll r
def uptoBulkEntries {H : Type} : List (Lit × DataW H) → Nat
  | [] => 0
  | x :: r => uptoBulkEntry x + uptoBulkEntries r
def uptoBulkEntry {H : Type} : Lit × DataW H → Nat
  | (.string bytes, d) => bytes.length + uptoBulk d + 1
  | (_, d) => uptoBulk d + 1
 end
def uptoSmall : (H : Type) → List (DataW H) → Bool := fun _ ds => decide (uptoBulkAll ds ≤ 1048576)
def OpenSpec.upto (s : _root_.Go.ChangeSpec) : _root_.Go.OpenSpec := { _root_.Go.OpenSpec.ofChange s with cond := some uptoSmall }

/-- 'laws.FnThrees', WHERE WHAT IT READS IS OF BULK AT MOST 1048576: true; the input reads as it did. -/
def fnThreesUptoRow : OpenClaim := { program := "ytppfobeencnbdaa", sum := "f34f4d8af5dc8bb7f6649f177c56b0e16199be2c94b1f32de07998a4cb63d8e8", func := "loop.example/g00096/laws.FnThrees", spec := "fnThrees", inPlace := ["internal/bytealg.abigen_runtime_cmpstring"], unfollowed := true, recurses := true, apart := false, narrowed := true }
def FnThreesUptoSaid : Prop := fnThreesUptoRow.holds Try.pinned (OpenSpec.upto fnThreesSpec)

/-- 'laws.FnClosed', WHERE WHAT IT READS IS OF BULK AT MOST 1048576: true; the input reads as it did. -/
def fnClosedUptoRow : OpenClaim := { program := "ytppfobeencnbdaa", sum := "f34f4d8af5dc8bb7f6649f177c56b0e16199be2c94b1f32de07998a4cb63d8e8", func := "loop.example/g00096/laws.FnClosed", spec := "fnClosed", inPlace := ["internal/bytealg.abigen_runtime_cmpstring"], unfollowed := true, recurses := true, apart := false, narrowed := true }
def FnClosedUptoSaid : Prop := fnClosedUptoRow.holds Try.pinned (OpenSpec.upto fnClosedSpec)

/-- 'laws.FnOrderStands', WHERE WHAT IT READS IS OF BULK AT MOST 1048576: true; the input reads as it did. -/
def fnOrderStandsUptoRow : OpenClaim := { program := "ytppfobeencnbdaa", sum := "f34f4d8af5dc8bb7f6649f177c56b0e16199be2c94b1f32de07998a4cb63d8e8", func := "loop.example/g00096/laws.FnOrderStands", spec := "fnOrderStands", inPlace := ["internal/bytealg.abigen_runtime_cmpstring"], unfollowed := true, recurses := true, apart := false, narrowed := true }
def FnOrderStandsUptoSaid : Prop := fnOrderStandsUptoRow.holds Try.pinned (OpenSpec.upto fnOrderStandsSpec)

end Rows
end Go.Proofs.Ytppfobeencnbdaa
