/-
  NARROWER THAN 'FOR EVERY INPUT', by the rows' own cells (each row's printed sentence says how): FnExactTableOf: laid · FnExactKindName: laid · FnExactTagOf: laid.
  DERIVED. THE GIVEN ROWS OF THIS SEAT. 3 by the template 'for every input the law returns true; each argument reads behind the call as it read before'; 0 by the template 'total and deterministic' (their statements: YtpmghkkkiniblaaDoorTotals.lean).
  GIVEN WITH THE SEED: the statements are not yours to turn. If you find one false, say at which input.
  Laid BY PROGRAM, IN A SANDBOX (cutbox-rows.mjs): the forced cells as the released guide's own fill.sh prints them over the translation adba481c1fb8e346… (all of the seat's roots in one cut). By AI agents, Wed Nov 11 2026. No macro, syntax, notation, axiom, sorry.
-/
import Derived.Test.YtpmghkkkiniblaaDoorChecked
import GoSem.Claim
import GoSem.ClaimJoined
import GoSem.ClaimMapViews
import Derived.JoinedTies
import Derived.KernelRfl
namespace Go.Proofs.YtpmghkkkiniblaaDoor
/- THE CELL 'sum', in the pinned program and in every row, IS THE sha256 OF THE DUMP (.gsa) THAT YtpmghkkkiniblaaDoorProg.lean LOADS. Nothing in Lean hashes anything: it is a label: what it is worth is what the hold of that sum in a sandbox is worth. -/
noncomputable def Tryd.pinned : Pinned := { name := "ytpmghkkkiniblaadoor", sum := "adba481c1fb8e346f343a6436f017ce8fa0b71c14023a9445363b67cabb7807b", checked := Tryd.checked }
namespace Rows
def none {H : Type} : Left H := { results := [], args := [] }

/- WHAT THE LISTED PACKAGE-LEVEL VARIABLES READ AS WHEN THE CALL BEGINS. Each datum BY PROGRAM (the guide's laid-datum.mjs) off the statement by which the dump's own 'gosem.cut.vars' lays the variable. In a bare row this is a premise. The card (YtpmghkkkiniblaaDoorCards.lean) ties it to the program's text. -/
def laid_loop_example_g00096_impl_tables {H : Type} : DataW H := .agg [.agg [.lit (.string []), .nil], .agg [.lit (.string [79, 82, 68, 69, 82]), .slice [.agg [.lit (.string [68, 79, 67]), .lit (.int .i64 1), .lit (.int .i64 1), .lit (.string [114, 100])], .agg [.lit (.string [78, 79, 84]), .lit (.int .i64 0), .lit (.int .i64 2), .lit (.string [116])], .agg [.lit (.string [76, 73, 78]), .lit (.int .i64 1), .lit (.int .i64 20), .lit (.string [110, 114, 113, 63, 110])]] []], .agg [.lit (.string [65, 78, 83, 87, 69, 82]), .slice [.agg [.lit (.string [68, 79, 67]), .lit (.int .i64 1), .lit (.int .i64 1), .lit (.string [114, 114, 100])], .agg [.lit (.string [76, 73, 78]), .lit (.int .i64 1), .lit (.int .i64 20), .lit (.string [110, 113, 63, 116])]] []], .agg [.lit (.string [83, 69, 78, 84]), .slice [.agg [.lit (.string [68, 79, 67]), .lit (.int .i64 1), .lit (.int .i64 1), .lit (.string [114, 114, 100])], .agg [.lit (.string [78, 79, 84]), .lit (.int .i64 0), .lit (.int .i64 2), .lit (.string [116])], .agg [.lit (.string [76, 73, 78]), .lit (.int .i64 1), .lit (.int .i64 20), .lit (.string [110, 113])]] []], .agg [.lit (.string [71, 79, 84]), .slice [.agg [.lit (.string [68, 79, 67]), .lit (.int .i64 1), .lit (.int .i64 1), .lit (.string [114, 114, 100])], .agg [.lit (.string [76, 73, 78]), .lit (.int .i64 1), .lit (.int .i64 20), .lit (.string [110, 113, 63, 116])]] []], .agg [.lit (.string [83, 84, 79, 67, 75]), .slice [.agg [.lit (.string [68, 79, 67]), .lit (.int .i64 1), .lit (.int .i64 1), .lit (.string [114, 100])], .agg [.lit (.string [73, 84, 77]), .lit (.int .i64 1), .lit (.int .i64 20), .lit (.string [114, 110])]] []], .agg [.lit (.string [65, 68, 74, 85, 83, 84]), .slice [.agg [.lit (.string [68, 79, 67]), .lit (.int .i64 1), .lit (.int .i64 1), .lit (.string [114, 100])], .agg [.lit (.string [73, 84, 77]), .lit (.int .i64 1), .lit (.int .i64 20), .lit (.string [114, 122, 63, 116])]] []], .agg [.lit (.string [72, 69, 65, 82, 68]), .slice [.agg [.lit (.string [68, 79, 67]), .lit (.int .i64 1), .lit (.int .i64 1), .lit (.string [114, 100])], .agg [.lit (.string [65, 67, 75]), .lit (.int .i64 1), .lit (.int .i64 1), .lit (.string [110, 110, 63, 110])]] []]]

/-- 'laws.FnExactTableOf': WHATEVER THE INPUT: true; the input reads as it did. -/
def fnExactTableOfSpec : ChangeSpec := { name := "fnExactTableOf", vars := ["loop.example/g00096/impl.tables"], fn := fun _ => fun
  | [d, g1] => { results := [.lit (.bool true)], args := [d], vars := [g1] }
  | _ => none }
def fnExactTableOfRow : OpenClaim := { program := "ytpmghkkkiniblaadoor", sum := "adba481c1fb8e346f343a6436f017ce8fa0b71c14023a9445363b67cabb7807b", func := "loop.example/g00096/laws.FnExactTableOf", spec := "fnExactTableOf", named := ["loop.example/g00096/impl.tables"], apart := false, laid := [("loop.example/g00096/impl.tables", laid_loop_example_g00096_impl_tables)] }
def FnExactTableOfSaid : Prop := fnExactTableOfRow.holds Tryd.pinned (OpenSpec.ofChange fnExactTableOfSpec)

/-- ITS FALSE NEIGHBOUR: 'it returns false'. Refute it at one input. -/
def fnExactTableOfWrong : ChangeSpec := { name := "fnExactTableOf", vars := ["loop.example/g00096/impl.tables"], fn := fun _ => fun
  | [d, g1] => { results := [.lit (.bool false)], args := [d], vars := [g1] }
  | _ => none }
def FnExactTableOfWrongFalsely : Prop := fnExactTableOfRow.holds Tryd.pinned (OpenSpec.ofChange fnExactTableOfWrong)

/-- 'laws.FnExactKindName': WHATEVER THE INPUT: true; the input reads as it did. -/
def fnExactKindNameSpec : ChangeSpec := { name := "fnExactKindName", vars := ["loop.example/g00096/impl.tables"], fn := fun _ => fun
  | [d, g1] => { results := [.lit (.bool true)], args := [d], vars := [g1] }
  | _ => none }
def fnExactKindNameRow : OpenClaim := { program := "ytpmghkkkiniblaadoor", sum := "adba481c1fb8e346f343a6436f017ce8fa0b71c14023a9445363b67cabb7807b", func := "loop.example/g00096/laws.FnExactKindName", spec := "fnExactKindName", named := ["loop.example/g00096/impl.tables"], apart := false, laid := [("loop.example/g00096/impl.tables", laid_loop_example_g00096_impl_tables)] }
def FnExactKindNameSaid : Prop := fnExactKindNameRow.holds Tryd.pinned (OpenSpec.ofChange fnExactKindNameSpec)

/-- ITS FALSE NEIGHBOUR: 'it returns false'. Refute it at one input. -/
def fnExactKindNameWrong : ChangeSpec := { name := "fnExactKindName", vars := ["loop.example/g00096/impl.tables"], fn := fun _ => fun
  | [d, g1] => { results := [.lit (.bool false)], args := [d], vars := [g1] }
  | _ => none }
def FnExactKindNameWrongFalsely : Prop := fnExactKindNameRow.holds Tryd.pinned (OpenSpec.ofChange fnExactKindNameWrong)

/-- 'laws.FnExactTagOf': WHATEVER THE INPUT: true; the input reads as it did. -/
def fnExactTagOfSpec : ChangeSpec := { name := "fnExactTagOf", vars := ["loop.example/g00096/impl.tables"], fn := fun _ => fun
  | [d1, d2, g1] => { results := [.lit (.bool true)], args := [d1, d2], vars := [g1] }
  | _ => none }
def fnExactTagOfRow : OpenClaim := { program := "ytpmghkkkiniblaadoor", sum := "adba481c1fb8e346f343a6436f017ce8fa0b71c14023a9445363b67cabb7807b", func := "loop.example/g00096/laws.FnExactTagOf", spec := "fnExactTagOf", named := ["loop.example/g00096/impl.tables"], apart := false, laid := [("loop.example/g00096/impl.tables", laid_loop_example_g00096_impl_tables)] }
def FnExactTagOfSaid : Prop := fnExactTagOfRow.holds Tryd.pinned (OpenSpec.ofChange fnExactTagOfSpec)

/-- ITS FALSE NEIGHBOUR: 'it returns false'. Refute it at one input. -/
def fnExactTagOfWrong : ChangeSpec := { name := "fnExactTagOf", vars := ["loop.example/g00096/impl.tables"], fn := fun _ => fun
  | [d1, d2, g1] => { results := [.lit (.bool false)], args := [d1, d2], vars := [g1] }
  | _ => none }
def FnExactTagOfWrongFalsely : Prop := fnExactTagOfRow.holds Tryd.pinned (OpenSpec.ofChange fnExactTagOfWrong)

/- THE SECOND FORM. 'bulk': how many values and letters a reading holds, each counted each time it is reached (what is shared counts as often as it is met; a slice's spare places count too). A statement '..UptoSaid' is the law's where the arguments, and the package variables that the reading takes, are together of bulk at most 1048576: NARROWER than '..Said'. Prove '..Said' where nothing that the law and all that it calls make is longer than what came in: it says more and counts as full. Else prove '..UptoSaid'. A law counts once. -/
mutual
def uptoBulk {H : Type} : DataW H → Nat
  | .lit (.string bytes) => bytes.length + 1
  | .lit _ => 1
  | .nil => 1
  | .ptr d => uptoBulk d + 1
  | .slice elems spare => uptoBulkAll elems + uptoBulkAll spare + 1
  | .agg parts => uptoBulkAll parts + 1
  | .iface _ d => uptoBulk d + 1
  | .map entries => uptoBulkEntries entries + 1
  | .held _ => 1
def uptoBulkAll {H : Type} : List (DataW H) → Nat
  | [] => 0
  | d :: r => uptoBulk d + uptoBulkAll r
def uptoBulkEntries {H : Type} : List (Lit × DataW H) → Nat
  | [] => 0
  | x :: r => uptoBulkEntry x + uptoBulkEntries r
def uptoBulkEntry {H : Type} : Lit × DataW H → Nat
  | (.string bytes, d) => bytes.length + uptoBulk d + 1
  | (_, d) => uptoBulk d + 1
 end
def uptoSmall : (H : Type) → List (DataW H) → Bool := fun _ ds => decide (uptoBulkAll ds ≤ 1048576)
def OpenSpec.upto (s : _root_.Go.ChangeSpec) : _root_.Go.OpenSpec := { _root_.Go.OpenSpec.ofChange s with cond := some uptoSmall }

/-- 'laws.FnExactTableOf', WHERE WHAT IT READS IS OF BULK AT MOST 1048576: true; the input reads as it did. -/
def fnExactTableOfUptoRow : OpenClaim := { program := "ytpmghkkkiniblaadoor", sum := "adba481c1fb8e346f343a6436f017ce8fa0b71c14023a9445363b67cabb7807b", func := "loop.example/g00096/laws.FnExactTableOf", spec := "fnExactTableOf", named := ["loop.example/g00096/impl.tables"], apart := false, laid := [("loop.example/g00096/impl.tables", laid_loop_example_g00096_impl_tables)], narrowed := true }
def FnExactTableOfUptoSaid : Prop := fnExactTableOfUptoRow.holds Tryd.pinned (OpenSpec.upto fnExactTableOfSpec)

/-- 'laws.FnExactKindName', WHERE WHAT IT READS IS OF BULK AT MOST 1048576: true; the input reads as it did. -/
def fnExactKindNameUptoRow : OpenClaim := { program := "ytpmghkkkiniblaadoor", sum := "adba481c1fb8e346f343a6436f017ce8fa0b71c14023a9445363b67cabb7807b", func := "loop.example/g00096/laws.FnExactKindName", spec := "fnExactKindName", named := ["loop.example/g00096/impl.tables"], apart := false, laid := [("loop.example/g00096/impl.tables", laid_loop_example_g00096_impl_tables)], narrowed := true }
def FnExactKindNameUptoSaid : Prop := fnExactKindNameUptoRow.holds Tryd.pinned (OpenSpec.upto fnExactKindNameSpec)

/-- 'laws.FnExactTagOf', WHERE WHAT IT READS IS OF BULK AT MOST 1048576: true; the input reads as it did. -/
def fnExactTagOfUptoRow : OpenClaim := { program := "ytpmghkkkiniblaadoor", sum := "adba481c1fb8e346f343a6436f017ce8fa0b71c14023a9445363b67cabb7807b", func := "loop.example/g00096/laws.FnExactTagOf", spec := "fnExactTagOf", named := ["loop.example/g00096/impl.tables"], apart := false, laid := [("loop.example/g00096/impl.tables", laid_loop_example_g00096_impl_tables)], narrowed := true }
def FnExactTagOfUptoSaid : Prop := fnExactTagOfUptoRow.holds Tryd.pinned (OpenSpec.upto fnExactTagOfSpec)

end Rows
end Go.Proofs.YtpmghkkkiniblaaDoor
