/-
  No cell of these rows narrows 'for every input' (looked for: loops, veiled, ifaces, maps, wideKeys, modest, calm, conditions, laid).
  DERIVED. THE GIVEN ROWS OF THIS SEAT. 6 by the template 'for every input the law returns true; each argument reads behind the call as it read before'; 0 by the template 'total and deterministic' (their statements: YtbpndigccieaiahTotals.lean).
  GIVEN WITH THE SEED: the statements are not yours to turn. If you find one false, say at which input.
  Laid BY PROGRAM, IN A SANDBOX (cutbox-rows.mjs): the forced cells as the released guide's own fill.sh prints them over the translation 75394d50d03d772c… (all of the seat's roots in one cut). By AI agents, Wed Nov 11 2026. No macro, syntax, notation, axiom, sorry.
-/
import Derived.Test.YtbpndigccieaiahChecked
import GoSem.Claim
import GoSem.ClaimJoined
import GoSem.ClaimMapViews
import Derived.JoinedTies
import Derived.KernelRfl
namespace Go.Proofs.Ytbpndigccieaiah
/- THE CELL 'sum', in the pinned program and in every row, IS THE sha256 OF THE DUMP (.gsa) THAT YtbpndigccieaiahProg.lean LOADS. Nothing in Lean hashes anything: it is a label: what it is worth is what the hold of that sum in a sandbox is worth. -/
noncomputable def Try.pinned : Pinned := { name := "ytbpndigccieaiah", sum := "75394d50d03d772c78b21f4303b4dd399a851ffe720c2137e3da2fb80025e8b4", checked := Try.checked }
namespace Rows
def none {H : Type} : Left H := { results := [], args := [] }

/-- 'laws.FnExactSyntaxRight': WHATEVER THE INPUT: true; the input reads as it did. -/
def fnExactSyntaxRightSpec : ChangeSpec := { name := "fnExactSyntaxRight", fn := fun _ => fun
  | [d] => { results := [.lit (.bool true)], args := [d] }
  | _ => none }
def fnExactSyntaxRightRow : OpenClaim := { program := "ytbpndigccieaiah", sum := "75394d50d03d772c78b21f4303b4dd399a851ffe720c2137e3da2fb80025e8b4", func := "loop.example/g00096/laws.FnExactSyntaxRight", spec := "fnExactSyntaxRight", apart := false }
def FnExactSyntaxRightSaid : Prop := fnExactSyntaxRightRow.holds Try.pinned (OpenSpec.ofChange fnExactSyntaxRightSpec)

/-- ITS FALSE NEIGHBOUR: 'it returns false'. Refute it at one input. -/
def fnExactSyntaxRightWrong : ChangeSpec := { name := "fnExactSyntaxRight", fn := fun _ => fun
  | [d] => { results := [.lit (.bool false)], args := [d] }
  | _ => none }
def FnExactSyntaxRightWrongFalsely : Prop := fnExactSyntaxRightRow.holds Try.pinned (OpenSpec.ofChange fnExactSyntaxRightWrong)

/-- 'laws.FnExactEscape': WHATEVER THE INPUT: true; the input reads as it did. -/
def fnExactEscapeSpec : ChangeSpec := { name := "fnExactEscape", fn := fun _ => fun
  | [d1, d2] => { results := [.lit (.bool true)], args := [d1, d2] }
  | _ => none }
def fnExactEscapeRow : OpenClaim := { program := "ytbpndigccieaiah", sum := "75394d50d03d772c78b21f4303b4dd399a851ffe720c2137e3da2fb80025e8b4", func := "loop.example/g00096/laws.FnExactEscape", spec := "fnExactEscape", unfollowed := true, recurses := true, apart := false }
def FnExactEscapeSaid : Prop := fnExactEscapeRow.holds Try.pinned (OpenSpec.ofChange fnExactEscapeSpec)

/-- ITS FALSE NEIGHBOUR: 'it returns false'. Refute it at one input. -/
def fnExactEscapeWrong : ChangeSpec := { name := "fnExactEscape", fn := fun _ => fun
  | [d1, d2] => { results := [.lit (.bool false)], args := [d1, d2] }
  | _ => none }
def FnExactEscapeWrongFalsely : Prop := fnExactEscapeRow.holds Try.pinned (OpenSpec.ofChange fnExactEscapeWrong)

/-- 'laws.FnExactUnescape': WHATEVER THE INPUT: true; the input reads as it did. -/
def fnExactUnescapeSpec : ChangeSpec := { name := "fnExactUnescape", fn := fun _ => fun
  | [d1, d2] => { results := [.lit (.bool true)], args := [d1, d2] }
  | _ => none }
def fnExactUnescapeRow : OpenClaim := { program := "ytbpndigccieaiah", sum := "75394d50d03d772c78b21f4303b4dd399a851ffe720c2137e3da2fb80025e8b4", func := "loop.example/g00096/laws.FnExactUnescape", spec := "fnExactUnescape", unfollowed := true, recurses := true, apart := false }
def FnExactUnescapeSaid : Prop := fnExactUnescapeRow.holds Try.pinned (OpenSpec.ofChange fnExactUnescapeSpec)

/-- ITS FALSE NEIGHBOUR: 'it returns false'. Refute it at one input. -/
def fnExactUnescapeWrong : ChangeSpec := { name := "fnExactUnescape", fn := fun _ => fun
  | [d1, d2] => { results := [.lit (.bool false)], args := [d1, d2] }
  | _ => none }
def FnExactUnescapeWrongFalsely : Prop := fnExactUnescapeRow.holds Try.pinned (OpenSpec.ofChange fnExactUnescapeWrong)

/-- 'laws.FnExactCutAt': WHATEVER THE INPUT: true; the input reads as it did. -/
def fnExactCutAtSpec : ChangeSpec := { name := "fnExactCutAt", fn := fun _ => fun
  | [d1, d2, d3] => { results := [.lit (.bool true)], args := [d1, d2, d3] }
  | _ => none }
def fnExactCutAtRow : OpenClaim := { program := "ytbpndigccieaiah", sum := "75394d50d03d772c78b21f4303b4dd399a851ffe720c2137e3da2fb80025e8b4", func := "loop.example/g00096/laws.FnExactCutAt", spec := "fnExactCutAt", unfollowed := true, recurses := true, apart := false }
def FnExactCutAtSaid : Prop := fnExactCutAtRow.holds Try.pinned (OpenSpec.ofChange fnExactCutAtSpec)

/-- ITS FALSE NEIGHBOUR: 'it returns false'. Refute it at one input. -/
def fnExactCutAtWrong : ChangeSpec := { name := "fnExactCutAt", fn := fun _ => fun
  | [d1, d2, d3] => { results := [.lit (.bool false)], args := [d1, d2, d3] }
  | _ => none }
def FnExactCutAtWrongFalsely : Prop := fnExactCutAtRow.holds Try.pinned (OpenSpec.ofChange fnExactCutAtWrong)

/-- 'laws.FnExactSyntaxText': WHATEVER THE INPUT: true; the input reads as it did. -/
def fnExactSyntaxTextSpec : ChangeSpec := { name := "fnExactSyntaxText", fn := fun _ => fun
  | [d] => { results := [.lit (.bool true)], args := [d] }
  | _ => none }
def fnExactSyntaxTextRow : OpenClaim := { program := "ytbpndigccieaiah", sum := "75394d50d03d772c78b21f4303b4dd399a851ffe720c2137e3da2fb80025e8b4", func := "loop.example/g00096/laws.FnExactSyntaxText", spec := "fnExactSyntaxText", apart := false }
def FnExactSyntaxTextSaid : Prop := fnExactSyntaxTextRow.holds Try.pinned (OpenSpec.ofChange fnExactSyntaxTextSpec)

/-- ITS FALSE NEIGHBOUR: 'it returns false'. Refute it at one input. -/
def fnExactSyntaxTextWrong : ChangeSpec := { name := "fnExactSyntaxText", fn := fun _ => fun
  | [d] => { results := [.lit (.bool false)], args := [d] }
  | _ => none }
def FnExactSyntaxTextWrongFalsely : Prop := fnExactSyntaxTextRow.holds Try.pinned (OpenSpec.ofChange fnExactSyntaxTextWrong)

/-- 'laws.FnExactSyntaxRead': WHATEVER THE INPUT: true; the input reads as it did. -/
def fnExactSyntaxReadSpec : ChangeSpec := { name := "fnExactSyntaxRead", fn := fun _ => fun
  | [d] => { results := [.lit (.bool true)], args := [d] }
  | _ => none }
def fnExactSyntaxReadRow : OpenClaim := { program := "ytbpndigccieaiah", sum := "75394d50d03d772c78b21f4303b4dd399a851ffe720c2137e3da2fb80025e8b4", func := "loop.example/g00096/laws.FnExactSyntaxRead", spec := "fnExactSyntaxRead", apart := false }
def FnExactSyntaxReadSaid : Prop := fnExactSyntaxReadRow.holds Try.pinned (OpenSpec.ofChange fnExactSyntaxReadSpec)

/-- ITS FALSE NEIGHBOUR: 'it returns false'. Refute it at one input. -/
def fnExactSyntaxReadWrong : ChangeSpec := { name := "fnExactSyntaxRead", fn := fun _ => fun
  | [d] => { results := [.lit (.bool false)], args := [d] }
  | _ => none }
def FnExactSyntaxReadWrongFalsely : Prop := fnExactSyntaxReadRow.holds Try.pinned (OpenSpec.ofChange fnExactSyntaxReadWrong)

/- THE SECOND FORM. 'bulk': how many values and letters a reading holds, each counted each time it is reached (what is shared counts as often as it is met; a slice's spare places count too). A statement '..UptoSaid' is the law's where the arguments, and the package variables that the reading takes, are together of bulk at most 1048576: NARROWER than '..Said'. Prove '..Said' where nothing that the law and all that it calls make is longer than what came in: it says more and counts as full. Else prove '..UptoSaid'. A law counts once. -/
mutual
def uptoBulk {H : Type} : DataW H → Nat
  | .lit (.string bytes) => bytes.length + 1
  | .lit _ => 1
  | .nil => 1
  | .ptr d => uptoBulk d + 1
  | .slice elems spare => uptoBulkAll elems + uptoBulkAll spare + 1
  | .agg parts => uptoBulkAll parts + 1
  | .iface _ d => uptoBulk d + 1
  | .map entries => uptoBulkEntries entries + 1
  | .held _ => 1
def uptoBulkAll {H : Type} : List (DataW H) → Nat
  | [] => 0
  | d :: r => uptoBulk d + uptoBulkAll r
def uptoBulkEntries {H : Type} : List (Lit × DataW H) → Nat
  | [] => 0
  | x :: r => uptoBulkEntry x + uptoBulkEntries r
def uptoBulkEntry {H : Type} : Lit × DataW H → Nat
  | (.string bytes, d) => bytes.length + uptoBulk d + 1
  | (_, d) => uptoBulk d + 1
 end
def uptoSmall : (H : Type) → List (DataW H) → Bool := fun _ ds => decide (uptoBulkAll ds ≤ 1048576)
def OpenSpec.upto (s : _root_.Go.ChangeSpec) : _root_.Go.OpenSpec := { _root_.Go.OpenSpec.ofChange s with cond := some uptoSmall }

/-- 'laws.FnExactSyntaxRight', WHERE WHAT IT READS IS OF BULK AT MOST 1048576: true; the input reads as it did. -/
def fnExactSyntaxRightUptoRow : OpenClaim := { program := "ytbpndigccieaiah", sum := "75394d50d03d772c78b21f4303b4dd399a851ffe720c2137e3da2fb80025e8b4", func := "loop.example/g00096/laws.FnExactSyntaxRight", spec := "fnExactSyntaxRight", apart := false, narrowed := true }
def FnExactSyntaxRightUptoSaid : Prop := fnExactSyntaxRightUptoRow.holds Try.pinned (OpenSpec.upto fnExactSyntaxRightSpec)

/-- 'laws.FnExactEscape', WHERE WHAT IT READS IS OF BULK AT MOST 1048576: true; the input reads as it did. -/
def fnExactEscapeUptoRow : OpenClaim := { program := "ytbpndigccieaiah", sum := "75394d50d03d772c78b21f4303b4dd399a851ffe720c2137e3da2fb80025e8b4", func := "loop.example/g00096/laws.FnExactEscape", spec := "fnExactEscape", unfollowed := true, recurses := true, apart := false, narrowed := true }
def FnExactEscapeUptoSaid : Prop := fnExactEscapeUptoRow.holds Try.pinned (OpenSpec.upto fnExactEscapeSpec)

/-- 'laws.FnExactUnescape', WHERE WHAT IT READS IS OF BULK AT MOST 1048576: true; the input reads as it did. -/
def fnExactUnescapeUptoRow : OpenClaim := { program := "ytbpndigccieaiah", sum := "75394d50d03d772c78b21f4303b4dd399a851ffe720c2137e3da2fb80025e8b4", func := "loop.example/g00096/laws.FnExactUnescape", spec := "fnExactUnescape", unfollowed := true, recurses := true, apart := false, narrowed := true }
def FnExactUnescapeUptoSaid : Prop := fnExactUnescapeUptoRow.holds Try.pinned (OpenSpec.upto fnExactUnescapeSpec)

/-- 'laws.FnExactCutAt', WHERE WHAT IT READS IS OF BULK AT MOST 1048576: true; the input reads as it did. -/
def fnExactCutAtUptoRow : OpenClaim := { program := "ytbpndigccieaiah", sum := "75394d50d03d772c78b21f4303b4dd399a851ffe720c2137e3da2fb80025e8b4", func := "loop.example/g00096/laws.FnExactCutAt", spec := "fnExactCutAt", unfollowed := true, recurses := true, apart := false, narrowed := true }
def FnExactCutAtUptoSaid : Prop := fnExactCutAtUptoRow.holds Try.pinned (OpenSpec.upto fnExactCutAtSpec)

/-- 'laws.FnExactSyntaxText', WHERE WHAT IT READS IS OF BULK AT MOST 1048576: true; the input reads as it did. -/
def fnExactSyntaxTextUptoRow : OpenClaim := { program := "ytbpndigccieaiah", sum := "75394d50d03d772c78b21f4303b4dd399a851ffe720c2137e3da2fb80025e8b4", func := "loop.example/g00096/laws.FnExactSyntaxText", spec := "fnExactSyntaxText", apart := false, narrowed := true }
def FnExactSyntaxTextUptoSaid : Prop := fnExactSyntaxTextUptoRow.holds Try.pinned (OpenSpec.upto fnExactSyntaxTextSpec)

/-- 'laws.FnExactSyntaxRead', WHERE WHAT IT READS IS OF BULK AT MOST 1048576: true; the input reads as it did. -/
def fnExactSyntaxReadUptoRow : OpenClaim := { program := "ytbpndigccieaiah", sum := "75394d50d03d772c78b21f4303b4dd399a851ffe720c2137e3da2fb80025e8b4", func := "loop.example/g00096/laws.FnExactSyntaxRead", spec := "fnExactSyntaxRead", apart := false, narrowed := true }
def FnExactSyntaxReadUptoSaid : Prop := fnExactSyntaxReadUptoRow.holds Try.pinned (OpenSpec.upto fnExactSyntaxReadSpec)

end Rows
end Go.Proofs.Ytbpndigccieaiah
