/-
  No cell of these rows narrows 'for every input' (looked for: loops, veiled, ifaces, maps, wideKeys, modest, calm, conditions, laid).
  DERIVED. THE GIVEN ROWS OF THIS SEAT. 5 by the template 'for every input the law returns true; each argument reads behind the call as it read before'; 0 by the template 'total and deterministic' (their statements: YtfjeaknlooomjaaTotals.lean).
  GIVEN WITH THE SEED: the statements are not yours to turn. If you find one false, say at which input.
  Laid BY PROGRAM, IN A SANDBOX (cutbox-rows.mjs): the forced cells as the released guide's own fill.sh prints them over the translation e8fe7c3460f560f3… (all of the seat's roots in one cut). By AI agents, Wed Nov 11 2026. No macro, syntax, notation, axiom, sorry.
-/
import Derived.Test.YtfjeaknlooomjaaChecked
import GoSem.Claim
import GoSem.ClaimJoined
import GoSem.ClaimMapViews
import Derived.JoinedTies
import Derived.KernelRfl
namespace Go.Proofs.Ytfjeaknlooomjaa
/- THE CELL 'sum', in the pinned program and in every row, IS THE sha256 OF THE DUMP (.gsa) THAT YtfjeaknlooomjaaProg.lean LOADS. Nothing in Lean hashes anything: it is a label: what it is worth is what the hold of that sum in a sandbox is worth. -/
noncomputable def Try.pinned : Pinned := { name := "ytfjeaknlooomjaa", sum := "e8fe7c3460f560f3036640800664da3821f779527072fbebbe8e06715a74d438", checked := Try.checked }
namespace Rows
def none {H : Type} : Left H := { results := [], args := [] }

/-- 'laws.FnExactOutboxRight': WHATEVER THE INPUT: true; the input reads as it did. -/
def fnExactOutboxRightSpec : ChangeSpec := { name := "fnExactOutboxRight", fn := fun _ => fun
  | [d] => { results := [.lit (.bool true)], args := [d] }
  | _ => none }
def fnExactOutboxRightRow : OpenClaim := { program := "ytfjeaknlooomjaa", sum := "e8fe7c3460f560f3036640800664da3821f779527072fbebbe8e06715a74d438", func := "loop.example/g00096/laws.FnExactOutboxRight", spec := "fnExactOutboxRight", inPlace := ["internal/bytealg.abigen_runtime_cmpstring"], apart := false }
def FnExactOutboxRightSaid : Prop := fnExactOutboxRightRow.holds Try.pinned (OpenSpec.ofChange fnExactOutboxRightSpec)

/-- ITS FALSE NEIGHBOUR: 'it returns false'. Refute it at one input. -/
def fnExactOutboxRightWrong : ChangeSpec := { name := "fnExactOutboxRight", fn := fun _ => fun
  | [d] => { results := [.lit (.bool false)], args := [d] }
  | _ => none }
def FnExactOutboxRightWrongFalsely : Prop := fnExactOutboxRightRow.holds Try.pinned (OpenSpec.ofChange fnExactOutboxRightWrong)

/-- 'laws.FnExactOutboxPut': WHATEVER THE INPUT: true; the input reads as it did. -/
def fnExactOutboxPutSpec : ChangeSpec := { name := "fnExactOutboxPut", fn := fun _ => fun
  | [d1, d2] => { results := [.lit (.bool true)], args := [d1, d2] }
  | _ => none }
def fnExactOutboxPutRow : OpenClaim := { program := "ytfjeaknlooomjaa", sum := "e8fe7c3460f560f3036640800664da3821f779527072fbebbe8e06715a74d438", func := "loop.example/g00096/laws.FnExactOutboxPut", spec := "fnExactOutboxPut", inPlace := ["internal/bytealg.abigen_runtime_cmpstring", "slices.overlaps[loop.example/g00096/impl.Out]"], unfollowed := true, recurses := true, apart := false }
def FnExactOutboxPutSaid : Prop := fnExactOutboxPutRow.holds Try.pinned (OpenSpec.ofChange fnExactOutboxPutSpec)

/-- ITS FALSE NEIGHBOUR: 'it returns false'. Refute it at one input. -/
def fnExactOutboxPutWrong : ChangeSpec := { name := "fnExactOutboxPut", fn := fun _ => fun
  | [d1, d2] => { results := [.lit (.bool false)], args := [d1, d2] }
  | _ => none }
def FnExactOutboxPutWrongFalsely : Prop := fnExactOutboxPutRow.holds Try.pinned (OpenSpec.ofChange fnExactOutboxPutWrong)

/-- 'laws.FnExactOutboxTick': WHATEVER THE INPUT: true; the input reads as it did. -/
def fnExactOutboxTickSpec : ChangeSpec := { name := "fnExactOutboxTick", fn := fun _ => fun
  | [d1, d2] => { results := [.lit (.bool true)], args := [d1, d2] }
  | _ => none }
def fnExactOutboxTickRow : OpenClaim := { program := "ytfjeaknlooomjaa", sum := "e8fe7c3460f560f3036640800664da3821f779527072fbebbe8e06715a74d438", func := "loop.example/g00096/laws.FnExactOutboxTick", spec := "fnExactOutboxTick", inPlace := ["internal/bytealg.abigen_runtime_cmpstring", "sync/atomic.StoreInt64", "sync/atomic.AddInt64"], apart := false }
def FnExactOutboxTickSaid : Prop := fnExactOutboxTickRow.holds Try.pinned (OpenSpec.ofChange fnExactOutboxTickSpec)

/-- ITS FALSE NEIGHBOUR: 'it returns false'. Refute it at one input. -/
def fnExactOutboxTickWrong : ChangeSpec := { name := "fnExactOutboxTick", fn := fun _ => fun
  | [d1, d2] => { results := [.lit (.bool false)], args := [d1, d2] }
  | _ => none }
def FnExactOutboxTickWrongFalsely : Prop := fnExactOutboxTickRow.holds Try.pinned (OpenSpec.ofChange fnExactOutboxTickWrong)

/-- 'laws.FnExactOutboxHeard': WHATEVER THE INPUT: true; the input reads as it did. -/
def fnExactOutboxHeardSpec : ChangeSpec := { name := "fnExactOutboxHeard", fn := fun _ => fun
  | [d1, d2, d3] => { results := [.lit (.bool true)], args := [d1, d2, d3] }
  | _ => none }
def fnExactOutboxHeardRow : OpenClaim := { program := "ytfjeaknlooomjaa", sum := "e8fe7c3460f560f3036640800664da3821f779527072fbebbe8e06715a74d438", func := "loop.example/g00096/laws.FnExactOutboxHeard", spec := "fnExactOutboxHeard", inPlace := ["internal/bytealg.abigen_runtime_cmpstring"], unfollowed := true, recurses := true, apart := false }
def FnExactOutboxHeardSaid : Prop := fnExactOutboxHeardRow.holds Try.pinned (OpenSpec.ofChange fnExactOutboxHeardSpec)

/-- ITS FALSE NEIGHBOUR: 'it returns false'. Refute it at one input. -/
def fnExactOutboxHeardWrong : ChangeSpec := { name := "fnExactOutboxHeard", fn := fun _ => fun
  | [d1, d2, d3] => { results := [.lit (.bool false)], args := [d1, d2, d3] }
  | _ => none }
def FnExactOutboxHeardWrongFalsely : Prop := fnExactOutboxHeardRow.holds Try.pinned (OpenSpec.ofChange fnExactOutboxHeardWrong)

/-- 'laws.FnExactOutboxRun': WHATEVER THE INPUT: true; the input reads as it did. -/
def fnExactOutboxRunSpec : ChangeSpec := { name := "fnExactOutboxRun", fn := fun _ => fun
  | [d1, d2] => { results := [.lit (.bool true)], args := [d1, d2] }
  | _ => none }
def fnExactOutboxRunRow : OpenClaim := { program := "ytfjeaknlooomjaa", sum := "e8fe7c3460f560f3036640800664da3821f779527072fbebbe8e06715a74d438", func := "loop.example/g00096/laws.FnExactOutboxRun", spec := "fnExactOutboxRun", inPlace := ["sync/atomic.StoreInt64", "sync/atomic.AddInt64"], apart := false }
def FnExactOutboxRunSaid : Prop := fnExactOutboxRunRow.holds Try.pinned (OpenSpec.ofChange fnExactOutboxRunSpec)

/-- ITS FALSE NEIGHBOUR: 'it returns false'. Refute it at one input. -/
def fnExactOutboxRunWrong : ChangeSpec := { name := "fnExactOutboxRun", fn := fun _ => fun
  | [d1, d2] => { results := [.lit (.bool false)], args := [d1, d2] }
  | _ => none }
def FnExactOutboxRunWrongFalsely : Prop := fnExactOutboxRunRow.holds Try.pinned (OpenSpec.ofChange fnExactOutboxRunWrong)

/- THE SECOND FORM. 'bulk': how many values and letters a reading holds, each counted each time it is reached (what is shared counts as often as it is met; a slice's spare places count too). A statement '..UptoSaid' is the law's where the arguments, and the package variables that the reading takes, are together of bulk at most 1048576: NARROWER than '..Said'. Prove '..Said' where nothing that the law and all that it calls make is longer than what came in: it says more and counts as full. Else prove '..UptoSaid'. A law counts once. -/
mutual
def uptoBulk {H : Type} : DataW H → Nat
  | .lit (.string bytes) => bytes.length + 1
  | .lit _ => 1
  | .nil => 1
  | .ptr d => uptoBulk d + 1
  | .slice elems spare => uptoBulkAll elems + uptoBulkAll spare + 1
  | .agg parts => uptoBulkAll parts + 1
  | .iface _ d => uptoBulk d + 1
  | .map entries => uptoBulkEntries entries + 1
  | .held _ => 1
def uptoBulkAll {H : Type} : List (DataW H) → Nat
  | [] => 0
  | d :: r => uptoBulk d + uptoBulkAll r
def uptoBulkEntries {H : Type} : List (Lit × DataW H) → Nat
  | [] => 0
  | x :: r => uptoBulkEntry x + uptoBulkEntries r
def uptoBulkEntry {H : Type} : Lit × DataW H → Nat
  | (.string bytes, d) => bytes.length + uptoBulk d + 1
  | (_, d) => uptoBulk d + 1
 end
def uptoSmall : (H : Type) → List (DataW H) → Bool := fun _ ds => decide (uptoBulkAll ds ≤ 1048576)
def OpenSpec.upto (s : _root_.Go.ChangeSpec) : _root_.Go.OpenSpec := { _root_.Go.OpenSpec.ofChange s with cond := some uptoSmall }

/-- 'laws.FnExactOutboxRight', WHERE WHAT IT READS IS OF BULK AT MOST 1048576: true; the input reads as it did. -/
def fnExactOutboxRightUptoRow : OpenClaim := { program := "ytfjeaknlooomjaa", sum := "e8fe7c3460f560f3036640800664da3821f779527072fbebbe8e06715a74d438", func := "loop.example/g00096/laws.FnExactOutboxRight", spec := "fnExactOutboxRight", inPlace := ["internal/bytealg.abigen_runtime_cmpstring"], apart := false, narrowed := true }
def FnExactOutboxRightUptoSaid : Prop := fnExactOutboxRightUptoRow.holds Try.pinned (OpenSpec.upto fnExactOutboxRightSpec)

/-- 'laws.FnExactOutboxPut', WHERE WHAT IT READS IS OF BULK AT MOST 1048576: true; the input reads as it did. -/
def fnExactOutboxPutUptoRow : OpenClaim := { program := "ytfjeaknlooomjaa", sum := "e8fe7c3460f560f3036640800664da3821f779527072fbebbe8e06715a74d438", func := "loop.example/g00096/laws.FnExactOutboxPut", spec := "fnExactOutboxPut", inPlace := ["internal/bytealg.abigen_runtime_cmpstring", "slices.overlaps[loop.example/g00096/impl.Out]"], unfollowed := true, recurses := true, apart := false, narrowed := true }
def FnExactOutboxPutUptoSaid : Prop := fnExactOutboxPutUptoRow.holds Try.pinned (OpenSpec.upto fnExactOutboxPutSpec)

/-- 'laws.FnExactOutboxTick', WHERE WHAT IT READS IS OF BULK AT MOST 1048576: true; the input reads as it did. -/
def fnExactOutboxTickUptoRow : OpenClaim := { program := "ytfjeaknlooomjaa", sum := "e8fe7c3460f560f3036640800664da3821f779527072fbebbe8e06715a74d438", func := "loop.example/g00096/laws.FnExactOutboxTick", spec := "fnExactOutboxTick", inPlace := ["internal/bytealg.abigen_runtime_cmpstring", "sync/atomic.StoreInt64", "sync/atomic.AddInt64"], apart := false, narrowed := true }
def FnExactOutboxTickUptoSaid : Prop := fnExactOutboxTickUptoRow.holds Try.pinned (OpenSpec.upto fnExactOutboxTickSpec)

/-- 'laws.FnExactOutboxHeard', WHERE WHAT IT READS IS OF BULK AT MOST 1048576: true; the input reads as it did. -/
def fnExactOutboxHeardUptoRow : OpenClaim := { program := "ytfjeaknlooomjaa", sum := "e8fe7c3460f560f3036640800664da3821f779527072fbebbe8e06715a74d438", func := "loop.example/g00096/laws.FnExactOutboxHeard", spec := "fnExactOutboxHeard", inPlace := ["internal/bytealg.abigen_runtime_cmpstring"], unfollowed := true, recurses := true, apart := false, narrowed := true }
def FnExactOutboxHeardUptoSaid : Prop := fnExactOutboxHeardUptoRow.holds Try.pinned (OpenSpec.upto fnExactOutboxHeardSpec)

/-- 'laws.FnExactOutboxRun', WHERE WHAT IT READS IS OF BULK AT MOST 1048576: true; the input reads as it did. -/
def fnExactOutboxRunUptoRow : OpenClaim := { program := "ytfjeaknlooomjaa", sum := "e8fe7c3460f560f3036640800664da3821f779527072fbebbe8e06715a74d438", func := "loop.example/g00096/laws.FnExactOutboxRun", spec := "fnExactOutboxRun", inPlace := ["sync/atomic.StoreInt64", "sync/atomic.AddInt64"], apart := false, narrowed := true }
def FnExactOutboxRunUptoSaid : Prop := fnExactOutboxRunUptoRow.holds Try.pinned (OpenSpec.upto fnExactOutboxRunSpec)

end Rows
end Go.Proofs.Ytfjeaknlooomjaa
