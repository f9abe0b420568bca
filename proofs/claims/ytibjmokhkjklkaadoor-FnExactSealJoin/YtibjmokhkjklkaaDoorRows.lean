/-
  NARROWER THAN 'FOR EVERY INPUT', by the rows' own cells (each row's printed sentence says how): FnExactSealChain: laid · FnExactSealFault: laid · FnExactSealJoin: laid.
  DERIVED. THE GIVEN ROWS OF THIS SEAT. 3 by the template 'for every input the law returns true; each argument reads behind the call as it read before'; 0 by the template 'total and deterministic' (their statements: YtibjmokhkjklkaaDoorTotals.lean).
  GIVEN WITH THE SEED: the statements are not yours to turn. If you find one false, say at which input.
  Laid BY PROGRAM, IN A SANDBOX (cutbox-rows.mjs): the forced cells as the released guide's own fill.sh prints them over the translation 52a82bf9d6ede64e… (all of the seat's roots in one cut). By AI agents, Wed Nov 11 2026. No macro, syntax, notation, axiom, sorry.
-/
import Derived.Test.YtibjmokhkjklkaaDoorChecked
import GoSem.Claim
import GoSem.ClaimJoined
import GoSem.ClaimMapViews
import Derived.JoinedTies
import Derived.KernelRfl
namespace Go.Proofs.YtibjmokhkjklkaaDoor
/- THE CELL 'sum', in the pinned program and in every row, IS THE sha256 OF THE DUMP (.gsa) THAT YtibjmokhkjklkaaDoorProg.lean LOADS. Nothing in Lean hashes anything: it is a label: what it is worth is what the hold of that sum in a sandbox is worth. -/
noncomputable def Tryd.pinned : Pinned := { name := "ytibjmokhkjklkaadoor", sum := "52a82bf9d6ede64e3e54531a0ae972cf9bde32d6ff39bb0946bf5f7b2b79b389", checked := Tryd.checked }
namespace Rows
def none {H : Type} : Left H := { results := [], args := [] }

/- WHAT THE LISTED PACKAGE-LEVEL VARIABLES READ AS WHEN THE CALL BEGINS. Each datum BY PROGRAM (the guide's laid-datum.mjs) off the statement by which the dump's own 'gosem.cut.vars' lays the variable. In a bare row this is a premise. The card (YtibjmokhkjklkaaDoorCards.lean) ties it to the program's text. -/
def laid_loop_example_g00096_impl_eventWords {H : Type} : DataW H := .agg [.lit (.string []), .lit (.string [112, 97, 114, 116, 110, 101, 114]), .lit (.string [99, 114, 111, 115, 115]), .lit (.string [116, 97, 107, 101]), .lit (.string [110, 101, 120, 116])]

/-- 'laws.FnExactSealChain': WHATEVER THE INPUT: true; the input reads as it did. -/
def fnExactSealChainSpec : ChangeSpec := { name := "fnExactSealChain", vars := ["loop.example/g00096/impl.eventWords"], fn := fun _ => fun
  | [d, g1] => { results := [.lit (.bool true)], args := [d], vars := [g1] }
  | _ => none }
def fnExactSealChainRow : OpenClaim := { program := "ytibjmokhkjklkaadoor", sum := "52a82bf9d6ede64e3e54531a0ae972cf9bde32d6ff39bb0946bf5f7b2b79b389", func := "loop.example/g00096/laws.FnExactSealChain", spec := "fnExactSealChain", inPlace := ["sync/atomic.LoadUint32", "(*internal/sync.Mutex).Lock", "internal/race.Disable", "sync/atomic.CompareAndSwapInt32", "internal/race.Enable", "internal/race.Acquire", "(*internal/sync.Mutex).lockSlow", "internal/sync.runtime_canSpin", "internal/sync.runtime_doSpin", "internal/sync.throw", "internal/sync.runtime_nanotime", "internal/sync.runtime_SemacquireMutex", "sync/atomic.AddInt32", "(*internal/sync.Mutex).Unlock", "internal/race.ReleaseMerge", "(*internal/sync.Mutex).unlockSlow", "internal/sync.fatal", "internal/sync.runtime_Semrelease", "sync/atomic.StoreUint32", "internal/abi.NoEscape", "internal/bytealg.MakeNoZero"], unfollowed := true, recurses := true, named := ["loop.example/g00096/impl.eventWords"], apart := false, laid := [("loop.example/g00096/impl.eventWords", laid_loop_example_g00096_impl_eventWords)] }
def FnExactSealChainSaid : Prop := fnExactSealChainRow.holds Tryd.pinned (OpenSpec.ofChange fnExactSealChainSpec)

/-- ITS FALSE NEIGHBOUR: 'it returns false'. Refute it at one input. -/
def fnExactSealChainWrong : ChangeSpec := { name := "fnExactSealChain", vars := ["loop.example/g00096/impl.eventWords"], fn := fun _ => fun
  | [d, g1] => { results := [.lit (.bool false)], args := [d], vars := [g1] }
  | _ => none }
def FnExactSealChainWrongFalsely : Prop := fnExactSealChainRow.holds Tryd.pinned (OpenSpec.ofChange fnExactSealChainWrong)

/-- 'laws.FnExactSealFault': WHATEVER THE INPUT: true; the input reads as it did. -/
def fnExactSealFaultSpec : ChangeSpec := { name := "fnExactSealFault", vars := ["loop.example/g00096/impl.eventWords"], fn := fun _ => fun
  | [d1, d2, g1] => { results := [.lit (.bool true)], args := [d1, d2], vars := [g1] }
  | _ => none }
def fnExactSealFaultRow : OpenClaim := { program := "ytibjmokhkjklkaadoor", sum := "52a82bf9d6ede64e3e54531a0ae972cf9bde32d6ff39bb0946bf5f7b2b79b389", func := "loop.example/g00096/laws.FnExactSealFault", spec := "fnExactSealFault", inPlace := ["sync/atomic.LoadUint32", "(*internal/sync.Mutex).Lock", "internal/race.Disable", "sync/atomic.CompareAndSwapInt32", "internal/race.Enable", "internal/race.Acquire", "(*internal/sync.Mutex).lockSlow", "internal/sync.runtime_canSpin", "internal/sync.runtime_doSpin", "internal/sync.throw", "internal/sync.runtime_nanotime", "internal/sync.runtime_SemacquireMutex", "sync/atomic.AddInt32", "(*internal/sync.Mutex).Unlock", "internal/race.ReleaseMerge", "(*internal/sync.Mutex).unlockSlow", "internal/sync.fatal", "internal/sync.runtime_Semrelease", "sync/atomic.StoreUint32", "internal/abi.NoEscape", "internal/bytealg.MakeNoZero"], unfollowed := true, recurses := true, named := ["loop.example/g00096/impl.eventWords"], apart := false, laid := [("loop.example/g00096/impl.eventWords", laid_loop_example_g00096_impl_eventWords)] }
def FnExactSealFaultSaid : Prop := fnExactSealFaultRow.holds Tryd.pinned (OpenSpec.ofChange fnExactSealFaultSpec)

/-- ITS FALSE NEIGHBOUR: 'it returns false'. Refute it at one input. -/
def fnExactSealFaultWrong : ChangeSpec := { name := "fnExactSealFault", vars := ["loop.example/g00096/impl.eventWords"], fn := fun _ => fun
  | [d1, d2, g1] => { results := [.lit (.bool false)], args := [d1, d2], vars := [g1] }
  | _ => none }
def FnExactSealFaultWrongFalsely : Prop := fnExactSealFaultRow.holds Tryd.pinned (OpenSpec.ofChange fnExactSealFaultWrong)

/-- 'laws.FnExactSealJoin': WHATEVER THE INPUT: true; the input reads as it did. -/
def fnExactSealJoinSpec : ChangeSpec := { name := "fnExactSealJoin", vars := ["loop.example/g00096/impl.eventWords"], fn := fun _ => fun
  | [d1, d2, d3, g1] => { results := [.lit (.bool true)], args := [d1, d2, d3], vars := [g1] }
  | _ => none }
def fnExactSealJoinRow : OpenClaim := { program := "ytibjmokhkjklkaadoor", sum := "52a82bf9d6ede64e3e54531a0ae972cf9bde32d6ff39bb0946bf5f7b2b79b389", func := "loop.example/g00096/laws.FnExactSealJoin", spec := "fnExactSealJoin", inPlace := ["sync/atomic.LoadUint32", "(*internal/sync.Mutex).Lock", "internal/race.Disable", "sync/atomic.CompareAndSwapInt32", "internal/race.Enable", "internal/race.Acquire", "(*internal/sync.Mutex).lockSlow", "internal/sync.runtime_canSpin", "internal/sync.runtime_doSpin", "internal/sync.throw", "internal/sync.runtime_nanotime", "internal/sync.runtime_SemacquireMutex", "sync/atomic.AddInt32", "(*internal/sync.Mutex).Unlock", "internal/race.ReleaseMerge", "(*internal/sync.Mutex).unlockSlow", "internal/sync.fatal", "internal/sync.runtime_Semrelease", "sync/atomic.StoreUint32", "internal/abi.NoEscape", "internal/bytealg.MakeNoZero"], unfollowed := true, recurses := true, named := ["loop.example/g00096/impl.eventWords"], apart := false, laid := [("loop.example/g00096/impl.eventWords", laid_loop_example_g00096_impl_eventWords)] }
def FnExactSealJoinSaid : Prop := fnExactSealJoinRow.holds Tryd.pinned (OpenSpec.ofChange fnExactSealJoinSpec)

/-- ITS FALSE NEIGHBOUR: 'it returns false'. Refute it at one input. -/
def fnExactSealJoinWrong : ChangeSpec := { name := "fnExactSealJoin", vars := ["loop.example/g00096/impl.eventWords"], fn := fun _ => fun
  | [d1, d2, d3, g1] => { results := [.lit (.bool false)], args := [d1, d2, d3], vars := [g1] }
  | _ => none }
def FnExactSealJoinWrongFalsely : Prop := fnExactSealJoinRow.holds Tryd.pinned (OpenSpec.ofChange fnExactSealJoinWrong)

/- THE SECOND FORM. 'bulk': how many values and letters a reading holds, each counted each time it is reached (what is shared counts as often as it is met; a slice's spare places count too). A statement '..UptoSaid' is the law's where the arguments, and the package variables that the reading takes, are together of bulk at most 1048576: NARROWER than '..Said'. Prove '..Said' where nothing that the law and all that it calls make is longer than what came in: it says more and counts as full. Else prove '..UptoSaid'. A law counts once. -/
mutual
def uptoBulk {H : Type} : DataW H → Nat
  | .lit (.string bytes) => bytes.length + 1
  | .lit _ => 1
  | .nil => 1
  | .ptr d => uptoBulk d + 1
  | .slice elems spare => uptoBulkAll elems + uptoBulkAll spare + 1
  | .agg parts => uptoBulkAll parts + 1
  | .iface _ d => uptoBulk d + 1
  | .map entries => uptoBulkEntries entries + 1
  | .held _ => 1
def uptoBulkAll {H : Type} : List (DataW H) → Nat
  | [] => 0
  | d :: r => uptoBulk d + uptoBulkAll r
def uptoBulkEntries {H : Type} : List (Lit × DataW H) → Nat
  | [] => 0
  | x :: r => uptoBulkEntry x + uptoBulkEntries r
def uptoBulkEntry {H : Type} : Lit × DataW H → Nat
  | (.string bytes, d) => bytes.length + uptoBulk d + 1
  | (_, d) => uptoBulk d + 1
 end
def uptoSmall : (H : Type) → List (DataW H) → Bool := fun _ ds => decide (uptoBulkAll ds ≤ 1048576)
def OpenSpec.upto (s : _root_.Go.ChangeSpec) : _root_.Go.OpenSpec := { _root_.Go.OpenSpec.ofChange s with cond := some uptoSmall }

/-- 'laws.FnExactSealChain', WHERE WHAT IT READS IS OF BULK AT MOST 1048576: true; the input reads as it did. -/
def fnExactSealChainUptoRow : OpenClaim := { program := "ytibjmokhkjklkaadoor", sum := "52a82bf9d6ede64e3e54531a0ae972cf9bde32d6ff39bb0946bf5f7b2b79b389", func := "loop.example/g00096/laws.FnExactSealChain", spec := "fnExactSealChain", inPlace := ["sync/atomic.LoadUint32", "(*internal/sync.Mutex).Lock", "internal/race.Disable", "sync/atomic.CompareAndSwapInt32", "internal/race.Enable", "internal/race.Acquire", "(*internal/sync.Mutex).lockSlow", "internal/sync.runtime_canSpin", "internal/sync.runtime_doSpin", "internal/sync.throw", "internal/sync.runtime_nanotime", "internal/sync.runtime_SemacquireMutex", "sync/atomic.AddInt32", "(*internal/sync.Mutex).Unlock", "internal/race.ReleaseMerge", "(*internal/sync.Mutex).unlockSlow", "internal/sync.fatal", "internal/sync.runtime_Semrelease", "sync/atomic.StoreUint32", "internal/abi.NoEscape", "internal/bytealg.MakeNoZero"], unfollowed := true, recurses := true, named := ["loop.example/g00096/impl.eventWords"], apart := false, laid := [("loop.example/g00096/impl.eventWords", laid_loop_example_g00096_impl_eventWords)], narrowed := true }
def FnExactSealChainUptoSaid : Prop := fnExactSealChainUptoRow.holds Tryd.pinned (OpenSpec.upto fnExactSealChainSpec)

/-- 'laws.FnExactSealFault', WHERE WHAT IT READS IS OF BULK AT MOST 1048576: true; the input reads as it did. -/
def fnExactSealFaultUptoRow : OpenClaim := { program := "ytibjmokhkjklkaadoor", sum := "52a82bf9d6ede64e3e54531a0ae972cf9bde32d6ff39bb0946bf5f7b2b79b389", func := "loop.example/g00096/laws.FnExactSealFault", spec := "fnExactSealFault", inPlace := ["sync/atomic.LoadUint32", "(*internal/sync.Mutex).Lock", "internal/race.Disable", "sync/atomic.CompareAndSwapInt32", "internal/race.Enable", "internal/race.Acquire", "(*internal/sync.Mutex).lockSlow", "internal/sync.runtime_canSpin", "internal/sync.runtime_doSpin", "internal/sync.throw", "internal/sync.runtime_nanotime", "internal/sync.runtime_SemacquireMutex", "sync/atomic.AddInt32", "(*internal/sync.Mutex).Unlock", "internal/race.ReleaseMerge", "(*internal/sync.Mutex).unlockSlow", "internal/sync.fatal", "internal/sync.runtime_Semrelease", "sync/atomic.StoreUint32", "internal/abi.NoEscape", "internal/bytealg.MakeNoZero"], unfollowed := true, recurses := true, named := ["loop.example/g00096/impl.eventWords"], apart := false, laid := [("loop.example/g00096/impl.eventWords", laid_loop_example_g00096_impl_eventWords)], narrowed := true }
def FnExactSealFaultUptoSaid : Prop := fnExactSealFaultUptoRow.holds Tryd.pinned (OpenSpec.upto fnExactSealFaultSpec)

/-- 'laws.FnExactSealJoin', WHERE WHAT IT READS IS OF BULK AT MOST 1048576: true; the input reads as it did. -/
def fnExactSealJoinUptoRow : OpenClaim := { program := "ytibjmokhkjklkaadoor", sum := "52a82bf9d6ede64e3e54531a0ae972cf9bde32d6ff39bb0946bf5f7b2b79b389", func := "loop.example/g00096/laws.FnExactSealJoin", spec := "fnExactSealJoin", inPlace := ["sync/atomic.LoadUint32", "(*internal/sync.Mutex).Lock", "internal/race.Disable", "sync/atomic.CompareAndSwapInt32", "internal/race.Enable", "internal/race.Acquire", "(*internal/sync.Mutex).lockSlow", "internal/sync.runtime_canSpin", "internal/sync.runtime_doSpin", "internal/sync.throw", "internal/sync.runtime_nanotime", "internal/sync.runtime_SemacquireMutex", "sync/atomic.AddInt32", "(*internal/sync.Mutex).Unlock", "internal/race.ReleaseMerge", "(*internal/sync.Mutex).unlockSlow", "internal/sync.fatal", "internal/sync.runtime_Semrelease", "sync/atomic.StoreUint32", "internal/abi.NoEscape", "internal/bytealg.MakeNoZero"], unfollowed := true, recurses := true, named := ["loop.example/g00096/impl.eventWords"], apart := false, laid := [("loop.example/g00096/impl.eventWords", laid_loop_example_g00096_impl_eventWords)], narrowed := true }
def FnExactSealJoinUptoSaid : Prop := fnExactSealJoinUptoRow.holds Tryd.pinned (OpenSpec.upto fnExactSealJoinSpec)

end Rows
end Go.Proofs.YtibjmokhkjklkaaDoor
