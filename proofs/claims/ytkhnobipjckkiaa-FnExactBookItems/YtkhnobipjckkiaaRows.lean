/-
  No cell of these rows narrows 'for every input' (looked for: loops, veiled, ifaces, maps, wideKeys, modest, calm, conditions, laid).
  DERIVED. THE GIVEN ROWS OF THIS SEAT. 6 by the template 'for every input the law returns true; each argument reads behind the call as it read before'; 0 by the template 'total and deterministic' (their statements: YtkhnobipjckkiaaTotals.lean).
  GIVEN WITH THE SEED: the statements are not yours to turn. If you find one false, say at which input.
  Laid BY PROGRAM, IN A SANDBOX (cutbox-rows.mjs): the forced cells as the released guide's own fill.sh prints them over the translation 34446faaf9bf80f7… (all of the seat's roots in one cut). By AI agents, Wed Nov 11 2026. No macro, syntax, notation, axiom, sorry.
-/
import Derived.Test.YtkhnobipjckkiaaChecked
import GoSem.Claim
import GoSem.ClaimJoined
import GoSem.ClaimMapViews
import Derived.JoinedTies
import Derived.KernelRfl
namespace Go.Proofs.Ytkhnobipjckkiaa
/- THE CELL 'sum', in the pinned program and in every row, IS THE sha256 OF THE DUMP (.gsa) THAT YtkhnobipjckkiaaProg.lean LOADS. Nothing in Lean hashes anything: it is a label: what it is worth is what the hold of that sum in a sandbox is worth. -/
noncomputable def Try.pinned : Pinned := { name := "ytkhnobipjckkiaa", sum := "34446faaf9bf80f79f10b3d4fef6fddaaba148c45561892437b81f80221dc332", checked := Try.checked }
namespace Rows
def none {H : Type} : Left H := { results := [], args := [] }

/-- 'laws.FnExactBookRight': WHATEVER THE INPUT: true; the input reads as it did. -/
def fnExactBookRightSpec : ChangeSpec := { name := "fnExactBookRight", fn := fun _ => fun
  | [d] => { results := [.lit (.bool true)], args := [d] }
  | _ => none }
def fnExactBookRightRow : OpenClaim := { program := "ytkhnobipjckkiaa", sum := "34446faaf9bf80f79f10b3d4fef6fddaaba148c45561892437b81f80221dc332", func := "loop.example/g00096/laws.FnExactBookRight", spec := "fnExactBookRight", inPlace := ["internal/bytealg.abigen_runtime_cmpstring"], apart := false }
def FnExactBookRightSaid : Prop := fnExactBookRightRow.holds Try.pinned (OpenSpec.ofChange fnExactBookRightSpec)

/-- ITS FALSE NEIGHBOUR: 'it returns false'. Refute it at one input. -/
def fnExactBookRightWrong : ChangeSpec := { name := "fnExactBookRight", fn := fun _ => fun
  | [d] => { results := [.lit (.bool false)], args := [d] }
  | _ => none }
def FnExactBookRightWrongFalsely : Prop := fnExactBookRightRow.holds Try.pinned (OpenSpec.ofChange fnExactBookRightWrong)

/-- 'laws.FnExactBookHand': WHATEVER THE INPUT: true; the input reads as it did. -/
def fnExactBookHandSpec : ChangeSpec := { name := "fnExactBookHand", fn := fun _ => fun
  | [d1, d2] => { results := [.lit (.bool true)], args := [d1, d2] }
  | _ => none }
def fnExactBookHandRow : OpenClaim := { program := "ytkhnobipjckkiaa", sum := "34446faaf9bf80f79f10b3d4fef6fddaaba148c45561892437b81f80221dc332", func := "loop.example/g00096/laws.FnExactBookHand", spec := "fnExactBookHand", inPlace := ["internal/bytealg.abigen_runtime_cmpstring"], apart := false }
def FnExactBookHandSaid : Prop := fnExactBookHandRow.holds Try.pinned (OpenSpec.ofChange fnExactBookHandSpec)

/-- ITS FALSE NEIGHBOUR: 'it returns false'. Refute it at one input. -/
def fnExactBookHandWrong : ChangeSpec := { name := "fnExactBookHand", fn := fun _ => fun
  | [d1, d2] => { results := [.lit (.bool false)], args := [d1, d2] }
  | _ => none }
def FnExactBookHandWrongFalsely : Prop := fnExactBookHandRow.holds Try.pinned (OpenSpec.ofChange fnExactBookHandWrong)

/-- 'laws.FnExactBookOrdered': WHATEVER THE INPUT: true; the input reads as it did. -/
def fnExactBookOrderedSpec : ChangeSpec := { name := "fnExactBookOrdered", fn := fun _ => fun
  | [d1, d2, d3] => { results := [.lit (.bool true)], args := [d1, d2, d3] }
  | _ => none }
def fnExactBookOrderedRow : OpenClaim := { program := "ytkhnobipjckkiaa", sum := "34446faaf9bf80f79f10b3d4fef6fddaaba148c45561892437b81f80221dc332", func := "loop.example/g00096/laws.FnExactBookOrdered", spec := "fnExactBookOrdered", inPlace := ["internal/bytealg.abigen_runtime_cmpstring"], unfollowed := true, recurses := true, apart := false }
def FnExactBookOrderedSaid : Prop := fnExactBookOrderedRow.holds Try.pinned (OpenSpec.ofChange fnExactBookOrderedSpec)

/-- ITS FALSE NEIGHBOUR: 'it returns false'. Refute it at one input. -/
def fnExactBookOrderedWrong : ChangeSpec := { name := "fnExactBookOrdered", fn := fun _ => fun
  | [d1, d2, d3] => { results := [.lit (.bool false)], args := [d1, d2, d3] }
  | _ => none }
def FnExactBookOrderedWrongFalsely : Prop := fnExactBookOrderedRow.holds Try.pinned (OpenSpec.ofChange fnExactBookOrderedWrong)

/-- 'laws.FnExactBookTransit': WHATEVER THE INPUT: true; the input reads as it did. -/
def fnExactBookTransitSpec : ChangeSpec := { name := "fnExactBookTransit", fn := fun _ => fun
  | [d1, d2, d3] => { results := [.lit (.bool true)], args := [d1, d2, d3] }
  | _ => none }
def fnExactBookTransitRow : OpenClaim := { program := "ytkhnobipjckkiaa", sum := "34446faaf9bf80f79f10b3d4fef6fddaaba148c45561892437b81f80221dc332", func := "loop.example/g00096/laws.FnExactBookTransit", spec := "fnExactBookTransit", inPlace := ["internal/bytealg.abigen_runtime_cmpstring"], unfollowed := true, recurses := true, apart := false }
def FnExactBookTransitSaid : Prop := fnExactBookTransitRow.holds Try.pinned (OpenSpec.ofChange fnExactBookTransitSpec)

/-- ITS FALSE NEIGHBOUR: 'it returns false'. Refute it at one input. -/
def fnExactBookTransitWrong : ChangeSpec := { name := "fnExactBookTransit", fn := fun _ => fun
  | [d1, d2, d3] => { results := [.lit (.bool false)], args := [d1, d2, d3] }
  | _ => none }
def FnExactBookTransitWrongFalsely : Prop := fnExactBookTransitRow.holds Try.pinned (OpenSpec.ofChange fnExactBookTransitWrong)

/-- 'laws.FnExactBookMove': WHATEVER THE INPUT: true; the input reads as it did. -/
def fnExactBookMoveSpec : ChangeSpec := { name := "fnExactBookMove", fn := fun _ => fun
  | [d1, d2, d3] => { results := [.lit (.bool true)], args := [d1, d2, d3] }
  | _ => none }
def fnExactBookMoveRow : OpenClaim := { program := "ytkhnobipjckkiaa", sum := "34446faaf9bf80f79f10b3d4fef6fddaaba148c45561892437b81f80221dc332", func := "loop.example/g00096/laws.FnExactBookMove", spec := "fnExactBookMove", inPlace := ["internal/bytealg.abigen_runtime_cmpstring"], unfollowed := true, recurses := true, apart := false }
def FnExactBookMoveSaid : Prop := fnExactBookMoveRow.holds Try.pinned (OpenSpec.ofChange fnExactBookMoveSpec)

/-- ITS FALSE NEIGHBOUR: 'it returns false'. Refute it at one input. -/
def fnExactBookMoveWrong : ChangeSpec := { name := "fnExactBookMove", fn := fun _ => fun
  | [d1, d2, d3] => { results := [.lit (.bool false)], args := [d1, d2, d3] }
  | _ => none }
def FnExactBookMoveWrongFalsely : Prop := fnExactBookMoveRow.holds Try.pinned (OpenSpec.ofChange fnExactBookMoveWrong)

/-- 'laws.FnExactBookItems': WHATEVER THE INPUT: true; the input reads as it did. -/
def fnExactBookItemsSpec : ChangeSpec := { name := "fnExactBookItems", fn := fun _ => fun
  | [d] => { results := [.lit (.bool true)], args := [d] }
  | _ => none }
def fnExactBookItemsRow : OpenClaim := { program := "ytkhnobipjckkiaa", sum := "34446faaf9bf80f79f10b3d4fef6fddaaba148c45561892437b81f80221dc332", func := "loop.example/g00096/laws.FnExactBookItems", spec := "fnExactBookItems", inPlace := ["internal/bytealg.abigen_runtime_cmpstring"], recurses := true, apart := false }
def FnExactBookItemsSaid : Prop := fnExactBookItemsRow.holds Try.pinned (OpenSpec.ofChange fnExactBookItemsSpec)

/-- ITS FALSE NEIGHBOUR: 'it returns false'. Refute it at one input. -/
def fnExactBookItemsWrong : ChangeSpec := { name := "fnExactBookItems", fn := fun _ => fun
  | [d] => { results := [.lit (.bool false)], args := [d] }
  | _ => none }
def FnExactBookItemsWrongFalsely : Prop := fnExactBookItemsRow.holds Try.pinned (OpenSpec.ofChange fnExactBookItemsWrong)

/- THE SECOND FORM. 'bulk': how many values and letters a reading holds, each counted each time it is reached (what is shared counts as often as it is met; a slice's spare places count too). A statement '..UptoSaid' is the law's where the arguments, and the package variables that the reading takes, are together of bulk at most 1048576: NARROWER than '..Said'. Prove '..Said' where nothing that the law and all that it calls make is longer than what came in: it says more and counts as full. Else prove '..UptoSaid'. A law counts once. -/
mutual
def uptoBulk {H : Type} : DataW H → Nat
  | .lit (.string bytes) => bytes.length + 1
  | .lit _ => 1
  | .nil => 1
  | .ptr d => uptoBulk d + 1
  | .slice elems spare => uptoBulkAll elems + uptoBulkAll spare + 1
  | .agg parts => uptoBulkAll parts + 1
  | .iface _ d => uptoBulk d + 1
  | .map entries => uptoBulkEntries entries + 1
  | .held _ => 1
def uptoBulkAll {H : Type} : List (DataW H) → Nat
  | [] => 0
  | d :: r => uptoBulk d + uptoBulkAll r
def uptoBulkEntries {H : Type} : List (Lit × DataW H) → Nat
  | [] => 0
  | x :: r => uptoBulkEntry x + uptoBulkEntries r
def uptoBulkEntry {H : Type} : Lit × DataW H → Nat
  | (.string bytes, d) => bytes.length + uptoBulk d + 1
  | (_, d) => uptoBulk d + 1
 end
def uptoSmall : (H : Type) → List (DataW H) → Bool := fun _ ds => decide (uptoBulkAll ds ≤ 1048576)
def OpenSpec.upto (s : _root_.Go.ChangeSpec) : _root_.Go.OpenSpec := { _root_.Go.OpenSpec.ofChange s with cond := some uptoSmall }

/-- 'laws.FnExactBookRight', WHERE WHAT IT READS IS OF BULK AT MOST 1048576: true; the input reads as it did. -/
def fnExactBookRightUptoRow : OpenClaim := { program := "ytkhnobipjckkiaa", sum := "34446faaf9bf80f79f10b3d4fef6fddaaba148c45561892437b81f80221dc332", func := "loop.example/g00096/laws.FnExactBookRight", spec := "fnExactBookRight", inPlace := ["internal/bytealg.abigen_runtime_cmpstring"], apart := false, narrowed := true }
def FnExactBookRightUptoSaid : Prop := fnExactBookRightUptoRow.holds Try.pinned (OpenSpec.upto fnExactBookRightSpec)

/-- 'laws.FnExactBookHand', WHERE WHAT IT READS IS OF BULK AT MOST 1048576: true; the input reads as it did. -/
def fnExactBookHandUptoRow : OpenClaim := { program := "ytkhnobipjckkiaa", sum := "34446faaf9bf80f79f10b3d4fef6fddaaba148c45561892437b81f80221dc332", func := "loop.example/g00096/laws.FnExactBookHand", spec := "fnExactBookHand", inPlace := ["internal/bytealg.abigen_runtime_cmpstring"], apart := false, narrowed := true }
def FnExactBookHandUptoSaid : Prop := fnExactBookHandUptoRow.holds Try.pinned (OpenSpec.upto fnExactBookHandSpec)

/-- 'laws.FnExactBookOrdered', WHERE WHAT IT READS IS OF BULK AT MOST 1048576: true; the input reads as it did. -/
def fnExactBookOrderedUptoRow : OpenClaim := { program := "ytkhnobipjckkiaa", sum := "34446faaf9bf80f79f10b3d4fef6fddaaba148c45561892437b81f80221dc332", func := "loop.example/g00096/laws.FnExactBookOrdered", spec := "fnExactBookOrdered", inPlace := ["internal/bytealg.abigen_runtime_cmpstring"], unfollowed := true, recurses := true, apart := false, narrowed := true }
def FnExactBookOrderedUptoSaid : Prop := fnExactBookOrderedUptoRow.holds Try.pinned (OpenSpec.upto fnExactBookOrderedSpec)

/-- 'laws.FnExactBookTransit', WHERE WHAT IT READS IS OF BULK AT MOST 1048576: true; the input reads as it did. -/
def fnExactBookTransitUptoRow : OpenClaim := { program := "ytkhnobipjckkiaa", sum := "34446faaf9bf80f79f10b3d4fef6fddaaba148c45561892437b81f80221dc332", func := "loop.example/g00096/laws.FnExactBookTransit", spec := "fnExactBookTransit", inPlace := ["internal/bytealg.abigen_runtime_cmpstring"], unfollowed := true, recurses := true, apart := false, narrowed := true }
def FnExactBookTransitUptoSaid : Prop := fnExactBookTransitUptoRow.holds Try.pinned (OpenSpec.upto fnExactBookTransitSpec)

/-- 'laws.FnExactBookMove', WHERE WHAT IT READS IS OF BULK AT MOST 1048576: true; the input reads as it did. -/
def fnExactBookMoveUptoRow : OpenClaim := { program := "ytkhnobipjckkiaa", sum := "34446faaf9bf80f79f10b3d4fef6fddaaba148c45561892437b81f80221dc332", func := "loop.example/g00096/laws.FnExactBookMove", spec := "fnExactBookMove", inPlace := ["internal/bytealg.abigen_runtime_cmpstring"], unfollowed := true, recurses := true, apart := false, narrowed := true }
def FnExactBookMoveUptoSaid : Prop := fnExactBookMoveUptoRow.holds Try.pinned (OpenSpec.upto fnExactBookMoveSpec)

/-- 'laws.FnExactBookItems', WHERE WHAT IT READS IS OF BULK AT MOST 1048576: true; the input reads as it did. -/
def fnExactBookItemsUptoRow : OpenClaim := { program := "ytkhnobipjckkiaa", sum := "34446faaf9bf80f79f10b3d4fef6fddaaba148c45561892437b81f80221dc332", func := "loop.example/g00096/laws.FnExactBookItems", spec := "fnExactBookItems", inPlace := ["internal/bytealg.abigen_runtime_cmpstring"], recurses := true, apart := false, narrowed := true }
def FnExactBookItemsUptoSaid : Prop := fnExactBookItemsUptoRow.holds Try.pinned (OpenSpec.upto fnExactBookItemsSpec)

end Rows
end Go.Proofs.Ytkhnobipjckkiaa
