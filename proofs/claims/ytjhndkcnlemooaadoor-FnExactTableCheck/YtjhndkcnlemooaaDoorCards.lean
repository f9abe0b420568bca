/-
  DERIVED. GIVEN WITH THE SEED: THE CARDS: each row of YtjhndkcnlemooaaDoorRows.lean that lists a variable, with what it lists TIED to the program's text (the seventh form; the later family's looks); each row that meets fmt, with fmt's text TOLD by the authors' own Lean function (tested against real Go, not proved from fmt's source: count such statements apart). THE CARD IS WHAT COUNTS. Prove the row's statement (the work); the ties are given (YtjhndkcnlemooaaDoorTie.lean); close each card by the builder's one call (the guide's Derived/Test/ToyasCard.lean, 'card_holds'). Laid BY PROGRAM, IN A SANDBOX (cutbox-door.mjs). By AI agents, Wed Nov 11 2026. No macro, syntax, notation, axiom, sorry.
-/
import Derived.Test.YtjhndkcnlemooaaDoorRows
import GoSem.ClaimSeven
namespace Go.Proofs.YtjhndkcnlemooaaDoor
namespace Rows

/-- THE TIED CARD OF 'laws.FnTables'. -/
def fnTablesCard : Claim7 := { stood := { row := fnTablesRow, standIns := [], harness := (true, "fbdad5d868137b883fbdb5abb89a84fb22a9b50374cf0aed3aaf7e5d26605b3a"), looks := true }, kinds := [], alts := [], laidByText := true, laidKinds := [.data, .data, .data, .data, .sentinel, .sentinel, .widerDeep, .pinned], laidTests := true, laidLooks := .later }
def FnTablesCardSaid : Prop := Claim7.holds Tryd.pinned (.plain (OpenSpec.ofChange fnTablesSpec)) fnTablesCard

/-- THE TIED CARD OF 'laws.FnExactTableCheck'. -/
def fnExactTableCheckCard : Claim7 := { stood := { row := fnExactTableCheckRow, standIns := [], harness := (true, "fbdad5d868137b883fbdb5abb89a84fb22a9b50374cf0aed3aaf7e5d26605b3a"), looks := true }, kinds := [], alts := [], laidByText := true, laidKinds := [.data, .data, .data, .data, .sentinel, .sentinel, .widerDeep, .pinned], laidTests := true, laidLooks := .later }
def FnExactTableCheckCardSaid : Prop := Claim7.holds Tryd.pinned (.plain (OpenSpec.ofChange fnExactTableCheckSpec)) fnExactTableCheckCard

/-- THE SECOND FORM's CARD OF 'laws.FnTables'. -/
def fnTablesUptoCard : Claim7 := { stood := { row := fnTablesUptoRow, standIns := [], harness := (true, "fbdad5d868137b883fbdb5abb89a84fb22a9b50374cf0aed3aaf7e5d26605b3a"), looks := true }, kinds := [], alts := [], laidByText := true, laidKinds := [.data, .data, .data, .data, .sentinel, .sentinel, .widerDeep, .pinned], laidTests := true, laidLooks := .later }
def FnTablesUptoCardSaid : Prop := Claim7.holds Tryd.pinned (.plain (OpenSpec.upto fnTablesSpec)) fnTablesUptoCard

/-- THE SECOND FORM's CARD OF 'laws.FnExactTableCheck'. -/
def fnExactTableCheckUptoCard : Claim7 := { stood := { row := fnExactTableCheckUptoRow, standIns := [], harness := (true, "fbdad5d868137b883fbdb5abb89a84fb22a9b50374cf0aed3aaf7e5d26605b3a"), looks := true }, kinds := [], alts := [], laidByText := true, laidKinds := [.data, .data, .data, .data, .sentinel, .sentinel, .widerDeep, .pinned], laidTests := true, laidLooks := .later }
def FnExactTableCheckUptoCardSaid : Prop := Claim7.holds Tryd.pinned (.plain (OpenSpec.upto fnExactTableCheckSpec)) fnExactTableCheckUptoCard
end Rows
end Go.Proofs.YtjhndkcnlemooaaDoor
