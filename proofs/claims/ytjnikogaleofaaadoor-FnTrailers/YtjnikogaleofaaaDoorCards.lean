/-
  DERIVED. GIVEN WITH THE SEED: THE CARDS: each row of YtjnikogaleofaaaDoorRows.lean that lists a variable, with what it lists TIED to the program's text (the seventh form; the later family's looks); each row that meets fmt, with fmt's text TOLD by the authors' own Lean function (tested against real Go, not proved from fmt's source: count such statements apart). THE CARD IS WHAT COUNTS. Prove the row's statement (the work); the ties are given (YtjnikogaleofaaaDoorTie.lean); close each card by the builder's one call (the guide's Derived/Test/ToyasCard.lean, 'card_holds'). Laid BY PROGRAM, IN A SANDBOX (cutbox-door.mjs). By AI agents, Wed Nov 11 2026. No macro, syntax, notation, axiom, sorry.
-/
import Derived.Test.YtjnikogaleofaaaDoorRows
import GoSem.ClaimSeven
namespace Go.Proofs.YtjnikogaleofaaaDoor
namespace Rows

/-- THE TIED CARD OF 'laws.FnTrailers'. -/
def fnTrailersCard : Claim7 := { stood := { row := fnTrailersRow, standIns := [], harness := (true, "b5a2e71e0d3b24d9695ee8c2c5c83ed5fc25050e8c762510c562f91903fc224f"), looks := true }, kinds := [], alts := [], laidByText := true, laidKinds := [.data, .data, .data, .sentinel, .sentinel], laidTests := true, laidLooks := .later }
def FnTrailersCardSaid : Prop := Claim7.holds Tryd.pinned (.plain (OpenSpec.ofChange fnTrailersSpec)) fnTrailersCard

/-- THE SECOND FORM's CARD OF 'laws.FnTrailers'. -/
def fnTrailersUptoCard : Claim7 := { stood := { row := fnTrailersUptoRow, standIns := [], harness := (true, "b5a2e71e0d3b24d9695ee8c2c5c83ed5fc25050e8c762510c562f91903fc224f"), looks := true }, kinds := [], alts := [], laidByText := true, laidKinds := [.data, .data, .data, .sentinel, .sentinel], laidTests := true, laidLooks := .later }
def FnTrailersUptoCardSaid : Prop := Claim7.holds Tryd.pinned (.plain (OpenSpec.upto fnTrailersSpec)) fnTrailersUptoCard
end Rows
end Go.Proofs.YtjnikogaleofaaaDoor
