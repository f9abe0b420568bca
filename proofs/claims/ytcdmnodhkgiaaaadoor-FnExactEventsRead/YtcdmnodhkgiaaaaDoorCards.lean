/-
  DERIVED. GIVEN WITH THE SEED: THE CARDS: each row of YtcdmnodhkgiaaaaDoorRows.lean that lists a variable, with what it lists TIED to the program's text (the seventh form; the later family's looks); each row that meets fmt, with fmt's text TOLD by the authors' own Lean function (tested against real Go, not proved from fmt's source: count such statements apart). THE CARD IS WHAT COUNTS. Prove the row's statement (the work); the ties are given (YtcdmnodhkgiaaaaDoorTie.lean); close each card by the builder's one call (the guide's Derived/Test/ToyasCard.lean, 'card_holds'). Laid BY PROGRAM, IN A SANDBOX (cutbox-door.mjs). By AI agents, Wed Nov 11 2026. No macro, syntax, notation, axiom, sorry.
-/
import Derived.Test.YtcdmnodhkgiaaaaDoorRows
import GoSem.ClaimSeven
namespace Go.Proofs.YtcdmnodhkgiaaaaDoor
namespace Rows

/-- THE TIED CARD OF 'laws.FnExactEventsText'. -/
def fnExactEventsTextCard : Claim7 := { stood := { row := fnExactEventsTextRow, standIns := [], harness := (true, "ed963f01cbe095f08cd8eca2db4c333bce875e1f62df3b52bb07c0c21514b5a5"), looks := false }, kinds := [], alts := [], laidByText := true, laidKinds := [.data], laidTests := true, laidLooks := .later }
def FnExactEventsTextCardSaid : Prop := Claim7.holds Tryd.pinned (.plain (OpenSpec.ofChange fnExactEventsTextSpec)) fnExactEventsTextCard

/-- THE TIED CARD OF 'laws.FnExactEventsRead'. -/
def fnExactEventsReadCard : Claim7 := { stood := { row := fnExactEventsReadRow, standIns := [], harness := (true, "ed963f01cbe095f08cd8eca2db4c333bce875e1f62df3b52bb07c0c21514b5a5"), looks := false }, kinds := [], alts := [], laidByText := true, laidKinds := [.data, .pinned], laidTests := true, laidLooks := .later }
def FnExactEventsReadCardSaid : Prop := Claim7.holds Tryd.pinned (.plain (OpenSpec.ofChange fnExactEventsReadSpec)) fnExactEventsReadCard

/-- THE SECOND FORM's CARD OF 'laws.FnExactEventsText'. -/
def fnExactEventsTextUptoCard : Claim7 := { stood := { row := fnExactEventsTextUptoRow, standIns := [], harness := (true, "ed963f01cbe095f08cd8eca2db4c333bce875e1f62df3b52bb07c0c21514b5a5"), looks := false }, kinds := [], alts := [], laidByText := true, laidKinds := [.data], laidTests := true, laidLooks := .later }
def FnExactEventsTextUptoCardSaid : Prop := Claim7.holds Tryd.pinned (.plain (OpenSpec.upto fnExactEventsTextSpec)) fnExactEventsTextUptoCard

/-- THE SECOND FORM's CARD OF 'laws.FnExactEventsRead'. -/
def fnExactEventsReadUptoCard : Claim7 := { stood := { row := fnExactEventsReadUptoRow, standIns := [], harness := (true, "ed963f01cbe095f08cd8eca2db4c333bce875e1f62df3b52bb07c0c21514b5a5"), looks := false }, kinds := [], alts := [], laidByText := true, laidKinds := [.data, .pinned], laidTests := true, laidLooks := .later }
def FnExactEventsReadUptoCardSaid : Prop := Claim7.holds Tryd.pinned (.plain (OpenSpec.upto fnExactEventsReadSpec)) fnExactEventsReadUptoCard
end Rows
end Go.Proofs.YtcdmnodhkgiaaaaDoor
