/-
  DERIVED. GIVEN WITH THE SEED: THE CARDS: each row of YtgecdmpokahahaaGreatDoorRows.lean that lists a variable, with what it lists TIED to the program's text (the seventh form; the later family's looks); each row that meets fmt, with fmt's text TOLD by the authors' own Lean function (tested against real Go, not proved from fmt's source: count such statements apart). THE CARD IS WHAT COUNTS. Prove the row's statement (the work); the ties are given (YtgecdmpokahahaaGreatDoorTie.lean); close each card by the builder's one call (the guide's Derived/Test/ToyasCard.lean, 'card_holds'). Laid BY PROGRAM, IN A SANDBOX (cutbox-door.mjs). By AI agents, Wed Nov 11 2026. No macro, syntax, notation, axiom, sorry.
-/
import Derived.Test.YtgecdmpokahahaaGreatDoorRows
import GoSem.ClaimSeven
namespace Go.Proofs.YtgecdmpokahahaaGreatDoor
namespace Rows

/-- THE TIED CARD OF 'laws.FnExactPaperRight'. -/
def fnExactPaperRightCard : Claim7 := { stood := { row := fnExactPaperRightRow, standIns := [], harness := (true, "4b9264b5dbcf628870c5b4f4bc1667241c2d34f5a883521aeea4ee3af3056729"), looks := true }, kinds := [], alts := [], laidByText := true, laidKinds := [.data, .data, .data, .data, .sentinel, .sentinel, .widerDeep, .pinned], laidTests := true, laidLooks := .later }
def FnExactPaperRightCardSaid : Prop := Claim7.holds Tryz.pinned (.plain (OpenSpec.ofChange fnExactPaperRightSpec)) fnExactPaperRightCard

/-- THE TIED CARD OF 'laws.FnExactPaperBody'. -/
def fnExactPaperBodyCard : Claim7 := { stood := { row := fnExactPaperBodyRow, standIns := [], harness := (true, "4b9264b5dbcf628870c5b4f4bc1667241c2d34f5a883521aeea4ee3af3056729"), looks := true }, kinds := [], alts := [], laidByText := true, laidKinds := [.data, .data, .data, .data, .sentinel, .sentinel, .widerDeep, .pinned], laidTests := true, laidLooks := .later }
def FnExactPaperBodyCardSaid : Prop := Claim7.holds Tryz.pinned (.plain (OpenSpec.ofChange fnExactPaperBodySpec)) fnExactPaperBodyCard

/-- THE TIED CARD OF 'laws.FnExactPaperSum'. -/
def fnExactPaperSumCard : Claim7 := { stood := { row := fnExactPaperSumRow, standIns := [], harness := (true, "4b9264b5dbcf628870c5b4f4bc1667241c2d34f5a883521aeea4ee3af3056729"), looks := true }, kinds := [], alts := [], laidByText := true, laidKinds := [.data, .data, .data, .data, .sentinel, .sentinel, .widerDeep, .pinned], laidTests := true, laidLooks := .later }
def FnExactPaperSumCardSaid : Prop := Claim7.holds Tryz.pinned (.plain (OpenSpec.ofChange fnExactPaperSumSpec)) fnExactPaperSumCard

/-- THE SECOND FORM's CARD OF 'laws.FnExactPaperRight'. -/
def fnExactPaperRightUptoCard : Claim7 := { stood := { row := fnExactPaperRightUptoRow, standIns := [], harness := (true, "4b9264b5dbcf628870c5b4f4bc1667241c2d34f5a883521aeea4ee3af3056729"), looks := true }, kinds := [], alts := [], laidByText := true, laidKinds := [.data, .data, .data, .data, .sentinel, .sentinel, .widerDeep, .pinned], laidTests := true, laidLooks := .later }
def FnExactPaperRightUptoCardSaid : Prop := Claim7.holds Tryz.pinned (.plain (OpenSpec.upto fnExactPaperRightSpec)) fnExactPaperRightUptoCard

/-- THE SECOND FORM's CARD OF 'laws.FnExactPaperBody'. -/
def fnExactPaperBodyUptoCard : Claim7 := { stood := { row := fnExactPaperBodyUptoRow, standIns := [], harness := (true, "4b9264b5dbcf628870c5b4f4bc1667241c2d34f5a883521aeea4ee3af3056729"), looks := true }, kinds := [], alts := [], laidByText := true, laidKinds := [.data, .data, .data, .data, .sentinel, .sentinel, .widerDeep, .pinned], laidTests := true, laidLooks := .later }
def FnExactPaperBodyUptoCardSaid : Prop := Claim7.holds Tryz.pinned (.plain (OpenSpec.upto fnExactPaperBodySpec)) fnExactPaperBodyUptoCard

/-- THE SECOND FORM's CARD OF 'laws.FnExactPaperSum'. -/
def fnExactPaperSumUptoCard : Claim7 := { stood := { row := fnExactPaperSumUptoRow, standIns := [], harness := (true, "4b9264b5dbcf628870c5b4f4bc1667241c2d34f5a883521aeea4ee3af3056729"), looks := true }, kinds := [], alts := [], laidByText := true, laidKinds := [.data, .data, .data, .data, .sentinel, .sentinel, .widerDeep, .pinned], laidTests := true, laidLooks := .later }
def FnExactPaperSumUptoCardSaid : Prop := Claim7.holds Tryz.pinned (.plain (OpenSpec.upto fnExactPaperSumSpec)) fnExactPaperSumUptoCard
end Rows
end Go.Proofs.YtgecdmpokahahaaGreatDoor
