/-
  DERIVED. GIVEN WITH THE SEED: THE CARDS: each row of YtkaolpnbddjdpaaGreatDoorRows.lean that lists a variable, with what it lists TIED to the program's text (the seventh form; the later family's looks); each row that meets fmt, with fmt's text TOLD by the authors' own Lean function (tested against real Go, not proved from fmt's source: count such statements apart). THE CARD IS WHAT COUNTS. Prove the row's statement (the work); the ties are given (YtkaolpnbddjdpaaGreatDoorTie.lean); close each card by the builder's one call (the guide's Derived/Test/ToyasCard.lean, 'card_holds'). Laid BY PROGRAM, IN A SANDBOX (cutbox-door.mjs). By AI agents, Wed Nov 11 2026. No macro, syntax, notation, axiom, sorry.
-/
import Derived.Test.YtkaolpnbddjdpaaGreatDoorRows
import GoSem.ClaimSeven
namespace Go.Proofs.YtkaolpnbddjdpaaGreatDoor
namespace Rows

/-- THE TIED CARD OF 'laws.FnParcelsApart'. -/
def fnParcelsApartCard : Claim7 := { stood := { row := fnParcelsApartRow, standIns := [], harness := (true, "75a818dcedb87f3b567250b7e6a3939ca15e222a5953dcefa2fa328d87bbd818"), looks := true }, kinds := [], alts := [], laidByText := true, laidKinds := [.data, .data, .data, .data, .sentinel, .sentinel, .widerDeep, .pinned], laidTests := true, laidLooks := .later }
def FnParcelsApartCardSaid : Prop := Claim7.holds Tryz.pinned (.plain (OpenSpec.ofChange fnParcelsApartSpec)) fnParcelsApartCard

/-- THE TIED CARD OF 'laws.FnExactParcelRight'. -/
def fnExactParcelRightCard : Claim7 := { stood := { row := fnExactParcelRightRow, standIns := [], harness := (true, "75a818dcedb87f3b567250b7e6a3939ca15e222a5953dcefa2fa328d87bbd818"), looks := true }, kinds := [], alts := [], laidByText := true, laidKinds := [.data, .data, .data, .data, .sentinel, .sentinel, .widerDeep, .pinned], laidTests := true, laidLooks := .later }
def FnExactParcelRightCardSaid : Prop := Claim7.holds Tryz.pinned (.plain (OpenSpec.ofChange fnExactParcelRightSpec)) fnExactParcelRightCard

/-- THE TIED CARD OF 'laws.FnExactParcelIx'. -/
def fnExactParcelIxCard : Claim7 := { stood := { row := fnExactParcelIxRow, standIns := [], harness := (true, "75a818dcedb87f3b567250b7e6a3939ca15e222a5953dcefa2fa328d87bbd818"), looks := true }, kinds := [], alts := [], laidByText := true, laidKinds := [.data, .data, .data, .data, .sentinel, .sentinel, .widerDeep, .pinned], laidTests := true, laidLooks := .later }
def FnExactParcelIxCardSaid : Prop := Claim7.holds Tryz.pinned (.plain (OpenSpec.ofChange fnExactParcelIxSpec)) fnExactParcelIxCard

/-- THE TIED CARD OF 'laws.FnExactParcelText'. -/
def fnExactParcelTextCard : Claim7 := { stood := { row := fnExactParcelTextRow, standIns := [], harness := (true, "75a818dcedb87f3b567250b7e6a3939ca15e222a5953dcefa2fa328d87bbd818"), looks := true }, kinds := [], alts := [], laidByText := true, laidKinds := [.data, .data, .data, .data, .sentinel, .sentinel, .widerDeep, .pinned], laidTests := true, laidLooks := .later }
def FnExactParcelTextCardSaid : Prop := Claim7.holds Tryz.pinned (.plain (OpenSpec.ofChange fnExactParcelTextSpec)) fnExactParcelTextCard

/-- THE SECOND FORM's CARD OF 'laws.FnParcelsApart'. -/
def fnParcelsApartUptoCard : Claim7 := { stood := { row := fnParcelsApartUptoRow, standIns := [], harness := (true, "75a818dcedb87f3b567250b7e6a3939ca15e222a5953dcefa2fa328d87bbd818"), looks := true }, kinds := [], alts := [], laidByText := true, laidKinds := [.data, .data, .data, .data, .sentinel, .sentinel, .widerDeep, .pinned], laidTests := true, laidLooks := .later }
def FnParcelsApartUptoCardSaid : Prop := Claim7.holds Tryz.pinned (.plain (OpenSpec.upto fnParcelsApartSpec)) fnParcelsApartUptoCard

/-- THE SECOND FORM's CARD OF 'laws.FnExactParcelRight'. -/
def fnExactParcelRightUptoCard : Claim7 := { stood := { row := fnExactParcelRightUptoRow, standIns := [], harness := (true, "75a818dcedb87f3b567250b7e6a3939ca15e222a5953dcefa2fa328d87bbd818"), looks := true }, kinds := [], alts := [], laidByText := true, laidKinds := [.data, .data, .data, .data, .sentinel, .sentinel, .widerDeep, .pinned], laidTests := true, laidLooks := .later }
def FnExactParcelRightUptoCardSaid : Prop := Claim7.holds Tryz.pinned (.plain (OpenSpec.upto fnExactParcelRightSpec)) fnExactParcelRightUptoCard

/-- THE SECOND FORM's CARD OF 'laws.FnExactParcelIx'. -/
def fnExactParcelIxUptoCard : Claim7 := { stood := { row := fnExactParcelIxUptoRow, standIns := [], harness := (true, "75a818dcedb87f3b567250b7e6a3939ca15e222a5953dcefa2fa328d87bbd818"), looks := true }, kinds := [], alts := [], laidByText := true, laidKinds := [.data, .data, .data, .data, .sentinel, .sentinel, .widerDeep, .pinned], laidTests := true, laidLooks := .later }
def FnExactParcelIxUptoCardSaid : Prop := Claim7.holds Tryz.pinned (.plain (OpenSpec.upto fnExactParcelIxSpec)) fnExactParcelIxUptoCard

/-- THE SECOND FORM's CARD OF 'laws.FnExactParcelText'. -/
def fnExactParcelTextUptoCard : Claim7 := { stood := { row := fnExactParcelTextUptoRow, standIns := [], harness := (true, "75a818dcedb87f3b567250b7e6a3939ca15e222a5953dcefa2fa328d87bbd818"), looks := true }, kinds := [], alts := [], laidByText := true, laidKinds := [.data, .data, .data, .data, .sentinel, .sentinel, .widerDeep, .pinned], laidTests := true, laidLooks := .later }
def FnExactParcelTextUptoCardSaid : Prop := Claim7.holds Tryz.pinned (.plain (OpenSpec.upto fnExactParcelTextSpec)) fnExactParcelTextUptoCard
end Rows
end Go.Proofs.YtkaolpnbddjdpaaGreatDoor
