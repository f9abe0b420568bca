/-
  DERIVED. GIVEN WITH THE SEED: THE CARDS: each row of YtjoacjohjhpafaaDoorRows.lean that lists a variable, with what it lists TIED to the program's text (the seventh form; the later family's looks); each row that meets fmt, with fmt's text TOLD by the authors' own Lean function (tested against real Go, not proved from fmt's source: count such statements apart). THE CARD IS WHAT COUNTS. Prove the row's statement (the work); the ties are given (YtjoacjohjhpafaaDoorTie.lean); close each card by the builder's one call (the guide's Derived/Test/ToyasCard.lean, 'card_holds'). Laid BY PROGRAM, IN A SANDBOX (cutbox-door.mjs). By AI agents, Wed Nov 11 2026. No macro, syntax, notation, axiom, sorry.
-/
import Derived.Test.YtjoacjohjhpafaaDoorRows
import GoSem.ClaimSeven
namespace Go.Proofs.YtjoacjohjhpafaaDoor
namespace Rows

/-- THE TIED CARD OF 'laws.FnTrailers'. -/
def fnTrailersCard : Claim7 := { stood := { row := fnTrailersRow, standIns := [], harness := (true, "a9c47ba86dc7e8a9516df53baf4ed28558a11d6aaf00159df49211b8b4147a92"), looks := true }, kinds := [], alts := [], laidByText := true, laidKinds := [.data, .data, .data, .sentinel, .sentinel], laidTests := true, laidLooks := .later }
def FnTrailersCardSaid : Prop := Claim7.holds Tryd.pinned (.plain (OpenSpec.ofChange fnTrailersSpec)) fnTrailersCard

/-- THE TIED CARD OF 'laws.FnTables'. -/
def fnTablesCard : Claim7 := { stood := { row := fnTablesRow, standIns := [], harness := (true, "a9c47ba86dc7e8a9516df53baf4ed28558a11d6aaf00159df49211b8b4147a92"), looks := true }, kinds := [], alts := [], laidByText := true, laidKinds := [.data, .data, .data, .data, .sentinel, .sentinel, .widerDeep, .pinned], laidTests := true, laidLooks := .later }
def FnTablesCardSaid : Prop := Claim7.holds Tryd.pinned (.plain (OpenSpec.ofChange fnTablesSpec)) fnTablesCard

/-- THE TIED CARD OF 'laws.FnExactIxSegments'. -/
def fnExactIxSegmentsCard : Claim7 := { stood := { row := fnExactIxSegmentsRow, standIns := [], harness := (true, "a9c47ba86dc7e8a9516df53baf4ed28558a11d6aaf00159df49211b8b4147a92"), looks := true }, kinds := [], alts := [], laidByText := true, laidKinds := [.data, .data, .data], laidTests := true, laidLooks := .later }
def FnExactIxSegmentsCardSaid : Prop := Claim7.holds Tryd.pinned (.plain (OpenSpec.ofChange fnExactIxSegmentsSpec)) fnExactIxSegmentsCard

/-- THE TIED CARD OF 'laws.FnExactIxCount'. -/
def fnExactIxCountCard : Claim7 := { stood := { row := fnExactIxCountRow, standIns := [], harness := (true, "a9c47ba86dc7e8a9516df53baf4ed28558a11d6aaf00159df49211b8b4147a92"), looks := true }, kinds := [], alts := [], laidByText := true, laidKinds := [.data, .data, .data], laidTests := true, laidLooks := .later }
def FnExactIxCountCardSaid : Prop := Claim7.holds Tryd.pinned (.plain (OpenSpec.ofChange fnExactIxCountSpec)) fnExactIxCountCard

/-- THE TIED CARD OF 'laws.FnExactHeadOf'. -/
def fnExactHeadOfCard : Claim7 := { stood := { row := fnExactHeadOfRow, standIns := [], harness := (true, "a9c47ba86dc7e8a9516df53baf4ed28558a11d6aaf00159df49211b8b4147a92"), looks := true }, kinds := [], alts := [], laidByText := true, laidKinds := [.data, .data, .data, .sentinel, .sentinel], laidTests := true, laidLooks := .later }
def FnExactHeadOfCardSaid : Prop := Claim7.holds Tryd.pinned (.plain (OpenSpec.ofChange fnExactHeadOfSpec)) fnExactHeadOfCard

/-- THE TIED CARD OF 'laws.FnExactFormRight'. -/
def fnExactFormRightCard : Claim7 := { stood := { row := fnExactFormRightRow, standIns := [], harness := (true, "a9c47ba86dc7e8a9516df53baf4ed28558a11d6aaf00159df49211b8b4147a92"), looks := true }, kinds := [], alts := [], laidByText := true, laidKinds := [.data, .data, .data, .data, .sentinel, .sentinel, .pinned], laidTests := true, laidLooks := .later }
def FnExactFormRightCardSaid : Prop := Claim7.holds Tryd.pinned (.plain (OpenSpec.ofChange fnExactFormRightSpec)) fnExactFormRightCard

/-- THE TIED CARD OF 'laws.FnExactTableCheck'. -/
def fnExactTableCheckCard : Claim7 := { stood := { row := fnExactTableCheckRow, standIns := [], harness := (true, "a9c47ba86dc7e8a9516df53baf4ed28558a11d6aaf00159df49211b8b4147a92"), looks := true }, kinds := [], alts := [], laidByText := true, laidKinds := [.data, .data, .data, .data, .sentinel, .sentinel, .widerDeep, .pinned], laidTests := true, laidLooks := .later }
def FnExactTableCheckCardSaid : Prop := Claim7.holds Tryd.pinned (.plain (OpenSpec.ofChange fnExactTableCheckSpec)) fnExactTableCheckCard

/-- THE SECOND FORM's CARD OF 'laws.FnTrailers'. -/
def fnTrailersUptoCard : Claim7 := { stood := { row := fnTrailersUptoRow, standIns := [], harness := (true, "a9c47ba86dc7e8a9516df53baf4ed28558a11d6aaf00159df49211b8b4147a92"), looks := true }, kinds := [], alts := [], laidByText := true, laidKinds := [.data, .data, .data, .sentinel, .sentinel], laidTests := true, laidLooks := .later }
def FnTrailersUptoCardSaid : Prop := Claim7.holds Tryd.pinned (.plain (OpenSpec.upto fnTrailersSpec)) fnTrailersUptoCard

/-- THE SECOND FORM's CARD OF 'laws.FnTables'. -/
def fnTablesUptoCard : Claim7 := { stood := { row := fnTablesUptoRow, standIns := [], harness := (true, "a9c47ba86dc7e8a9516df53baf4ed28558a11d6aaf00159df49211b8b4147a92"), looks := true }, kinds := [], alts := [], laidByText := true, laidKinds := [.data, .data, .data, .data, .sentinel, .sentinel, .widerDeep, .pinned], laidTests := true, laidLooks := .later }
def FnTablesUptoCardSaid : Prop := Claim7.holds Tryd.pinned (.plain (OpenSpec.upto fnTablesSpec)) fnTablesUptoCard

/-- THE SECOND FORM's CARD OF 'laws.FnExactIxSegments'. -/
def fnExactIxSegmentsUptoCard : Claim7 := { stood := { row := fnExactIxSegmentsUptoRow, standIns := [], harness := (true, "a9c47ba86dc7e8a9516df53baf4ed28558a11d6aaf00159df49211b8b4147a92"), looks := true }, kinds := [], alts := [], laidByText := true, laidKinds := [.data, .data, .data], laidTests := true, laidLooks := .later }
def FnExactIxSegmentsUptoCardSaid : Prop := Claim7.holds Tryd.pinned (.plain (OpenSpec.upto fnExactIxSegmentsSpec)) fnExactIxSegmentsUptoCard

/-- THE SECOND FORM's CARD OF 'laws.FnExactIxCount'. -/
def fnExactIxCountUptoCard : Claim7 := { stood := { row := fnExactIxCountUptoRow, standIns := [], harness := (true, "a9c47ba86dc7e8a9516df53baf4ed28558a11d6aaf00159df49211b8b4147a92"), looks := true }, kinds := [], alts := [], laidByText := true, laidKinds := [.data, .data, .data], laidTests := true, laidLooks := .later }
def FnExactIxCountUptoCardSaid : Prop := Claim7.holds Tryd.pinned (.plain (OpenSpec.upto fnExactIxCountSpec)) fnExactIxCountUptoCard

/-- THE SECOND FORM's CARD OF 'laws.FnExactHeadOf'. -/
def fnExactHeadOfUptoCard : Claim7 := { stood := { row := fnExactHeadOfUptoRow, standIns := [], harness := (true, "a9c47ba86dc7e8a9516df53baf4ed28558a11d6aaf00159df49211b8b4147a92"), looks := true }, kinds := [], alts := [], laidByText := true, laidKinds := [.data, .data, .data, .sentinel, .sentinel], laidTests := true, laidLooks := .later }
def FnExactHeadOfUptoCardSaid : Prop := Claim7.holds Tryd.pinned (.plain (OpenSpec.upto fnExactHeadOfSpec)) fnExactHeadOfUptoCard

/-- THE SECOND FORM's CARD OF 'laws.FnExactFormRight'. -/
def fnExactFormRightUptoCard : Claim7 := { stood := { row := fnExactFormRightUptoRow, standIns := [], harness := (true, "a9c47ba86dc7e8a9516df53baf4ed28558a11d6aaf00159df49211b8b4147a92"), looks := true }, kinds := [], alts := [], laidByText := true, laidKinds := [.data, .data, .data, .data, .sentinel, .sentinel, .pinned], laidTests := true, laidLooks := .later }
def FnExactFormRightUptoCardSaid : Prop := Claim7.holds Tryd.pinned (.plain (OpenSpec.upto fnExactFormRightSpec)) fnExactFormRightUptoCard

/-- THE SECOND FORM's CARD OF 'laws.FnExactTableCheck'. -/
def fnExactTableCheckUptoCard : Claim7 := { stood := { row := fnExactTableCheckUptoRow, standIns := [], harness := (true, "a9c47ba86dc7e8a9516df53baf4ed28558a11d6aaf00159df49211b8b4147a92"), looks := true }, kinds := [], alts := [], laidByText := true, laidKinds := [.data, .data, .data, .data, .sentinel, .sentinel, .widerDeep, .pinned], laidTests := true, laidLooks := .later }
def FnExactTableCheckUptoCardSaid : Prop := Claim7.holds Tryd.pinned (.plain (OpenSpec.upto fnExactTableCheckSpec)) fnExactTableCheckUptoCard
end Rows
end Go.Proofs.YtjoacjohjhpafaaDoor
