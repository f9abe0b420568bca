/-
  DERIVED. GIVEN WITH THE SEED: THE CARDS: each row of YtibjmokhkjklkaaDoorRows.lean that lists a variable, with what it lists TIED to the program's text (the seventh form; the later family's looks); each row that meets fmt, with fmt's text TOLD by the authors' own Lean function (tested against real Go, not proved from fmt's source: count such statements apart). THE CARD IS WHAT COUNTS. Prove the row's statement (the work); the ties are given (YtibjmokhkjklkaaDoorTie.lean); close each card by the builder's one call (the guide's Derived/Test/ToyasCard.lean, 'card_holds'). Laid BY PROGRAM, IN A SANDBOX (cutbox-door.mjs). By AI agents, Wed Nov 11 2026. No macro, syntax, notation, axiom, sorry.
-/
import Derived.Test.YtibjmokhkjklkaaDoorRows
import GoSem.ClaimSeven
namespace Go.Proofs.YtibjmokhkjklkaaDoor
namespace Rows

/-- THE TIED CARD OF 'laws.FnExactSealChain'. -/
def fnExactSealChainCard : Claim7 := { stood := { row := fnExactSealChainRow, standIns := [], harness := (true, "d6e7dc45e19172ea6cc2aa3a41c2d910d314ee5d2b6bc359248a11bc9cf2512a"), looks := false }, kinds := [], alts := [], laidByText := true, laidKinds := [.data], laidTests := true, laidLooks := .later }
def FnExactSealChainCardSaid : Prop := Claim7.holds Tryd.pinned (.plain (OpenSpec.ofChange fnExactSealChainSpec)) fnExactSealChainCard

/-- THE TIED CARD OF 'laws.FnExactSealFault'. -/
def fnExactSealFaultCard : Claim7 := { stood := { row := fnExactSealFaultRow, standIns := [], harness := (true, "d6e7dc45e19172ea6cc2aa3a41c2d910d314ee5d2b6bc359248a11bc9cf2512a"), looks := false }, kinds := [], alts := [], laidByText := true, laidKinds := [.data], laidTests := true, laidLooks := .later }
def FnExactSealFaultCardSaid : Prop := Claim7.holds Tryd.pinned (.plain (OpenSpec.ofChange fnExactSealFaultSpec)) fnExactSealFaultCard

/-- THE TIED CARD OF 'laws.FnExactSealJoin'. -/
def fnExactSealJoinCard : Claim7 := { stood := { row := fnExactSealJoinRow, standIns := [], harness := (true, "d6e7dc45e19172ea6cc2aa3a41c2d910d314ee5d2b6bc359248a11bc9cf2512a"), looks := false }, kinds := [], alts := [], laidByText := true, laidKinds := [.data], laidTests := true, laidLooks := .later }
def FnExactSealJoinCardSaid : Prop := Claim7.holds Tryd.pinned (.plain (OpenSpec.ofChange fnExactSealJoinSpec)) fnExactSealJoinCard

/-- THE SECOND FORM's CARD OF 'laws.FnExactSealChain'. -/
def fnExactSealChainUptoCard : Claim7 := { stood := { row := fnExactSealChainUptoRow, standIns := [], harness := (true, "d6e7dc45e19172ea6cc2aa3a41c2d910d314ee5d2b6bc359248a11bc9cf2512a"), looks := false }, kinds := [], alts := [], laidByText := true, laidKinds := [.data], laidTests := true, laidLooks := .later }
def FnExactSealChainUptoCardSaid : Prop := Claim7.holds Tryd.pinned (.plain (OpenSpec.upto fnExactSealChainSpec)) fnExactSealChainUptoCard

/-- THE SECOND FORM's CARD OF 'laws.FnExactSealFault'. -/
def fnExactSealFaultUptoCard : Claim7 := { stood := { row := fnExactSealFaultUptoRow, standIns := [], harness := (true, "d6e7dc45e19172ea6cc2aa3a41c2d910d314ee5d2b6bc359248a11bc9cf2512a"), looks := false }, kinds := [], alts := [], laidByText := true, laidKinds := [.data], laidTests := true, laidLooks := .later }
def FnExactSealFaultUptoCardSaid : Prop := Claim7.holds Tryd.pinned (.plain (OpenSpec.upto fnExactSealFaultSpec)) fnExactSealFaultUptoCard

/-- THE SECOND FORM's CARD OF 'laws.FnExactSealJoin'. -/
def fnExactSealJoinUptoCard : Claim7 := { stood := { row := fnExactSealJoinUptoRow, standIns := [], harness := (true, "d6e7dc45e19172ea6cc2aa3a41c2d910d314ee5d2b6bc359248a11bc9cf2512a"), looks := false }, kinds := [], alts := [], laidByText := true, laidKinds := [.data], laidTests := true, laidLooks := .later }
def FnExactSealJoinUptoCardSaid : Prop := Claim7.holds Tryd.pinned (.plain (OpenSpec.upto fnExactSealJoinSpec)) fnExactSealJoinUptoCard
end Rows
end Go.Proofs.YtibjmokhkjklkaaDoor
