/-
  DERIVED. GIVEN WITH THE SEED: THE CARDS: each row of YtjmkdpnoihpfoaaDoorRows.lean that lists a variable, with what it lists TIED to the program's text (the seventh form; the later family's looks); each row that meets fmt, with fmt's text TOLD by the authors' own Lean function (tested against real Go, not proved from fmt's source: count such statements apart). THE CARD IS WHAT COUNTS. Prove the row's statement (the work); the ties are given (YtjmkdpnoihpfoaaDoorTie.lean); close each card by the builder's one call (the guide's Derived/Test/ToyasCard.lean, 'card_holds'). Laid BY PROGRAM, IN A SANDBOX (cutbox-door.mjs). By AI agents, Wed Nov 11 2026. No macro, syntax, notation, axiom, sorry.
-/
import Derived.Test.YtjmkdpnoihpfoaaDoorRows
import GoSem.ClaimSeven
namespace Go.Proofs.YtjmkdpnoihpfoaaDoor
namespace Rows

/-- THE TIED CARD OF 'laws.FnExactLinesText'. -/
def fnExactLinesTextCard : Claim7 := { stood := { row := fnExactLinesTextRow, standIns := [], harness := (true, "e95de5dff9c98f5992d76120f61d920a8f7069aede160396e97035bf65df53eb"), looks := false }, kinds := [], alts := [], laidByText := true, laidKinds := [.data, .data, .data], laidTests := true, laidLooks := .later }
def FnExactLinesTextCardSaid : Prop := Claim7.holds Tryd.pinned (.plain (OpenSpec.ofChange fnExactLinesTextSpec)) fnExactLinesTextCard

/-- THE SECOND FORM's CARD OF 'laws.FnExactLinesText'. -/
def fnExactLinesTextUptoCard : Claim7 := { stood := { row := fnExactLinesTextUptoRow, standIns := [], harness := (true, "e95de5dff9c98f5992d76120f61d920a8f7069aede160396e97035bf65df53eb"), looks := false }, kinds := [], alts := [], laidByText := true, laidKinds := [.data, .data, .data], laidTests := true, laidLooks := .later }
def FnExactLinesTextUptoCardSaid : Prop := Claim7.holds Tryd.pinned (.plain (OpenSpec.upto fnExactLinesTextSpec)) fnExactLinesTextUptoCard
end Rows
end Go.Proofs.YtjmkdpnoihpfoaaDoor
