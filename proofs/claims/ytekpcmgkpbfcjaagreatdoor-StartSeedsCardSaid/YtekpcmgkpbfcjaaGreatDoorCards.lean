/-
  DERIVED. GIVEN WITH THE SEED: THE CARDS: each row of YtekpcmgkpbfcjaaGreatDoorRows.lean that lists a variable, with what it lists TIED to the program's text (the seventh form; the later family's looks); each row that meets fmt, with fmt's text TOLD by the authors' own Lean function (tested against real Go, not proved from fmt's source: count such statements apart). THE CARD IS WHAT COUNTS. Prove the row's statement (the work); the ties are given (YtekpcmgkpbfcjaaGreatDoorTie.lean); close each card by the builder's one call (the guide's Derived/Test/ToyasCard.lean, 'card_holds'). Laid BY PROGRAM, IN A SANDBOX (cutbox-door.mjs). By AI agents, Wed Nov 11 2026. No macro, syntax, notation, axiom, sorry.
-/
import Derived.Test.YtekpcmgkpbfcjaaGreatDoorRows
import GoSem.ClaimSeven
namespace Go.Proofs.YtekpcmgkpbfcjaaGreatDoor
namespace Rows

/-- THE TIED CARD OF 'cruxlaw06.StartBrackets'. -/
def startBracketsCard : Claim7 := { stood := { row := startBracketsRow, standIns := [], harness := (true, "88e63e9399e827613adefda82d71003b7206c776c54ab0e4fc1b4d376ae565ed"), looks := false }, kinds := [], alts := [], laidByText := true, laidKinds := [.data], laidTests := true, laidLooks := .later }
def StartBracketsCardSaid : Prop := Claim7.holds Tryz.pinned (.plain (OpenSpec.ofChange startBracketsSpec)) startBracketsCard

/-- THE TIED CARD OF 'cruxlaw06.StartSeeds'. -/
def startSeedsCard : Claim7 := { stood := { row := startSeedsRow, standIns := [], harness := (true, "88e63e9399e827613adefda82d71003b7206c776c54ab0e4fc1b4d376ae565ed"), looks := false }, kinds := [], alts := [], laidByText := true, laidKinds := [.data], laidTests := true, laidLooks := .later }
def StartSeedsCardSaid : Prop := Claim7.holds Tryz.pinned (.plain (OpenSpec.ofChange startSeedsSpec)) startSeedsCard

/-- THE SECOND FORM's CARD OF 'cruxlaw06.StartBrackets'. -/
def startBracketsUptoCard : Claim7 := { stood := { row := startBracketsUptoRow, standIns := [], harness := (true, "88e63e9399e827613adefda82d71003b7206c776c54ab0e4fc1b4d376ae565ed"), looks := false }, kinds := [], alts := [], laidByText := true, laidKinds := [.data], laidTests := true, laidLooks := .later }
def StartBracketsUptoCardSaid : Prop := Claim7.holds Tryz.pinned (.plain (OpenSpec.upto startBracketsSpec)) startBracketsUptoCard

/-- THE SECOND FORM's CARD OF 'cruxlaw06.StartSeeds'. -/
def startSeedsUptoCard : Claim7 := { stood := { row := startSeedsUptoRow, standIns := [], harness := (true, "88e63e9399e827613adefda82d71003b7206c776c54ab0e4fc1b4d376ae565ed"), looks := false }, kinds := [], alts := [], laidByText := true, laidKinds := [.data], laidTests := true, laidLooks := .later }
def StartSeedsUptoCardSaid : Prop := Claim7.holds Tryz.pinned (.plain (OpenSpec.upto startSeedsSpec)) startSeedsUptoCard
end Rows
end Go.Proofs.YtekpcmgkpbfcjaaGreatDoor
