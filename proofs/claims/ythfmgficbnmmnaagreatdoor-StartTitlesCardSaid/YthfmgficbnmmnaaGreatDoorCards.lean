/-
  DERIVED. GIVEN WITH THE SEED: THE CARDS: each row of YthfmgficbnmmnaaGreatDoorRows.lean that lists a variable, with what it lists TIED to the program's text (the seventh form; the later family's looks); each row that meets fmt, with fmt's text TOLD by the authors' own Lean function (tested against real Go, not proved from fmt's source: count such statements apart). THE CARD IS WHAT COUNTS. Prove the row's statement (the work); the ties are given (YthfmgficbnmmnaaGreatDoorTie.lean); close each card by the builder's one call (the guide's Derived/Test/ToyasCard.lean, 'card_holds'). Laid BY PROGRAM, IN A SANDBOX (cutbox-door.mjs). By AI agents, Wed Nov 11 2026. No macro, syntax, notation, axiom, sorry.
-/
import Derived.Test.YthfmgficbnmmnaaGreatDoorRows
import GoSem.ClaimSeven
namespace Go.Proofs.YthfmgficbnmmnaaGreatDoor
namespace Rows

/-- THE TIED CARD OF 'cruxlaw06.StartPlaces'. -/
def startPlacesCard : Claim7 := { stood := { row := startPlacesRow, standIns := [], harness := (true, "de3ac3f6be7ee03d0d9c078aa0768d364bb9d54256560e8bf35cf7f4d0172883"), looks := false }, kinds := [], alts := [], laidByText := true, laidKinds := [.data], laidTests := true, laidLooks := .later }
def StartPlacesCardSaid : Prop := Claim7.holds Tryz.pinned (.plain (OpenSpec.ofChange startPlacesSpec)) startPlacesCard

/-- THE TIED CARD OF 'cruxlaw06.StartTitles'. -/
def startTitlesCard : Claim7 := { stood := { row := startTitlesRow, standIns := [], harness := (true, "de3ac3f6be7ee03d0d9c078aa0768d364bb9d54256560e8bf35cf7f4d0172883"), looks := false }, kinds := [], alts := [], laidByText := true, laidKinds := [.data], laidTests := true, laidLooks := .later }
def StartTitlesCardSaid : Prop := Claim7.holds Tryz.pinned (.plain (OpenSpec.ofChange startTitlesSpec)) startTitlesCard

/-- THE SECOND FORM's CARD OF 'cruxlaw06.StartPlaces'. -/
def startPlacesUptoCard : Claim7 := { stood := { row := startPlacesUptoRow, standIns := [], harness := (true, "de3ac3f6be7ee03d0d9c078aa0768d364bb9d54256560e8bf35cf7f4d0172883"), looks := false }, kinds := [], alts := [], laidByText := true, laidKinds := [.data], laidTests := true, laidLooks := .later }
def StartPlacesUptoCardSaid : Prop := Claim7.holds Tryz.pinned (.plain (OpenSpec.upto startPlacesSpec)) startPlacesUptoCard

/-- THE SECOND FORM's CARD OF 'cruxlaw06.StartTitles'. -/
def startTitlesUptoCard : Claim7 := { stood := { row := startTitlesUptoRow, standIns := [], harness := (true, "de3ac3f6be7ee03d0d9c078aa0768d364bb9d54256560e8bf35cf7f4d0172883"), looks := false }, kinds := [], alts := [], laidByText := true, laidKinds := [.data], laidTests := true, laidLooks := .later }
def StartTitlesUptoCardSaid : Prop := Claim7.holds Tryz.pinned (.plain (OpenSpec.upto startTitlesSpec)) startTitlesUptoCard
end Rows
end Go.Proofs.YthfmgficbnmmnaaGreatDoor
