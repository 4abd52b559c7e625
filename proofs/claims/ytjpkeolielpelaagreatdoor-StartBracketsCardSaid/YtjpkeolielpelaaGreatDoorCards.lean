/-
  DERIVED. GIVEN WITH THE SEED: THE CARDS: each row of YtjpkeolielpelaaGreatDoorRows.lean that lists a variable, with what it lists TIED to the program's text (the seventh form; the later family's looks); each row that meets fmt, with fmt's text TOLD by the authors' own Lean function (tested against real Go, not proved from fmt's source: count such statements apart). THE CARD IS WHAT COUNTS. Prove the row's statement (the work); the ties are given (YtjpkeolielpelaaGreatDoorTie.lean); close each card by the builder's one call (the guide's Derived/Test/ToyasCard.lean, 'card_holds'). Laid BY PROGRAM, IN A SANDBOX (cutbox-door.mjs). By AI agents, Wed Nov 11 2026. No macro, syntax, notation, axiom, sorry.
-/
import Derived.Test.YtjpkeolielpelaaGreatDoorRows
import GoSem.ClaimSeven
namespace Go.Proofs.YtjpkeolielpelaaGreatDoor
namespace Rows

/-- THE TIED CARD OF 'cruxlaw06.StartBrackets'. -/
def startBracketsCard : Claim7 := { stood := { row := startBracketsRow, standIns := [], harness := (true, "463843e5d299d54180c6bb5cd9c714b129bd0b63b8bd6267e02734cfdcb80868"), looks := false }, kinds := [], alts := [], laidByText := true, laidKinds := [.data], laidTests := true, laidLooks := .later }
def StartBracketsCardSaid : Prop := Claim7.holds Tryz.pinned (.plain (OpenSpec.ofChange startBracketsSpec)) startBracketsCard

/-- THE TIED CARD OF 'cruxlaw06.StartRaces'. -/
def startRacesCard : Claim7 := { stood := { row := startRacesRow, standIns := [], harness := (true, "463843e5d299d54180c6bb5cd9c714b129bd0b63b8bd6267e02734cfdcb80868"), looks := false }, kinds := [], alts := [], laidByText := true, laidKinds := [.data], laidTests := true, laidLooks := .later }
def StartRacesCardSaid : Prop := Claim7.holds Tryz.pinned (.plain (OpenSpec.ofChange startRacesSpec)) startRacesCard

/-- THE SECOND FORM's CARD OF 'cruxlaw06.StartBrackets'. -/
def startBracketsUptoCard : Claim7 := { stood := { row := startBracketsUptoRow, standIns := [], harness := (true, "463843e5d299d54180c6bb5cd9c714b129bd0b63b8bd6267e02734cfdcb80868"), looks := false }, kinds := [], alts := [], laidByText := true, laidKinds := [.data], laidTests := true, laidLooks := .later }
def StartBracketsUptoCardSaid : Prop := Claim7.holds Tryz.pinned (.plain (OpenSpec.upto startBracketsSpec)) startBracketsUptoCard

/-- THE SECOND FORM's CARD OF 'cruxlaw06.StartRaces'. -/
def startRacesUptoCard : Claim7 := { stood := { row := startRacesUptoRow, standIns := [], harness := (true, "463843e5d299d54180c6bb5cd9c714b129bd0b63b8bd6267e02734cfdcb80868"), looks := false }, kinds := [], alts := [], laidByText := true, laidKinds := [.data], laidTests := true, laidLooks := .later }
def StartRacesUptoCardSaid : Prop := Claim7.holds Tryz.pinned (.plain (OpenSpec.upto startRacesSpec)) startRacesUptoCard
end Rows
end Go.Proofs.YtjpkeolielpelaaGreatDoor
