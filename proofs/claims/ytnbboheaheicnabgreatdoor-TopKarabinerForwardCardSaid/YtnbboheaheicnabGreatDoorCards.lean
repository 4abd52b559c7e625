/-
  DERIVED. GIVEN WITH THE SEED: THE CARDS: each row of YtnbboheaheicnabGreatDoorRows.lean that lists a variable, with what it lists TIED to the program's text (the seventh form; the later family's looks); each row that meets fmt, with fmt's text TOLD by the authors' own Lean function (tested against real Go, not proved from fmt's source: count such statements apart). THE CARD IS WHAT COUNTS. Prove the row's statement (the work); the ties are given (YtnbboheaheicnabGreatDoorTie.lean); close each card by the builder's one call (the guide's Derived/Test/ToyasCard.lean, 'card_holds'). Laid BY PROGRAM, IN A SANDBOX (cutbox-door.mjs). By AI agents, Wed Nov 11 2026. No macro, syntax, notation, axiom, sorry.
-/
import Derived.Test.YtnbboheaheicnabGreatDoorRows
import GoSem.ClaimSeven
namespace Go.Proofs.YtnbboheaheicnabGreatDoor
namespace Rows

/-- THE TIED CARD OF 'cruxtop.TopKarabinerForward'. -/
def topKarabinerForwardCard : Claim7 := { stood := { row := topKarabinerForwardRow, standIns := [], harness := (true, "08048b23fb59d6d8d6f06523134bc926bf1ceb10aebfea05f03c0c1ca4620455"), looks := false }, kinds := [], alts := [], laidByText := true, laidKinds := [.data], laidTests := true, laidLooks := .later }
def TopKarabinerForwardCardSaid : Prop := Claim7.holds Tryz.pinned (.plain (OpenSpec.ofChange topKarabinerForwardSpec)) topKarabinerForwardCard

/-- THE SECOND FORM's CARD OF 'cruxtop.TopKarabinerForward'. -/
def topKarabinerForwardUptoCard : Claim7 := { stood := { row := topKarabinerForwardUptoRow, standIns := [], harness := (true, "08048b23fb59d6d8d6f06523134bc926bf1ceb10aebfea05f03c0c1ca4620455"), looks := false }, kinds := [], alts := [], laidByText := true, laidKinds := [.data], laidTests := true, laidLooks := .later }
def TopKarabinerForwardUptoCardSaid : Prop := Claim7.holds Tryz.pinned (.plain (OpenSpec.upto topKarabinerForwardSpec)) topKarabinerForwardUptoCard
end Rows
end Go.Proofs.YtnbboheaheicnabGreatDoor
