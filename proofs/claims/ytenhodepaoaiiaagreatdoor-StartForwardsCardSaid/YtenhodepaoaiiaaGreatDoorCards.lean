/-
  DERIVED. GIVEN WITH THE SEED: THE CARDS: each row of YtenhodepaoaiiaaGreatDoorRows.lean that lists a variable, with what it lists TIED to the program's text (the seventh form; the later family's looks); each row that meets fmt, with fmt's text TOLD by the authors' own Lean function (tested against real Go, not proved from fmt's source: count such statements apart). THE CARD IS WHAT COUNTS. Prove the row's statement (the work); the ties are given (YtenhodepaoaiiaaGreatDoorTie.lean); close each card by the builder's one call (the guide's Derived/Test/ToyasCard.lean, 'card_holds'). Laid BY PROGRAM, IN A SANDBOX (cutbox-door.mjs). By AI agents, Wed Nov 11 2026. No macro, syntax, notation, axiom, sorry.
-/
import Derived.Test.YtenhodepaoaiiaaGreatDoorRows
import GoSem.ClaimSeven
namespace Go.Proofs.YtenhodepaoaiiaaGreatDoor
namespace Rows

/-- THE TIED CARD OF 'cruxlaw06.StartForwards'. -/
def startForwardsCard : Claim7 := { stood := { row := startForwardsRow, standIns := [], harness := (true, "7a4dd08246fce0af7087c2caed69caa30cafe702e544c582eb7048d5586e557a"), looks := false }, kinds := [], alts := [], laidByText := true, laidKinds := [.data], laidTests := true, laidLooks := .later }
def StartForwardsCardSaid : Prop := Claim7.holds Tryz.pinned (.plain (OpenSpec.ofChange startForwardsSpec)) startForwardsCard

/-- THE TIED CARD OF 'cruxlaw06.StartGoes'. -/
def startGoesCard : Claim7 := { stood := { row := startGoesRow, standIns := [], harness := (true, "7a4dd08246fce0af7087c2caed69caa30cafe702e544c582eb7048d5586e557a"), looks := false }, kinds := [], alts := [], laidByText := true, laidKinds := [.data], laidTests := true, laidLooks := .later }
def StartGoesCardSaid : Prop := Claim7.holds Tryz.pinned (.plain (OpenSpec.ofChange startGoesSpec)) startGoesCard

/-- THE SECOND FORM's CARD OF 'cruxlaw06.StartForwards'. -/
def startForwardsUptoCard : Claim7 := { stood := { row := startForwardsUptoRow, standIns := [], harness := (true, "7a4dd08246fce0af7087c2caed69caa30cafe702e544c582eb7048d5586e557a"), looks := false }, kinds := [], alts := [], laidByText := true, laidKinds := [.data], laidTests := true, laidLooks := .later }
def StartForwardsUptoCardSaid : Prop := Claim7.holds Tryz.pinned (.plain (OpenSpec.upto startForwardsSpec)) startForwardsUptoCard

/-- THE SECOND FORM's CARD OF 'cruxlaw06.StartGoes'. -/
def startGoesUptoCard : Claim7 := { stood := { row := startGoesUptoRow, standIns := [], harness := (true, "7a4dd08246fce0af7087c2caed69caa30cafe702e544c582eb7048d5586e557a"), looks := false }, kinds := [], alts := [], laidByText := true, laidKinds := [.data], laidTests := true, laidLooks := .later }
def StartGoesUptoCardSaid : Prop := Claim7.holds Tryz.pinned (.plain (OpenSpec.upto startGoesSpec)) startGoesUptoCard
end Rows
end Go.Proofs.YtenhodepaoaiiaaGreatDoor
