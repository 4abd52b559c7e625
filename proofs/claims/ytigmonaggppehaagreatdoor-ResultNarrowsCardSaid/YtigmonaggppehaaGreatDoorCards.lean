/-
  DERIVED. GIVEN WITH THE SEED: THE CARDS: each row of YtigmonaggppehaaGreatDoorRows.lean that lists a variable, with what it lists TIED to the program's text (the seventh form; the later family's looks); each row that meets fmt, with fmt's text TOLD by the authors' own Lean function (tested against real Go, not proved from fmt's source: count such statements apart). THE CARD IS WHAT COUNTS. Prove the row's statement (the work); the ties are given (YtigmonaggppehaaGreatDoorTie.lean); close each card by the builder's one call (the guide's Derived/Test/ToyasCard.lean, 'card_holds'). Laid BY PROGRAM, IN A SANDBOX (cutbox-door.mjs). By AI agents, Wed Nov 11 2026. No macro, syntax, notation, axiom, sorry.
-/
import Derived.Test.YtigmonaggppehaaGreatDoorRows
import GoSem.ClaimSeven
namespace Go.Proofs.YtigmonaggppehaaGreatDoor
namespace Rows

/-- THE TIED CARD OF 'cruxlaw07.ResultWitnesses'. -/
def resultWitnessesCard : Claim7 := { stood := { row := resultWitnessesRow, standIns := [], harness := (true, "ab778f376649adf4553af90e0d866d1a29c5d710d082c8271401357807d0a651"), looks := false }, kinds := [], alts := [], laidByText := true, laidKinds := [.data, .data, .data, .data], laidTests := true, laidLooks := .later }
def ResultWitnessesCardSaid : Prop := Claim7.holds Tryz.pinned (.plain (OpenSpec.ofChange resultWitnessesSpec)) resultWitnessesCard

/-- THE TIED CARD OF 'cruxlaw07.ResultNarrows'. -/
def resultNarrowsCard : Claim7 := { stood := { row := resultNarrowsRow, standIns := [], harness := (true, "ab778f376649adf4553af90e0d866d1a29c5d710d082c8271401357807d0a651"), looks := false }, kinds := [], alts := [], laidByText := true, laidKinds := [.data, .data, .data, .data], laidTests := true, laidLooks := .later }
def ResultNarrowsCardSaid : Prop := Claim7.holds Tryz.pinned (.plain (OpenSpec.ofChange resultNarrowsSpec)) resultNarrowsCard

/-- THE SECOND FORM's CARD OF 'cruxlaw07.ResultWitnesses'. -/
def resultWitnessesUptoCard : Claim7 := { stood := { row := resultWitnessesUptoRow, standIns := [], harness := (true, "ab778f376649adf4553af90e0d866d1a29c5d710d082c8271401357807d0a651"), looks := false }, kinds := [], alts := [], laidByText := true, laidKinds := [.data, .data, .data, .data], laidTests := true, laidLooks := .later }
def ResultWitnessesUptoCardSaid : Prop := Claim7.holds Tryz.pinned (.plain (OpenSpec.upto resultWitnessesSpec)) resultWitnessesUptoCard

/-- THE SECOND FORM's CARD OF 'cruxlaw07.ResultNarrows'. -/
def resultNarrowsUptoCard : Claim7 := { stood := { row := resultNarrowsUptoRow, standIns := [], harness := (true, "ab778f376649adf4553af90e0d866d1a29c5d710d082c8271401357807d0a651"), looks := false }, kinds := [], alts := [], laidByText := true, laidKinds := [.data, .data, .data, .data], laidTests := true, laidLooks := .later }
def ResultNarrowsUptoCardSaid : Prop := Claim7.holds Tryz.pinned (.plain (OpenSpec.upto resultNarrowsSpec)) resultNarrowsUptoCard
end Rows
end Go.Proofs.YtigmonaggppehaaGreatDoor
