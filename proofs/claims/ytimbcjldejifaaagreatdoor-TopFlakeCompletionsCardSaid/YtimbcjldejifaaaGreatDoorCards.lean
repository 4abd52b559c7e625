/-
  DERIVED. GIVEN WITH THE SEED: THE CARDS: each row of YtimbcjldejifaaaGreatDoorRows.lean that lists a variable, with what it lists TIED to the program's text (the seventh form; the later family's looks); each row that meets fmt, with fmt's text TOLD by the authors' own Lean function (tested against real Go, not proved from fmt's source: count such statements apart). THE CARD IS WHAT COUNTS. Prove the row's statement (the work); the ties are given (YtimbcjldejifaaaGreatDoorTie.lean); close each card by the builder's one call (the guide's Derived/Test/ToyasCard.lean, 'card_holds'). Laid BY PROGRAM, IN A SANDBOX (cutbox-door.mjs). By AI agents, Wed Nov 11 2026. No macro, syntax, notation, axiom, sorry.
-/
import Derived.Test.YtimbcjldejifaaaGreatDoorRows
import GoSem.ClaimSeven
namespace Go.Proofs.YtimbcjldejifaaaGreatDoor
namespace Rows

/-- THE TIED CARD OF 'cruxtop.TopFlakeCompletions'. -/
def topFlakeCompletionsCard : Claim7 := { stood := { row := topFlakeCompletionsRow, standIns := [], harness := (true, "c3f07d0732be0aae7a3008082cd8ec7b0f8d843788b57feae4b2ca63c79f6900"), looks := false }, kinds := [], alts := [], laidByText := true, laidKinds := [.data], laidTests := true, laidLooks := .later }
def TopFlakeCompletionsCardSaid : Prop := Claim7.holds Tryz.pinned (.plain (OpenSpec.ofChange topFlakeCompletionsSpec)) topFlakeCompletionsCard

/-- THE SECOND FORM's CARD OF 'cruxtop.TopFlakeCompletions'. -/
def topFlakeCompletionsUptoCard : Claim7 := { stood := { row := topFlakeCompletionsUptoRow, standIns := [], harness := (true, "c3f07d0732be0aae7a3008082cd8ec7b0f8d843788b57feae4b2ca63c79f6900"), looks := false }, kinds := [], alts := [], laidByText := true, laidKinds := [.data], laidTests := true, laidLooks := .later }
def TopFlakeCompletionsUptoCardSaid : Prop := Claim7.holds Tryz.pinned (.plain (OpenSpec.upto topFlakeCompletionsSpec)) topFlakeCompletionsUptoCard
end Rows
end Go.Proofs.YtimbcjldejifaaaGreatDoor
