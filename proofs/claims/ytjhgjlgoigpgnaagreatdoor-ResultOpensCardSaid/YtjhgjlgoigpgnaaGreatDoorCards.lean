/-
  DERIVED. GIVEN WITH THE SEED: THE CARDS: each row of YtjhgjlgoigpgnaaGreatDoorRows.lean that lists a variable, with what it lists TIED to the program's text (the seventh form; the later family's looks); each row that meets fmt, with fmt's text TOLD by the authors' own Lean function (tested against real Go, not proved from fmt's source: count such statements apart). THE CARD IS WHAT COUNTS. Prove the row's statement (the work); the ties are given (YtjhgjlgoigpgnaaGreatDoorTie.lean); close each card by the builder's one call (the guide's Derived/Test/ToyasCard.lean, 'card_holds'). Laid BY PROGRAM, IN A SANDBOX (cutbox-door.mjs). By AI agents, Wed Nov 11 2026. No macro, syntax, notation, axiom, sorry.
-/
import Derived.Test.YtjhgjlgoigpgnaaGreatDoorRows
import GoSem.ClaimSeven
namespace Go.Proofs.YtjhgjlgoigpgnaaGreatDoor
namespace Rows

/-- THE TIED CARD OF 'cruxlaw07.ResultCompares'. -/
def resultComparesCard : Claim7 := { stood := { row := resultComparesRow, standIns := [], harness := (true, "a88ca8a317e625fd2d1c0fcc44bc3a8bc9aad26919ed63d447164c63dffd7d43"), looks := false }, kinds := [], alts := [], laidByText := true, laidKinds := [.data, .data, .data, .data], laidTests := true, laidLooks := .later }
def ResultComparesCardSaid : Prop := Claim7.holds Tryz.pinned (.plain (OpenSpec.ofChange resultComparesSpec)) resultComparesCard

/-- THE TIED CARD OF 'cruxlaw07.ResultOpens'. -/
def resultOpensCard : Claim7 := { stood := { row := resultOpensRow, standIns := [], harness := (true, "a88ca8a317e625fd2d1c0fcc44bc3a8bc9aad26919ed63d447164c63dffd7d43"), looks := false }, kinds := [], alts := [], laidByText := true, laidKinds := [.data, .data, .data, .data], laidTests := true, laidLooks := .later }
def ResultOpensCardSaid : Prop := Claim7.holds Tryz.pinned (.plain (OpenSpec.ofChange resultOpensSpec)) resultOpensCard

/-- THE TIED CARD OF 'cruxlaw07.ResultWitnesses'. -/
def resultWitnessesCard : Claim7 := { stood := { row := resultWitnessesRow, standIns := [], harness := (true, "a88ca8a317e625fd2d1c0fcc44bc3a8bc9aad26919ed63d447164c63dffd7d43"), looks := false }, kinds := [], alts := [], laidByText := true, laidKinds := [.data, .data, .data, .data], laidTests := true, laidLooks := .later }
def ResultWitnessesCardSaid : Prop := Claim7.holds Tryz.pinned (.plain (OpenSpec.ofChange resultWitnessesSpec)) resultWitnessesCard

/-- THE SECOND FORM's CARD OF 'cruxlaw07.ResultCompares'. -/
def resultComparesUptoCard : Claim7 := { stood := { row := resultComparesUptoRow, standIns := [], harness := (true, "a88ca8a317e625fd2d1c0fcc44bc3a8bc9aad26919ed63d447164c63dffd7d43"), looks := false }, kinds := [], alts := [], laidByText := true, laidKinds := [.data, .data, .data, .data], laidTests := true, laidLooks := .later }
def ResultComparesUptoCardSaid : Prop := Claim7.holds Tryz.pinned (.plain (OpenSpec.upto resultComparesSpec)) resultComparesUptoCard

/-- THE SECOND FORM's CARD OF 'cruxlaw07.ResultOpens'. -/
def resultOpensUptoCard : Claim7 := { stood := { row := resultOpensUptoRow, standIns := [], harness := (true, "a88ca8a317e625fd2d1c0fcc44bc3a8bc9aad26919ed63d447164c63dffd7d43"), looks := false }, kinds := [], alts := [], laidByText := true, laidKinds := [.data, .data, .data, .data], laidTests := true, laidLooks := .later }
def ResultOpensUptoCardSaid : Prop := Claim7.holds Tryz.pinned (.plain (OpenSpec.upto resultOpensSpec)) resultOpensUptoCard

/-- THE SECOND FORM's CARD OF 'cruxlaw07.ResultWitnesses'. -/
def resultWitnessesUptoCard : Claim7 := { stood := { row := resultWitnessesUptoRow, standIns := [], harness := (true, "a88ca8a317e625fd2d1c0fcc44bc3a8bc9aad26919ed63d447164c63dffd7d43"), looks := false }, kinds := [], alts := [], laidByText := true, laidKinds := [.data, .data, .data, .data], laidTests := true, laidLooks := .later }
def ResultWitnessesUptoCardSaid : Prop := Claim7.holds Tryz.pinned (.plain (OpenSpec.upto resultWitnessesSpec)) resultWitnessesUptoCard
end Rows
end Go.Proofs.YtjhgjlgoigpgnaaGreatDoor
