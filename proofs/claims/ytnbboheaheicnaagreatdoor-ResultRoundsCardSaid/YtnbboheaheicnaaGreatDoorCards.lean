/-
  DERIVED. GIVEN WITH THE SEED: THE CARDS: each row of YtnbboheaheicnaaGreatDoorRows.lean that lists a variable, with what it lists TIED to the program's text (the seventh form; the later family's looks); each row that meets fmt, with fmt's text TOLD by the authors' own Lean function (tested against real Go, not proved from fmt's source: count such statements apart). THE CARD IS WHAT COUNTS. Prove the row's statement (the work); the ties are given (YtnbboheaheicnaaGreatDoorTie.lean); close each card by the builder's one call (the guide's Derived/Test/ToyasCard.lean, 'card_holds'). Laid BY PROGRAM, IN A SANDBOX (cutbox-door.mjs). By AI agents, Wed Nov 11 2026. No macro, syntax, notation, axiom, sorry.
-/
import Derived.Test.YtnbboheaheicnaaGreatDoorRows
import GoSem.ClaimSeven
namespace Go.Proofs.YtnbboheaheicnaaGreatDoor
namespace Rows

/-- THE TIED CARD OF 'cruxlaw07.ResultRounds'. -/
def resultRoundsCard : Claim7 := { stood := { row := resultRoundsRow, standIns := [], harness := (true, "9e3ce3f0e7fe38ee71d4ebffebc281bb4ad8cf4f6bdcceb9c5a8d21d67da8870"), looks := false }, kinds := [], alts := [], laidByText := true, laidKinds := [.data, .data, .data, .data], laidTests := true, laidLooks := .later }
def ResultRoundsCardSaid : Prop := Claim7.holds Tryz.pinned (.plain (OpenSpec.ofChange resultRoundsSpec)) resultRoundsCard

/-- THE TIED CARD OF 'cruxlaw07.ResultOrders'. -/
def resultOrdersCard : Claim7 := { stood := { row := resultOrdersRow, standIns := [], harness := (true, "9e3ce3f0e7fe38ee71d4ebffebc281bb4ad8cf4f6bdcceb9c5a8d21d67da8870"), looks := false }, kinds := [], alts := [], laidByText := true, laidKinds := [.data, .data, .data, .data], laidTests := true, laidLooks := .later }
def ResultOrdersCardSaid : Prop := Claim7.holds Tryz.pinned (.plain (OpenSpec.ofChange resultOrdersSpec)) resultOrdersCard

/-- THE SECOND FORM's CARD OF 'cruxlaw07.ResultRounds'. -/
def resultRoundsUptoCard : Claim7 := { stood := { row := resultRoundsUptoRow, standIns := [], harness := (true, "9e3ce3f0e7fe38ee71d4ebffebc281bb4ad8cf4f6bdcceb9c5a8d21d67da8870"), looks := false }, kinds := [], alts := [], laidByText := true, laidKinds := [.data, .data, .data, .data], laidTests := true, laidLooks := .later }
def ResultRoundsUptoCardSaid : Prop := Claim7.holds Tryz.pinned (.plain (OpenSpec.upto resultRoundsSpec)) resultRoundsUptoCard

/-- THE SECOND FORM's CARD OF 'cruxlaw07.ResultOrders'. -/
def resultOrdersUptoCard : Claim7 := { stood := { row := resultOrdersUptoRow, standIns := [], harness := (true, "9e3ce3f0e7fe38ee71d4ebffebc281bb4ad8cf4f6bdcceb9c5a8d21d67da8870"), looks := false }, kinds := [], alts := [], laidByText := true, laidKinds := [.data, .data, .data, .data], laidTests := true, laidLooks := .later }
def ResultOrdersUptoCardSaid : Prop := Claim7.holds Tryz.pinned (.plain (OpenSpec.upto resultOrdersSpec)) resultOrdersUptoCard
end Rows
end Go.Proofs.YtnbboheaheicnaaGreatDoor
