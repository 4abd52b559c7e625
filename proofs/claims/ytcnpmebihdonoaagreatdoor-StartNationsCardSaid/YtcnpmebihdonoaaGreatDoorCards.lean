/-
  DERIVED. GIVEN WITH THE SEED: THE CARDS: each row of YtcnpmebihdonoaaGreatDoorRows.lean that lists a variable, with what it lists TIED to the program's text (the seventh form; the later family's looks); each row that meets fmt, with fmt's text TOLD by the authors' own Lean function (tested against real Go, not proved from fmt's source: count such statements apart). THE CARD IS WHAT COUNTS. Prove the row's statement (the work); the ties are given (YtcnpmebihdonoaaGreatDoorTie.lean); close each card by the builder's one call (the guide's Derived/Test/ToyasCard.lean, 'card_holds'). Laid BY PROGRAM, IN A SANDBOX (cutbox-door.mjs). By AI agents, Wed Nov 11 2026. No macro, syntax, notation, axiom, sorry.
-/
import Derived.Test.YtcnpmebihdonoaaGreatDoorRows
import GoSem.ClaimSeven
namespace Go.Proofs.YtcnpmebihdonoaaGreatDoor
namespace Rows

/-- THE TIED CARD OF 'cruxlaw06.StartNations'. -/
def startNationsCard : Claim7 := { stood := { row := startNationsRow, standIns := [], harness := (true, "e653bf9255f039a9b295738a7f4a96143c5594c98ad8537037777524d5d410a1"), looks := false }, kinds := [], alts := [], laidByText := true, laidKinds := [.data], laidTests := true, laidLooks := .later }
def StartNationsCardSaid : Prop := Claim7.holds Tryz.pinned (.plain (OpenSpec.ofChange startNationsSpec)) startNationsCard

/-- THE TIED CARD OF 'cruxlaw06.StartSpreads'. -/
def startSpreadsCard : Claim7 := { stood := { row := startSpreadsRow, standIns := [], harness := (true, "e653bf9255f039a9b295738a7f4a96143c5594c98ad8537037777524d5d410a1"), looks := false }, kinds := [], alts := [], laidByText := true, laidKinds := [.data], laidTests := true, laidLooks := .later }
def StartSpreadsCardSaid : Prop := Claim7.holds Tryz.pinned (.plain (OpenSpec.ofChange startSpreadsSpec)) startSpreadsCard

/-- THE SECOND FORM's CARD OF 'cruxlaw06.StartNations'. -/
def startNationsUptoCard : Claim7 := { stood := { row := startNationsUptoRow, standIns := [], harness := (true, "e653bf9255f039a9b295738a7f4a96143c5594c98ad8537037777524d5d410a1"), looks := false }, kinds := [], alts := [], laidByText := true, laidKinds := [.data], laidTests := true, laidLooks := .later }
def StartNationsUptoCardSaid : Prop := Claim7.holds Tryz.pinned (.plain (OpenSpec.upto startNationsSpec)) startNationsUptoCard

/-- THE SECOND FORM's CARD OF 'cruxlaw06.StartSpreads'. -/
def startSpreadsUptoCard : Claim7 := { stood := { row := startSpreadsUptoRow, standIns := [], harness := (true, "e653bf9255f039a9b295738a7f4a96143c5594c98ad8537037777524d5d410a1"), looks := false }, kinds := [], alts := [], laidByText := true, laidKinds := [.data], laidTests := true, laidLooks := .later }
def StartSpreadsUptoCardSaid : Prop := Claim7.holds Tryz.pinned (.plain (OpenSpec.upto startSpreadsSpec)) startSpreadsUptoCard
end Rows
end Go.Proofs.YtcnpmebihdonoaaGreatDoor
