/-
  DERIVED. GIVEN WITH THE SEED: THE CARDS: each row of YtdpdbgcdmpdaoaaGreatDoorRows.lean that lists a variable, with what it lists TIED to the program's text (the seventh form; the later family's looks); each row that meets fmt, with fmt's text TOLD by the authors' own Lean function (tested against real Go, not proved from fmt's source: count such statements apart). THE CARD IS WHAT COUNTS. Prove the row's statement (the work); the ties are given (YtdpdbgcdmpdaoaaGreatDoorTie.lean); close each card by the builder's one call (the guide's Derived/Test/ToyasCard.lean, 'card_holds'). Laid BY PROGRAM, IN A SANDBOX (cutbox-door.mjs). By AI agents, Wed Nov 11 2026. No macro, syntax, notation, axiom, sorry.
-/
import Derived.Test.YtdpdbgcdmpdaoaaGreatDoorRows
import GoSem.ClaimSeven
namespace Go.Proofs.YtdpdbgcdmpdaoaaGreatDoor
namespace Rows

/-- THE TIED CARD OF 'cruxlaw06.StartCalls'. -/
def startCallsCard : Claim7 := { stood := { row := startCallsRow, standIns := [], harness := (true, "fed103ec6bb6e67f36ba4700badddb4cd1190c3054a0184f82a85ca4ac688786"), looks := false }, kinds := [], alts := [], laidByText := true, laidKinds := [.data], laidTests := true, laidLooks := .later }
def StartCallsCardSaid : Prop := Claim7.holds Tryz.pinned (.plain (OpenSpec.ofChange startCallsSpec)) startCallsCard

/-- THE TIED CARD OF 'cruxlaw06.StartDuels'. -/
def startDuelsCard : Claim7 := { stood := { row := startDuelsRow, standIns := [], harness := (true, "fed103ec6bb6e67f36ba4700badddb4cd1190c3054a0184f82a85ca4ac688786"), looks := false }, kinds := [], alts := [], laidByText := true, laidKinds := [.data], laidTests := true, laidLooks := .later }
def StartDuelsCardSaid : Prop := Claim7.holds Tryz.pinned (.plain (OpenSpec.ofChange startDuelsSpec)) startDuelsCard

/-- THE SECOND FORM's CARD OF 'cruxlaw06.StartCalls'. -/
def startCallsUptoCard : Claim7 := { stood := { row := startCallsUptoRow, standIns := [], harness := (true, "fed103ec6bb6e67f36ba4700badddb4cd1190c3054a0184f82a85ca4ac688786"), looks := false }, kinds := [], alts := [], laidByText := true, laidKinds := [.data], laidTests := true, laidLooks := .later }
def StartCallsUptoCardSaid : Prop := Claim7.holds Tryz.pinned (.plain (OpenSpec.upto startCallsSpec)) startCallsUptoCard

/-- THE SECOND FORM's CARD OF 'cruxlaw06.StartDuels'. -/
def startDuelsUptoCard : Claim7 := { stood := { row := startDuelsUptoRow, standIns := [], harness := (true, "fed103ec6bb6e67f36ba4700badddb4cd1190c3054a0184f82a85ca4ac688786"), looks := false }, kinds := [], alts := [], laidByText := true, laidKinds := [.data], laidTests := true, laidLooks := .later }
def StartDuelsUptoCardSaid : Prop := Claim7.holds Tryz.pinned (.plain (OpenSpec.upto startDuelsSpec)) startDuelsUptoCard
end Rows
end Go.Proofs.YtdpdbgcdmpdaoaaGreatDoor
