/-
  DERIVED. GIVEN WITH THE SEED: THE CARDS: each row of YtlcbdgmclhdofaaGreatDoorRows.lean that lists a variable, with what it lists TIED to the program's text (the seventh form; the later family's looks); each row that meets fmt, with fmt's text TOLD by the authors' own Lean function (tested against real Go, not proved from fmt's source: count such statements apart). THE CARD IS WHAT COUNTS. Prove the row's statement (the work); the ties are given (YtlcbdgmclhdofaaGreatDoorTie.lean); close each card by the builder's one call (the guide's Derived/Test/ToyasCard.lean, 'card_holds'). Laid BY PROGRAM, IN A SANDBOX (cutbox-door.mjs). By AI agents, Wed Nov 11 2026. No macro, syntax, notation, axiom, sorry.
-/
import Derived.Test.YtlcbdgmclhdofaaGreatDoorRows
import GoSem.ClaimSeven
namespace Go.Proofs.YtlcbdgmclhdofaaGreatDoor
namespace Rows

/-- THE TIED CARD OF 'cruxlaw06.StartLists'. -/
def startListsCard : Claim7 := { stood := { row := startListsRow, standIns := [], harness := (true, "570617ef3a8b6484afaeeb5f391fdfc599a3f9be8edafa0ecb3ca18bdd0c0e59"), looks := false }, kinds := [], alts := [], laidByText := true, laidKinds := [.data], laidTests := true, laidLooks := .later }
def StartListsCardSaid : Prop := Claim7.holds Tryz.pinned (.plain (OpenSpec.ofChange startListsSpec)) startListsCard

/-- THE TIED CARD OF 'cruxlaw06.StartNations'. -/
def startNationsCard : Claim7 := { stood := { row := startNationsRow, standIns := [], harness := (true, "570617ef3a8b6484afaeeb5f391fdfc599a3f9be8edafa0ecb3ca18bdd0c0e59"), looks := false }, kinds := [], alts := [], laidByText := true, laidKinds := [.data], laidTests := true, laidLooks := .later }
def StartNationsCardSaid : Prop := Claim7.holds Tryz.pinned (.plain (OpenSpec.ofChange startNationsSpec)) startNationsCard

/-- THE TIED CARD OF 'cruxlaw06.StartSpreads'. -/
def startSpreadsCard : Claim7 := { stood := { row := startSpreadsRow, standIns := [], harness := (true, "570617ef3a8b6484afaeeb5f391fdfc599a3f9be8edafa0ecb3ca18bdd0c0e59"), looks := false }, kinds := [], alts := [], laidByText := true, laidKinds := [.data], laidTests := true, laidLooks := .later }
def StartSpreadsCardSaid : Prop := Claim7.holds Tryz.pinned (.plain (OpenSpec.ofChange startSpreadsSpec)) startSpreadsCard

/-- THE SECOND FORM's CARD OF 'cruxlaw06.StartLists'. -/
def startListsUptoCard : Claim7 := { stood := { row := startListsUptoRow, standIns := [], harness := (true, "570617ef3a8b6484afaeeb5f391fdfc599a3f9be8edafa0ecb3ca18bdd0c0e59"), looks := false }, kinds := [], alts := [], laidByText := true, laidKinds := [.data], laidTests := true, laidLooks := .later }
def StartListsUptoCardSaid : Prop := Claim7.holds Tryz.pinned (.plain (OpenSpec.upto startListsSpec)) startListsUptoCard

/-- THE SECOND FORM's CARD OF 'cruxlaw06.StartNations'. -/
def startNationsUptoCard : Claim7 := { stood := { row := startNationsUptoRow, standIns := [], harness := (true, "570617ef3a8b6484afaeeb5f391fdfc599a3f9be8edafa0ecb3ca18bdd0c0e59"), looks := false }, kinds := [], alts := [], laidByText := true, laidKinds := [.data], laidTests := true, laidLooks := .later }
def StartNationsUptoCardSaid : Prop := Claim7.holds Tryz.pinned (.plain (OpenSpec.upto startNationsSpec)) startNationsUptoCard

/-- THE SECOND FORM's CARD OF 'cruxlaw06.StartSpreads'. -/
def startSpreadsUptoCard : Claim7 := { stood := { row := startSpreadsUptoRow, standIns := [], harness := (true, "570617ef3a8b6484afaeeb5f391fdfc599a3f9be8edafa0ecb3ca18bdd0c0e59"), looks := false }, kinds := [], alts := [], laidByText := true, laidKinds := [.data], laidTests := true, laidLooks := .later }
def StartSpreadsUptoCardSaid : Prop := Claim7.holds Tryz.pinned (.plain (OpenSpec.upto startSpreadsSpec)) startSpreadsUptoCard
end Rows
end Go.Proofs.YtlcbdgmclhdofaaGreatDoor
