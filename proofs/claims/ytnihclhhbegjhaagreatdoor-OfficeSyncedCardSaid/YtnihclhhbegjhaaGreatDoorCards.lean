/-
  DERIVED. GIVEN WITH THE SEED: THE CARDS: each row of YtnihclhhbegjhaaGreatDoorRows.lean that lists a variable, with what it lists TIED to the program's text (the seventh form; the later family's looks); each row that meets fmt, with fmt's text TOLD by the authors' own Lean function (tested against real Go, not proved from fmt's source: count such statements apart). THE CARD IS WHAT COUNTS. Prove the row's statement (the work); the ties are given (YtnihclhhbegjhaaGreatDoorTie.lean); close each card by the builder's one call (the guide's Derived/Test/ToyasCard.lean, 'card_holds'). Laid BY PROGRAM, IN A SANDBOX (cutbox-door.mjs). By AI agents, Wed Nov 11 2026. No macro, syntax, notation, axiom, sorry.
-/
import Derived.Test.YtnihclhhbegjhaaGreatDoorRows
import GoSem.ClaimSeven
namespace Go.Proofs.YtnihclhhbegjhaaGreatDoor
namespace Rows

/-- THE TIED CARD OF 'cruxlaw10.OfficeArchives'. -/
def officeArchivesCard : Claim7 := { stood := { row := officeArchivesRow, standIns := [], harness := (true, "f25cbacdc898a4537643c02f4190e275e211be761ce65e56b22e70fed7925d6b"), looks := true }, kinds := [], alts := [], laidByText := true, laidKinds := [.data, .data, .data, .data, .sentinel, .sentinel, .pinned], laidTests := true, laidLooks := .later }
def OfficeArchivesCardSaid : Prop := Claim7.holds Tryz.pinned (.plain (OpenSpec.ofChange officeArchivesSpec)) officeArchivesCard

/-- THE TIED CARD OF 'cruxlaw10.OfficeShows'. -/
def officeShowsCard : Claim7 := { stood := { row := officeShowsRow, standIns := [], harness := (true, "f25cbacdc898a4537643c02f4190e275e211be761ce65e56b22e70fed7925d6b"), looks := true }, kinds := [], alts := [], laidByText := true, laidKinds := [.data, .data, .data, .data, .sentinel, .sentinel, .pinned], laidTests := true, laidLooks := .later }
def OfficeShowsCardSaid : Prop := Claim7.holds Tryz.pinned (.plain (OpenSpec.ofChange officeShowsSpec)) officeShowsCard

/-- THE TIED CARD OF 'cruxlaw10.OfficeMerges'. -/
def officeMergesCard : Claim7 := { stood := { row := officeMergesRow, standIns := [], harness := (true, "f25cbacdc898a4537643c02f4190e275e211be761ce65e56b22e70fed7925d6b"), looks := true }, kinds := [], alts := [], laidByText := true, laidKinds := [.data, .data, .data, .data, .sentinel, .sentinel, .pinned], laidTests := true, laidLooks := .later }
def OfficeMergesCardSaid : Prop := Claim7.holds Tryz.pinned (.plain (OpenSpec.ofChange officeMergesSpec)) officeMergesCard

/-- THE TIED CARD OF 'cruxlaw10.OfficeSynced'. -/
def officeSyncedCard : Claim7 := { stood := { row := officeSyncedRow, standIns := [], harness := (true, "f25cbacdc898a4537643c02f4190e275e211be761ce65e56b22e70fed7925d6b"), looks := true }, kinds := [], alts := [], laidByText := true, laidKinds := [.data, .data, .data, .data, .sentinel, .sentinel, .pinned], laidTests := true, laidLooks := .later }
def OfficeSyncedCardSaid : Prop := Claim7.holds Tryz.pinned (.plain (OpenSpec.ofChange officeSyncedSpec)) officeSyncedCard

/-- THE SECOND FORM's CARD OF 'cruxlaw10.OfficeArchives'. -/
def officeArchivesUptoCard : Claim7 := { stood := { row := officeArchivesUptoRow, standIns := [], harness := (true, "f25cbacdc898a4537643c02f4190e275e211be761ce65e56b22e70fed7925d6b"), looks := true }, kinds := [], alts := [], laidByText := true, laidKinds := [.data, .data, .data, .data, .sentinel, .sentinel, .pinned], laidTests := true, laidLooks := .later }
def OfficeArchivesUptoCardSaid : Prop := Claim7.holds Tryz.pinned (.plain (OpenSpec.upto officeArchivesSpec)) officeArchivesUptoCard

/-- THE SECOND FORM's CARD OF 'cruxlaw10.OfficeShows'. -/
def officeShowsUptoCard : Claim7 := { stood := { row := officeShowsUptoRow, standIns := [], harness := (true, "f25cbacdc898a4537643c02f4190e275e211be761ce65e56b22e70fed7925d6b"), looks := true }, kinds := [], alts := [], laidByText := true, laidKinds := [.data, .data, .data, .data, .sentinel, .sentinel, .pinned], laidTests := true, laidLooks := .later }
def OfficeShowsUptoCardSaid : Prop := Claim7.holds Tryz.pinned (.plain (OpenSpec.upto officeShowsSpec)) officeShowsUptoCard

/-- THE SECOND FORM's CARD OF 'cruxlaw10.OfficeMerges'. -/
def officeMergesUptoCard : Claim7 := { stood := { row := officeMergesUptoRow, standIns := [], harness := (true, "f25cbacdc898a4537643c02f4190e275e211be761ce65e56b22e70fed7925d6b"), looks := true }, kinds := [], alts := [], laidByText := true, laidKinds := [.data, .data, .data, .data, .sentinel, .sentinel, .pinned], laidTests := true, laidLooks := .later }
def OfficeMergesUptoCardSaid : Prop := Claim7.holds Tryz.pinned (.plain (OpenSpec.upto officeMergesSpec)) officeMergesUptoCard

/-- THE SECOND FORM's CARD OF 'cruxlaw10.OfficeSynced'. -/
def officeSyncedUptoCard : Claim7 := { stood := { row := officeSyncedUptoRow, standIns := [], harness := (true, "f25cbacdc898a4537643c02f4190e275e211be761ce65e56b22e70fed7925d6b"), looks := true }, kinds := [], alts := [], laidByText := true, laidKinds := [.data, .data, .data, .data, .sentinel, .sentinel, .pinned], laidTests := true, laidLooks := .later }
def OfficeSyncedUptoCardSaid : Prop := Claim7.holds Tryz.pinned (.plain (OpenSpec.upto officeSyncedSpec)) officeSyncedUptoCard
end Rows
end Go.Proofs.YtnihclhhbegjhaaGreatDoor
