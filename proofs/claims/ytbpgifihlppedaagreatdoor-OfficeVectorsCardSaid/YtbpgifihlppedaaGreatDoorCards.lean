/-
  DERIVED. GIVEN WITH THE SEED: THE CARDS: each row of YtbpgifihlppedaaGreatDoorRows.lean that lists a variable, with what it lists TIED to the program's text (the seventh form; the later family's looks); each row that meets fmt, with fmt's text TOLD by the authors' own Lean function (tested against real Go, not proved from fmt's source: count such statements apart). THE CARD IS WHAT COUNTS. Prove the row's statement (the work); the ties are given (YtbpgifihlppedaaGreatDoorTie.lean); close each card by the builder's one call (the guide's Derived/Test/ToyasCard.lean, 'card_holds'). Laid BY PROGRAM, IN A SANDBOX (cutbox-door.mjs). By AI agents, Wed Nov 11 2026. No macro, syntax, notation, axiom, sorry.
-/
import Derived.Test.YtbpgifihlppedaaGreatDoorRows
import GoSem.ClaimSeven
namespace Go.Proofs.YtbpgifihlppedaaGreatDoor
namespace Rows

/-- THE TIED CARD OF 'cruxlaw10.OfficeArchives'. -/
def officeArchivesCard : Claim7 := { stood := { row := officeArchivesRow, standIns := [], harness := (true, "7005e5d97418984edc7e2b0b7a26ab6d6d3ab7c3a59518be09f8be36553ffee6"), looks := true }, kinds := [], alts := [], laidByText := true, laidKinds := [.data, .data, .data, .data, .sentinel, .sentinel, .pinned], laidTests := true, laidLooks := .later }
def OfficeArchivesCardSaid : Prop := Claim7.holds Tryz.pinned (.plain (OpenSpec.ofChange officeArchivesSpec)) officeArchivesCard

/-- THE TIED CARD OF 'cruxlaw10.OfficeShows'. -/
def officeShowsCard : Claim7 := { stood := { row := officeShowsRow, standIns := [], harness := (true, "7005e5d97418984edc7e2b0b7a26ab6d6d3ab7c3a59518be09f8be36553ffee6"), looks := true }, kinds := [], alts := [], laidByText := true, laidKinds := [.data, .data, .data, .data, .sentinel, .sentinel, .pinned], laidTests := true, laidLooks := .later }
def OfficeShowsCardSaid : Prop := Claim7.holds Tryz.pinned (.plain (OpenSpec.ofChange officeShowsSpec)) officeShowsCard

/-- THE TIED CARD OF 'cruxlaw10.OfficeVectors'. -/
def officeVectorsCard : Claim7 := { stood := { row := officeVectorsRow, standIns := [], harness := (true, "7005e5d97418984edc7e2b0b7a26ab6d6d3ab7c3a59518be09f8be36553ffee6"), looks := true }, kinds := [], alts := [], laidByText := true, laidKinds := [.data, .data, .data, .data, .sentinel, .sentinel, .pinned], laidTests := true, laidLooks := .later }
def OfficeVectorsCardSaid : Prop := Claim7.holds Tryz.pinned (.plain (OpenSpec.ofChange officeVectorsSpec)) officeVectorsCard

/-- THE SECOND FORM's CARD OF 'cruxlaw10.OfficeArchives'. -/
def officeArchivesUptoCard : Claim7 := { stood := { row := officeArchivesUptoRow, standIns := [], harness := (true, "7005e5d97418984edc7e2b0b7a26ab6d6d3ab7c3a59518be09f8be36553ffee6"), looks := true }, kinds := [], alts := [], laidByText := true, laidKinds := [.data, .data, .data, .data, .sentinel, .sentinel, .pinned], laidTests := true, laidLooks := .later }
def OfficeArchivesUptoCardSaid : Prop := Claim7.holds Tryz.pinned (.plain (OpenSpec.upto officeArchivesSpec)) officeArchivesUptoCard

/-- THE SECOND FORM's CARD OF 'cruxlaw10.OfficeShows'. -/
def officeShowsUptoCard : Claim7 := { stood := { row := officeShowsUptoRow, standIns := [], harness := (true, "7005e5d97418984edc7e2b0b7a26ab6d6d3ab7c3a59518be09f8be36553ffee6"), looks := true }, kinds := [], alts := [], laidByText := true, laidKinds := [.data, .data, .data, .data, .sentinel, .sentinel, .pinned], laidTests := true, laidLooks := .later }
def OfficeShowsUptoCardSaid : Prop := Claim7.holds Tryz.pinned (.plain (OpenSpec.upto officeShowsSpec)) officeShowsUptoCard

/-- THE SECOND FORM's CARD OF 'cruxlaw10.OfficeVectors'. -/
def officeVectorsUptoCard : Claim7 := { stood := { row := officeVectorsUptoRow, standIns := [], harness := (true, "7005e5d97418984edc7e2b0b7a26ab6d6d3ab7c3a59518be09f8be36553ffee6"), looks := true }, kinds := [], alts := [], laidByText := true, laidKinds := [.data, .data, .data, .data, .sentinel, .sentinel, .pinned], laidTests := true, laidLooks := .later }
def OfficeVectorsUptoCardSaid : Prop := Claim7.holds Tryz.pinned (.plain (OpenSpec.upto officeVectorsSpec)) officeVectorsUptoCard
end Rows
end Go.Proofs.YtbpgifihlppedaaGreatDoor
