/-
  DERIVED. GIVEN WITH THE SEED: THE CARDS: each row of YtjkiidkacpffnaaGreatDoorRows.lean that lists a variable, with what it lists TIED to the program's text (the seventh form; the later family's looks); each row that meets fmt, with fmt's text TOLD by the authors' own Lean function (tested against real Go, not proved from fmt's source: count such statements apart). THE CARD IS WHAT COUNTS. Prove the row's statement (the work); the ties are given (YtjkiidkacpffnaaGreatDoorTie.lean); close each card by the builder's one call (the guide's Derived/Test/ToyasCard.lean, 'card_holds'). Laid BY PROGRAM, IN A SANDBOX (cutbox-door.mjs). By AI agents, Wed Nov 11 2026. No macro, syntax, notation, axiom, sorry.
-/
import Derived.Test.YtjkiidkacpffnaaGreatDoorRows
import GoSem.ClaimSeven
namespace Go.Proofs.YtjkiidkacpffnaaGreatDoor
namespace Rows

/-- THE TIED CARD OF 'cruxlaw10.OfficeSheets'. -/
def officeSheetsCard : Claim7 := { stood := { row := officeSheetsRow, standIns := [], harness := (true, "03bb7edd6a4494958194d1e44f79b36d8b078bb2e024ff4e0165fd781fe9f088"), looks := true }, kinds := [], alts := [], laidByText := true, laidKinds := [.data, .data, .data, .data, .sentinel, .sentinel, .pinned], laidTests := true, laidLooks := .later }
def OfficeSheetsCardSaid : Prop := Claim7.holds Tryz.pinned (.plain (OpenSpec.ofChange officeSheetsSpec)) officeSheetsCard

/-- THE TIED CARD OF 'cruxlaw10.OfficeOrders'. -/
def officeOrdersCard : Claim7 := { stood := { row := officeOrdersRow, standIns := [], harness := (true, "03bb7edd6a4494958194d1e44f79b36d8b078bb2e024ff4e0165fd781fe9f088"), looks := true }, kinds := [], alts := [], laidByText := true, laidKinds := [.data, .data, .data, .data, .sentinel, .sentinel, .pinned], laidTests := true, laidLooks := .later }
def OfficeOrdersCardSaid : Prop := Claim7.holds Tryz.pinned (.plain (OpenSpec.ofChange officeOrdersSpec)) officeOrdersCard

/-- THE SECOND FORM's CARD OF 'cruxlaw10.OfficeSheets'. -/
def officeSheetsUptoCard : Claim7 := { stood := { row := officeSheetsUptoRow, standIns := [], harness := (true, "03bb7edd6a4494958194d1e44f79b36d8b078bb2e024ff4e0165fd781fe9f088"), looks := true }, kinds := [], alts := [], laidByText := true, laidKinds := [.data, .data, .data, .data, .sentinel, .sentinel, .pinned], laidTests := true, laidLooks := .later }
def OfficeSheetsUptoCardSaid : Prop := Claim7.holds Tryz.pinned (.plain (OpenSpec.upto officeSheetsSpec)) officeSheetsUptoCard

/-- THE SECOND FORM's CARD OF 'cruxlaw10.OfficeOrders'. -/
def officeOrdersUptoCard : Claim7 := { stood := { row := officeOrdersUptoRow, standIns := [], harness := (true, "03bb7edd6a4494958194d1e44f79b36d8b078bb2e024ff4e0165fd781fe9f088"), looks := true }, kinds := [], alts := [], laidByText := true, laidKinds := [.data, .data, .data, .data, .sentinel, .sentinel, .pinned], laidTests := true, laidLooks := .later }
def OfficeOrdersUptoCardSaid : Prop := Claim7.holds Tryz.pinned (.plain (OpenSpec.upto officeOrdersSpec)) officeOrdersUptoCard
end Rows
end Go.Proofs.YtjkiidkacpffnaaGreatDoor
