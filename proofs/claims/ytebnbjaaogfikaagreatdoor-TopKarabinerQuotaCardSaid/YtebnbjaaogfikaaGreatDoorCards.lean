/-
  DERIVED. GIVEN WITH THE SEED: THE CARDS: each row of YtebnbjaaogfikaaGreatDoorRows.lean that lists a variable, with what it lists TIED to the program's text (the seventh form; the later family's looks); each row that meets fmt, with fmt's text TOLD by the authors' own Lean function (tested against real Go, not proved from fmt's source: count such statements apart). THE CARD IS WHAT COUNTS. Prove the row's statement (the work); the ties are given (YtebnbjaaogfikaaGreatDoorTie.lean); close each card by the builder's one call (the guide's Derived/Test/ToyasCard.lean, 'card_holds'). Laid BY PROGRAM, IN A SANDBOX (cutbox-door.mjs). By AI agents, Wed Nov 11 2026. No macro, syntax, notation, axiom, sorry.
-/
import Derived.Test.YtebnbjaaogfikaaGreatDoorRows
import GoSem.ClaimSeven
namespace Go.Proofs.YtebnbjaaogfikaaGreatDoor
namespace Rows

/-- THE TIED CARD OF 'cruxtop.TopKarabinerQuota'. -/
def topKarabinerQuotaCard : Claim7 := { stood := { row := topKarabinerQuotaRow, standIns := [], harness := (true, "89ada9c30a960e03f06c7e7b27ddaf094285522e6346f484f7059f1785ca8702"), looks := false }, kinds := [], alts := [], laidByText := true, laidKinds := [.data], laidTests := true, laidLooks := .later }
def TopKarabinerQuotaCardSaid : Prop := Claim7.holds Tryz.pinned (.plain (OpenSpec.ofChange topKarabinerQuotaSpec)) topKarabinerQuotaCard

/-- THE SECOND FORM's CARD OF 'cruxtop.TopKarabinerQuota'. -/
def topKarabinerQuotaUptoCard : Claim7 := { stood := { row := topKarabinerQuotaUptoRow, standIns := [], harness := (true, "89ada9c30a960e03f06c7e7b27ddaf094285522e6346f484f7059f1785ca8702"), looks := false }, kinds := [], alts := [], laidByText := true, laidKinds := [.data], laidTests := true, laidLooks := .later }
def TopKarabinerQuotaUptoCardSaid : Prop := Claim7.holds Tryz.pinned (.plain (OpenSpec.upto topKarabinerQuotaSpec)) topKarabinerQuotaUptoCard
end Rows
end Go.Proofs.YtebnbjaaogfikaaGreatDoor
