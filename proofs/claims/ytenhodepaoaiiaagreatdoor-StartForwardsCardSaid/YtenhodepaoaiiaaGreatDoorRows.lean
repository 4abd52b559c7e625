/-
  NARROWER THAN 'FOR EVERY INPUT', by the rows' own cells (each row's printed sentence says how): StartForwards: laid · StartGoes: laid.
  DERIVED. THE GIVEN ROWS OF THIS SEAT. 2 by the template 'for every input the law returns true; each argument reads behind the call as it read before'; 0 by the template 'total and deterministic' (their statements: YtenhodepaoaiiaaGreatDoorTotals.lean).
  GIVEN WITH THE SEED: the statements are not yours to turn. If you find one false, say at which input.
  Laid BY PROGRAM, IN A SANDBOX (cutbox-rows.mjs): the forced cells as the released guide's own fill.sh prints them over the translation abb449b1a65a2f28… (all of the seat's roots in one cut). By AI agents, Wed Nov 11 2026. No macro, syntax, notation, axiom, sorry.
-/
import Derived.Test.YtenhodepaoaiiaaGreatDoorChecked
import GoSem.Claim
import GoSem.ClaimJoined
import GoSem.ClaimMapViews
import Derived.JoinedTies
import Derived.KernelRfl
namespace Go.Proofs.YtenhodepaoaiiaaGreatDoor
/- THE CELL 'sum', in the pinned program and in every row, IS THE sha256 OF THE DUMP (.gsa) THAT YtenhodepaoaiiaaGreatDoorProg.lean LOADS. Nothing in Lean hashes anything: it is a label: what it is worth is what the hold of that sum in a sandbox is worth. -/
noncomputable def Tryz.pinned : Pinned := { name := "ytenhodepaoaiiaagreatdoor", sum := "abb449b1a65a2f281bf128e371b6cd9b87deb7d5af12687f122bf3ee54349d8d", checked := Tryz.checked }
namespace Rows
def none {H : Type} : Left H := { results := [], args := [] }

/- WHAT THE LISTED PACKAGE-LEVEL VARIABLES READ AS WHEN THE CALL BEGINS. Each datum BY PROGRAM (the guide's laid-datum.mjs) off the statement by which the dump's own 'gosem.cut.vars' lays the variable. In a bare row this is a premise. The card (YtenhodepaoaiiaaGreatDoorCards.lean) ties it to the program's text. -/
def laid_crux_start_beaten {H : Type} : DataW H := .agg [.lit (.int .i64 0), .lit (.int .i64 2), .lit (.int .i64 1), .lit (.int .i64 0)]

/-- 'cruxlaw06.StartForwards': WHATEVER THE INPUT: true; the input reads as it did. -/
def startForwardsSpec : ChangeSpec := { name := "startForwards", fn := fun _ => fun
  | [d1, d2, d3] => { results := [.lit (.bool true)], args := [d1, d2, d3] }
  | _ => none }
def startForwardsRow : OpenClaim := { program := "ytenhodepaoaiiaagreatdoor", sum := "abb449b1a65a2f281bf128e371b6cd9b87deb7d5af12687f122bf3ee54349d8d", func := "crux/cruxlaw06.StartForwards", spec := "startForwards", unfollowed := true, recurses := true, named := ["crux/start.beaten"], apart := false, laid := [("crux/start.beaten", laid_crux_start_beaten)] }
def StartForwardsSaid : Prop := startForwardsRow.holds Tryz.pinned (OpenSpec.ofChange startForwardsSpec)

/-- ITS FALSE NEIGHBOUR: 'it returns false'. Refute it at one input. -/
def startForwardsWrong : ChangeSpec := { name := "startForwards", fn := fun _ => fun
  | [d1, d2, d3] => { results := [.lit (.bool false)], args := [d1, d2, d3] }
  | _ => none }
def StartForwardsWrongFalsely : Prop := startForwardsRow.holds Tryz.pinned (OpenSpec.ofChange startForwardsWrong)

/-- 'cruxlaw06.StartGoes': WHATEVER THE INPUT: true; the input reads as it did. -/
def startGoesSpec : ChangeSpec := { name := "startGoes", fn := fun _ => fun
  | [d1, d2, d3] => { results := [.lit (.bool true)], args := [d1, d2, d3] }
  | _ => none }
def startGoesRow : OpenClaim := { program := "ytenhodepaoaiiaagreatdoor", sum := "abb449b1a65a2f281bf128e371b6cd9b87deb7d5af12687f122bf3ee54349d8d", func := "crux/cruxlaw06.StartGoes", spec := "startGoes", unfollowed := true, recurses := true, named := ["crux/start.beaten"], apart := false, laid := [("crux/start.beaten", laid_crux_start_beaten)] }
def StartGoesSaid : Prop := startGoesRow.holds Tryz.pinned (OpenSpec.ofChange startGoesSpec)

/-- ITS FALSE NEIGHBOUR: 'it returns false'. Refute it at one input. -/
def startGoesWrong : ChangeSpec := { name := "startGoes", fn := fun _ => fun
  | [d1, d2, d3] => { results := [.lit (.bool false)], args := [d1, d2, d3] }
  | _ => none }
def StartGoesWrongFalsely : Prop := startGoesRow.holds Tryz.pinned (OpenSpec.ofChange startGoesWrong)

/- THE SECOND FORM. 'bulk': how many values and letters a reading holds, each counted each time it is reached (what is shared counts as often as it is met; a slice's spare places count too). A statement '..UptoSaid' is the law's where the arguments, and the package variables that the reading takes, are together of bulk at most 1048576: NARROWER than '..Said'. Prove '..Said' where nothing that the law and all that it calls make is longer than what came in: it says more and counts as full. Else prove '..UptoSaid'. A law counts once. -/
mutual
def uptoBulk {H : Type} : DataW H → Nat
  | .lit (.string bytes) => bytes.length + 1
  | .lit _ => 1
  | .nil => 1
  | .ptr d => uptoBulk d + 1
  | .slice elems spare => uptoBulkAll elems + uptoBulkAll spare + 1
  | .agg parts => uptoBulkAll parts + 1
  | .iface _ d => uptoBulk d + 1
  | .map entries => uptoBulkEntries entries + 1
  | .held _ => 1
def uptoBulkAll {H : Type} : List (DataW H) → Nat
  | [] => 0
  | d :: r => uptoBulk d + uptoBulkAll r
def uptoBulkEntries {H : Type} : List (Lit × DataW H) → Nat
  | [] => 0
  | x :: r => uptoBulkEntry x + uptoBulkEntries r
def uptoBulkEntry {H : Type} : Lit × DataW H → Nat
  | (.string bytes, d) => bytes.length + uptoBulk d + 1
  | (_, d) => uptoBulk d + 1
 end
def uptoSmall : (H : Type) → List (DataW H) → Bool := fun _ ds => decide (uptoBulkAll ds ≤ 1048576)
def OpenSpec.upto (s : _root_.Go.ChangeSpec) : _root_.Go.OpenSpec := { _root_.Go.OpenSpec.ofChange s with cond := some uptoSmall }

/-- 'cruxlaw06.StartForwards', WHERE WHAT IT READS IS OF BULK AT MOST 1048576: true; the input reads as it did. -/
def startForwardsUptoRow : OpenClaim := { program := "ytenhodepaoaiiaagreatdoor", sum := "abb449b1a65a2f281bf128e371b6cd9b87deb7d5af12687f122bf3ee54349d8d", func := "crux/cruxlaw06.StartForwards", spec := "startForwards", unfollowed := true, recurses := true, named := ["crux/start.beaten"], apart := false, laid := [("crux/start.beaten", laid_crux_start_beaten)], narrowed := true }
def StartForwardsUptoSaid : Prop := startForwardsUptoRow.holds Tryz.pinned (OpenSpec.upto startForwardsSpec)

/-- 'cruxlaw06.StartGoes', WHERE WHAT IT READS IS OF BULK AT MOST 1048576: true; the input reads as it did. -/
def startGoesUptoRow : OpenClaim := { program := "ytenhodepaoaiiaagreatdoor", sum := "abb449b1a65a2f281bf128e371b6cd9b87deb7d5af12687f122bf3ee54349d8d", func := "crux/cruxlaw06.StartGoes", spec := "startGoes", unfollowed := true, recurses := true, named := ["crux/start.beaten"], apart := false, laid := [("crux/start.beaten", laid_crux_start_beaten)], narrowed := true }
def StartGoesUptoSaid : Prop := startGoesUptoRow.holds Tryz.pinned (OpenSpec.upto startGoesSpec)

end Rows
end Go.Proofs.YtenhodepaoaiiaaGreatDoor
