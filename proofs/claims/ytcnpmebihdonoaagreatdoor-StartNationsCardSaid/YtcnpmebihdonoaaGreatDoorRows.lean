/-
  NARROWER THAN 'FOR EVERY INPUT', by the rows' own cells (each row's printed sentence says how): StartNations: laid · StartSpreads: laid.
  DERIVED. THE GIVEN ROWS OF THIS SEAT. 2 by the template 'for every input the law returns true; each argument reads behind the call as it read before'; 0 by the template 'total and deterministic' (their statements: YtcnpmebihdonoaaGreatDoorTotals.lean).
  GIVEN WITH THE SEED: the statements are not yours to turn. If you find one false, say at which input.
  Laid BY PROGRAM, IN A SANDBOX (cutbox-rows.mjs): the forced cells as the released guide's own fill.sh prints them over the translation ada53f3823a1c458… (all of the seat's roots in one cut). By AI agents, Wed Nov 11 2026. No macro, syntax, notation, axiom, sorry.
-/
import Derived.Test.YtcnpmebihdonoaaGreatDoorChecked
import GoSem.Claim
import GoSem.ClaimJoined
import GoSem.ClaimMapViews
import Derived.JoinedTies
import Derived.KernelRfl
namespace Go.Proofs.YtcnpmebihdonoaaGreatDoor
/- THE CELL 'sum', in the pinned program and in every row, IS THE sha256 OF THE DUMP (.gsa) THAT YtcnpmebihdonoaaGreatDoorProg.lean LOADS. Nothing in Lean hashes anything: it is a label: what it is worth is what the hold of that sum in a sandbox is worth. -/
noncomputable def Tryz.pinned : Pinned := { name := "ytcnpmebihdonoaagreatdoor", sum := "ada53f3823a1c45876a670f8461738fa600abbb860835189581e74f5a1959a2d", checked := Tryz.checked }
namespace Rows
def none {H : Type} : Left H := { results := [], args := [] }

/- WHAT THE LISTED PACKAGE-LEVEL VARIABLES READ AS WHEN THE CALL BEGINS. Each datum BY PROGRAM (the guide's laid-datum.mjs) off the statement by which the dump's own 'gosem.cut.vars' lays the variable. In a bare row this is a premise. The card (YtcnpmebihdonoaaGreatDoorCards.lean) ties it to the program's text. -/
def laid_crux_start_beaten {H : Type} : DataW H := .agg [.lit (.int .i64 0), .lit (.int .i64 2), .lit (.int .i64 1), .lit (.int .i64 0)]

/-- 'cruxlaw06.StartNations': WHATEVER THE INPUT: true; the input reads as it did. -/
def startNationsSpec : ChangeSpec := { name := "startNations", fn := fun _ => fun
  | [d1, d2] => { results := [.lit (.bool true)], args := [d1, d2] }
  | _ => none }
def startNationsRow : OpenClaim := { program := "ytcnpmebihdonoaagreatdoor", sum := "ada53f3823a1c45876a670f8461738fa600abbb860835189581e74f5a1959a2d", func := "crux/cruxlaw06.StartNations", spec := "startNations", unfollowed := true, recurses := true, named := ["crux/start.beaten"], apart := false, laid := [("crux/start.beaten", laid_crux_start_beaten)] }
def StartNationsSaid : Prop := startNationsRow.holds Tryz.pinned (OpenSpec.ofChange startNationsSpec)

/-- ITS FALSE NEIGHBOUR: 'it returns false'. Refute it at one input. -/
def startNationsWrong : ChangeSpec := { name := "startNations", fn := fun _ => fun
  | [d1, d2] => { results := [.lit (.bool false)], args := [d1, d2] }
  | _ => none }
def StartNationsWrongFalsely : Prop := startNationsRow.holds Tryz.pinned (OpenSpec.ofChange startNationsWrong)

/-- 'cruxlaw06.StartSpreads': WHATEVER THE INPUT: true; the input reads as it did. -/
def startSpreadsSpec : ChangeSpec := { name := "startSpreads", fn := fun _ => fun
  | [d1, d2, d3] => { results := [.lit (.bool true)], args := [d1, d2, d3] }
  | _ => none }
def startSpreadsRow : OpenClaim := { program := "ytcnpmebihdonoaagreatdoor", sum := "ada53f3823a1c45876a670f8461738fa600abbb860835189581e74f5a1959a2d", func := "crux/cruxlaw06.StartSpreads", spec := "startSpreads", unfollowed := true, recurses := true, named := ["crux/start.beaten"], apart := false, laid := [("crux/start.beaten", laid_crux_start_beaten)] }
def StartSpreadsSaid : Prop := startSpreadsRow.holds Tryz.pinned (OpenSpec.ofChange startSpreadsSpec)

/-- ITS FALSE NEIGHBOUR: 'it returns false'. Refute it at one input. -/
def startSpreadsWrong : ChangeSpec := { name := "startSpreads", fn := fun _ => fun
  | [d1, d2, d3] => { results := [.lit (.bool false)], args := [d1, d2, d3] }
  | _ => none }
def StartSpreadsWrongFalsely : Prop := startSpreadsRow.holds Tryz.pinned (OpenSpec.ofChange startSpreadsWrong)

/- THE SECOND FORM. 'bulk': how many values and letters a reading holds, each counted each time it is reached (what is shared counts as often as it is met; a slice's spare places count too). A statement '..UptoSaid' is the law's where the arguments, and the package variables that the reading takes, are together of bulk at most 1048576: NARROWER than '..Said'. Prove '..Said' where nothing that the law and all that it calls make is longer than what came in: it says more and counts as full. Else prove '..UptoSaid'. A law counts once. -/
mutual
def uptoBulk {H : Type} : DataW H → Nat
  | .lit (.string bytes) => bytes.length + 1
  | .lit _ => 1
  | .nil => 1
  | .ptr d => uptoBulk d + 1
  | .slice elems spare => uptoBulkAll elems + uptoBulkAll spare + 1
  | .agg parts => uptoBulkAll parts + 1
  | .iface _ d => uptoBulk d + 1
  | .map entries => uptoBulkEntries entries + 1
  | .held _ => 1
def uptoBulkAll {H : Type} : List (DataW H) → Nat
  | [] => 0
  | d :: r => uptoBulk d + uptoBulkAll r
def uptoBulkEntries {H : Type} : List (Lit × DataW H) → Nat
  | [] => 0
  | x :: r => uptoBulkEntry x + uptoBulkEntries r
def uptoBulkEntry {H : Type} : Lit × DataW H → Nat
  | (.string bytes, d) => bytes.length + uptoBulk d + 1
  | (_, d) => uptoBulk d + 1
 end
def uptoSmall : (H : Type) → List (DataW H) → Bool := fun _ ds => decide (uptoBulkAll ds ≤ 1048576)
def OpenSpec.upto (s : _root_.Go.ChangeSpec) : _root_.Go.OpenSpec := { _root_.Go.OpenSpec.ofChange s with cond := some uptoSmall }

/-- 'cruxlaw06.StartNations', WHERE WHAT IT READS IS OF BULK AT MOST 1048576: true; the input reads as it did. -/
def startNationsUptoRow : OpenClaim := { program := "ytcnpmebihdonoaagreatdoor", sum := "ada53f3823a1c45876a670f8461738fa600abbb860835189581e74f5a1959a2d", func := "crux/cruxlaw06.StartNations", spec := "startNations", unfollowed := true, recurses := true, named := ["crux/start.beaten"], apart := false, laid := [("crux/start.beaten", laid_crux_start_beaten)], narrowed := true }
def StartNationsUptoSaid : Prop := startNationsUptoRow.holds Tryz.pinned (OpenSpec.upto startNationsSpec)

/-- 'cruxlaw06.StartSpreads', WHERE WHAT IT READS IS OF BULK AT MOST 1048576: true; the input reads as it did. -/
def startSpreadsUptoRow : OpenClaim := { program := "ytcnpmebihdonoaagreatdoor", sum := "ada53f3823a1c45876a670f8461738fa600abbb860835189581e74f5a1959a2d", func := "crux/cruxlaw06.StartSpreads", spec := "startSpreads", unfollowed := true, recurses := true, named := ["crux/start.beaten"], apart := false, laid := [("crux/start.beaten", laid_crux_start_beaten)], narrowed := true }
def StartSpreadsUptoSaid : Prop := startSpreadsUptoRow.holds Tryz.pinned (OpenSpec.upto startSpreadsSpec)

end Rows
end Go.Proofs.YtcnpmebihdonoaaGreatDoor
