/-
  NARROWER THAN 'FOR EVERY INPUT', by the rows' own cells (each row's printed sentence says how): StartCalls: laid · StartDuels: laid.
  DERIVED. THE GIVEN ROWS OF THIS SEAT. 2 by the template 'for every input the law returns true; each argument reads behind the call as it read before'; 0 by the template 'total and deterministic' (their statements: YtdpdbgcdmpdaoaaGreatDoorTotals.lean).
  GIVEN WITH THE SEED: the statements are not yours to turn. If you find one false, say at which input.
  Laid BY PROGRAM, IN A SANDBOX (cutbox-rows.mjs): the forced cells as the released guide's own fill.sh prints them over the translation 1a0388c8a3ee4d87… (all of the seat's roots in one cut). By AI agents, Wed Nov 11 2026. No macro, syntax, notation, axiom, sorry.
-/
import Derived.Test.YtdpdbgcdmpdaoaaGreatDoorChecked
import GoSem.Claim
import GoSem.ClaimJoined
import GoSem.ClaimMapViews
import Derived.JoinedTies
import Derived.KernelRfl
namespace Go.Proofs.YtdpdbgcdmpdaoaaGreatDoor
/- THE CELL 'sum', in the pinned program and in every row, IS THE sha256 OF THE DUMP (.gsa) THAT YtdpdbgcdmpdaoaaGreatDoorProg.lean LOADS. Nothing in Lean hashes anything: it is a label: what it is worth is what the hold of that sum in a sandbox is worth. -/
noncomputable def Tryz.pinned : Pinned := { name := "ytdpdbgcdmpdaoaagreatdoor", sum := "1a0388c8a3ee4d87c1841ccbda759b56f303bb3f1e0ba304ce015d1883d44f1e", checked := Tryz.checked }
namespace Rows
def none {H : Type} : Left H := { results := [], args := [] }

/- WHAT THE LISTED PACKAGE-LEVEL VARIABLES READ AS WHEN THE CALL BEGINS. Each datum BY PROGRAM (the guide's laid-datum.mjs) off the statement by which the dump's own 'gosem.cut.vars' lays the variable. In a bare row this is a premise. The card (YtdpdbgcdmpdaoaaGreatDoorCards.lean) ties it to the program's text. -/
def laid_crux_start_beaten {H : Type} : DataW H := .agg [.lit (.int .i64 0), .lit (.int .i64 2), .lit (.int .i64 1), .lit (.int .i64 0)]

/-- 'cruxlaw06.StartCalls': WHATEVER THE INPUT: true; the input reads as it did. -/
def startCallsSpec : ChangeSpec := { name := "startCalls", fn := fun _ => fun
  | [d1, d2] => { results := [.lit (.bool true)], args := [d1, d2] }
  | _ => none }
def startCallsRow : OpenClaim := { program := "ytdpdbgcdmpdaoaagreatdoor", sum := "1a0388c8a3ee4d87c1841ccbda759b56f303bb3f1e0ba304ce015d1883d44f1e", func := "crux/cruxlaw06.StartCalls", spec := "startCalls", unfollowed := true, recurses := true, named := ["crux/start.beaten"], apart := false, laid := [("crux/start.beaten", laid_crux_start_beaten)] }
def StartCallsSaid : Prop := startCallsRow.holds Tryz.pinned (OpenSpec.ofChange startCallsSpec)

/-- ITS FALSE NEIGHBOUR: 'it returns false'. Refute it at one input. -/
def startCallsWrong : ChangeSpec := { name := "startCalls", fn := fun _ => fun
  | [d1, d2] => { results := [.lit (.bool false)], args := [d1, d2] }
  | _ => none }
def StartCallsWrongFalsely : Prop := startCallsRow.holds Tryz.pinned (OpenSpec.ofChange startCallsWrong)

/-- 'cruxlaw06.StartDuels': WHATEVER THE INPUT: true; the input reads as it did. -/
def startDuelsSpec : ChangeSpec := { name := "startDuels", fn := fun _ => fun
  | [d1, d2, d3] => { results := [.lit (.bool true)], args := [d1, d2, d3] }
  | _ => none }
def startDuelsRow : OpenClaim := { program := "ytdpdbgcdmpdaoaagreatdoor", sum := "1a0388c8a3ee4d87c1841ccbda759b56f303bb3f1e0ba304ce015d1883d44f1e", func := "crux/cruxlaw06.StartDuels", spec := "startDuels", unfollowed := true, recurses := true, named := ["crux/start.beaten"], apart := false, laid := [("crux/start.beaten", laid_crux_start_beaten)] }
def StartDuelsSaid : Prop := startDuelsRow.holds Tryz.pinned (OpenSpec.ofChange startDuelsSpec)

/-- ITS FALSE NEIGHBOUR: 'it returns false'. Refute it at one input. -/
def startDuelsWrong : ChangeSpec := { name := "startDuels", fn := fun _ => fun
  | [d1, d2, d3] => { results := [.lit (.bool false)], args := [d1, d2, d3] }
  | _ => none }
def StartDuelsWrongFalsely : Prop := startDuelsRow.holds Tryz.pinned (OpenSpec.ofChange startDuelsWrong)

/- THE SECOND FORM. 'bulk': how many values and letters a reading holds, each counted each time it is reached (what is shared counts as often as it is met; a slice's spare places count too). A statement '..UptoSaid' is the law's where the arguments, and the package variables that the reading takes, are together of bulk at most 1048576: NARROWER than '..Said'. Prove '..Said' where nothing that the law and all that it calls make is longer than what came in: it says more and counts as full. Else prove '..UptoSaid'. A law counts once. -/
mutual
def uptoBulk {H : Type} : DataW H → Nat
  | .lit (.string bytes) => bytes.length + 1
  | .lit _ => 1
  | .nil => 1
  | .ptr d => uptoBulk d + 1
  | .slice elems spare => uptoBulkAll elems + uptoBulkAll spare + 1
  | .agg parts => uptoBulkAll parts + 1
  | .iface _ d => uptoBulk d + 1
  | .map entries => uptoBulkEntries entries + 1
  | .held _ => 1
def uptoBulkAll {H : Type} : List (DataW H) → Nat
  | [] => 0
  | d :: r => uptoBulk d + uptoBulkAll r
def uptoBulkEntries {H : Type} : List (Lit × DataW H) → Nat
  | [] => 0
  | x :: r => uptoBulkEntry x + uptoBulkEntries r
def uptoBulkEntry {H : Type} : Lit × DataW H → Nat
  | (.string bytes, d) => bytes.length + uptoBulk d + 1
  | (_, d) => uptoBulk d + 1
 end
def uptoSmall : (H : Type) → List (DataW H) → Bool := fun _ ds => decide (uptoBulkAll ds ≤ 1048576)
def OpenSpec.upto (s : _root_.Go.ChangeSpec) : _root_.Go.OpenSpec := { _root_.Go.OpenSpec.ofChange s with cond := some uptoSmall }

/-- 'cruxlaw06.StartCalls', WHERE WHAT IT READS IS OF BULK AT MOST 1048576: true; the input reads as it did. -/
def startCallsUptoRow : OpenClaim := { program := "ytdpdbgcdmpdaoaagreatdoor", sum := "1a0388c8a3ee4d87c1841ccbda759b56f303bb3f1e0ba304ce015d1883d44f1e", func := "crux/cruxlaw06.StartCalls", spec := "startCalls", unfollowed := true, recurses := true, named := ["crux/start.beaten"], apart := false, laid := [("crux/start.beaten", laid_crux_start_beaten)], narrowed := true }
def StartCallsUptoSaid : Prop := startCallsUptoRow.holds Tryz.pinned (OpenSpec.upto startCallsSpec)

/-- 'cruxlaw06.StartDuels', WHERE WHAT IT READS IS OF BULK AT MOST 1048576: true; the input reads as it did. -/
def startDuelsUptoRow : OpenClaim := { program := "ytdpdbgcdmpdaoaagreatdoor", sum := "1a0388c8a3ee4d87c1841ccbda759b56f303bb3f1e0ba304ce015d1883d44f1e", func := "crux/cruxlaw06.StartDuels", spec := "startDuels", unfollowed := true, recurses := true, named := ["crux/start.beaten"], apart := false, laid := [("crux/start.beaten", laid_crux_start_beaten)], narrowed := true }
def StartDuelsUptoSaid : Prop := startDuelsUptoRow.holds Tryz.pinned (OpenSpec.upto startDuelsSpec)

end Rows
end Go.Proofs.YtdpdbgcdmpdaoaaGreatDoor
