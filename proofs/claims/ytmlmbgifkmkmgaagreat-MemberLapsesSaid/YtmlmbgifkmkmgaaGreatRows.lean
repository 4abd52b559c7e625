/-
  No cell of these rows narrows 'for every input' (looked for: loops, veiled, ifaces, maps, wideKeys, modest, calm, conditions, laid).
  DERIVED. THE GIVEN ROWS OF THIS SEAT. 4 by the template 'for every input the law returns true; each argument reads behind the call as it read before'; 0 by the template 'total and deterministic' (their statements: YtmlmbgifkmkmgaaGreatTotals.lean).
  GIVEN WITH THE SEED: the statements are not yours to turn. If you find one false, say at which input.
  Laid BY PROGRAM, IN A SANDBOX (cutbox-rows.mjs): the forced cells as the released guide's own fill.sh prints them over the translation 61447f7c8d2e27ce… (all of the seat's roots in one cut). By AI agents, Wed Nov 11 2026. No macro, syntax, notation, axiom, sorry.
-/
import Derived.Test.YtmlmbgifkmkmgaaGreatChecked
import GoSem.Claim
import GoSem.ClaimJoined
import GoSem.ClaimMapViews
import Derived.JoinedTies
import Derived.KernelRfl
namespace Go.Proofs.YtmlmbgifkmkmgaaGreat
/- THE CELL 'sum', in the pinned program and in every row, IS THE sha256 OF THE DUMP (.gsa) THAT YtmlmbgifkmkmgaaGreatProg.lean LOADS. Nothing in Lean hashes anything: it is a label: what it is worth is what the hold of that sum in a sandbox is worth. -/
noncomputable def Tryz.pinned : Pinned := { name := "ytmlmbgifkmkmgaagreat", sum := "61447f7c8d2e27cee2d0a669590ffd2427ea40f5b56d018e3377c54bbd4ff272", checked := Tryz.checked }
namespace Rows
def none {H : Type} : Left H := { results := [], args := [] }

/-- 'cruxlaw09.MemberAges': WHATEVER THE INPUT: true; the input reads as it did. -/
def memberAgesSpec : ChangeSpec := { name := "memberAges", fn := fun _ => fun
  | [d1, d2, d3] => { results := [.lit (.bool true)], args := [d1, d2, d3] }
  | _ => none }
def memberAgesRow : OpenClaim := { program := "ytmlmbgifkmkmgaagreat", sum := "61447f7c8d2e27cee2d0a669590ffd2427ea40f5b56d018e3377c54bbd4ff272", func := "crux/cruxlaw09.MemberAges", spec := "memberAges", unfollowed := true, recurses := true, apart := false }
def MemberAgesSaid : Prop := memberAgesRow.holds Tryz.pinned (OpenSpec.ofChange memberAgesSpec)

/-- ITS FALSE NEIGHBOUR: 'it returns false'. Refute it at one input. -/
def memberAgesWrong : ChangeSpec := { name := "memberAges", fn := fun _ => fun
  | [d1, d2, d3] => { results := [.lit (.bool false)], args := [d1, d2, d3] }
  | _ => none }
def MemberAgesWrongFalsely : Prop := memberAgesRow.holds Tryz.pinned (OpenSpec.ofChange memberAgesWrong)

/-- 'cruxlaw09.MemberLicences': WHATEVER THE INPUT: true; the input reads as it did. -/
def memberLicencesSpec : ChangeSpec := { name := "memberLicences", fn := fun _ => fun
  | [d1, d2, d3] => { results := [.lit (.bool true)], args := [d1, d2, d3] }
  | _ => none }
def memberLicencesRow : OpenClaim := { program := "ytmlmbgifkmkmgaagreat", sum := "61447f7c8d2e27cee2d0a669590ffd2427ea40f5b56d018e3377c54bbd4ff272", func := "crux/cruxlaw09.MemberLicences", spec := "memberLicences", unfollowed := true, recurses := true, apart := false }
def MemberLicencesSaid : Prop := memberLicencesRow.holds Tryz.pinned (OpenSpec.ofChange memberLicencesSpec)

/-- ITS FALSE NEIGHBOUR: 'it returns false'. Refute it at one input. -/
def memberLicencesWrong : ChangeSpec := { name := "memberLicences", fn := fun _ => fun
  | [d1, d2, d3] => { results := [.lit (.bool false)], args := [d1, d2, d3] }
  | _ => none }
def MemberLicencesWrongFalsely : Prop := memberLicencesRow.holds Tryz.pinned (OpenSpec.ofChange memberLicencesWrong)

/-- 'cruxlaw09.MemberGaps': WHATEVER THE INPUT: true; the input reads as it did. -/
def memberGapsSpec : ChangeSpec := { name := "memberGaps", fn := fun _ => fun
  | [d1, d2, d3] => { results := [.lit (.bool true)], args := [d1, d2, d3] }
  | _ => none }
def memberGapsRow : OpenClaim := { program := "ytmlmbgifkmkmgaagreat", sum := "61447f7c8d2e27cee2d0a669590ffd2427ea40f5b56d018e3377c54bbd4ff272", func := "crux/cruxlaw09.MemberGaps", spec := "memberGaps", unfollowed := true, recurses := true, apart := false }
def MemberGapsSaid : Prop := memberGapsRow.holds Tryz.pinned (OpenSpec.ofChange memberGapsSpec)

/-- ITS FALSE NEIGHBOUR: 'it returns false'. Refute it at one input. -/
def memberGapsWrong : ChangeSpec := { name := "memberGaps", fn := fun _ => fun
  | [d1, d2, d3] => { results := [.lit (.bool false)], args := [d1, d2, d3] }
  | _ => none }
def MemberGapsWrongFalsely : Prop := memberGapsRow.holds Tryz.pinned (OpenSpec.ofChange memberGapsWrong)

/-- 'cruxlaw09.MemberLapses': WHATEVER THE INPUT: true; the input reads as it did. -/
def memberLapsesSpec : ChangeSpec := { name := "memberLapses", fn := fun _ => fun
  | [d1, d2, d3] => { results := [.lit (.bool true)], args := [d1, d2, d3] }
  | _ => none }
def memberLapsesRow : OpenClaim := { program := "ytmlmbgifkmkmgaagreat", sum := "61447f7c8d2e27cee2d0a669590ffd2427ea40f5b56d018e3377c54bbd4ff272", func := "crux/cruxlaw09.MemberLapses", spec := "memberLapses", unfollowed := true, recurses := true, apart := false }
def MemberLapsesSaid : Prop := memberLapsesRow.holds Tryz.pinned (OpenSpec.ofChange memberLapsesSpec)

/-- ITS FALSE NEIGHBOUR: 'it returns false'. Refute it at one input. -/
def memberLapsesWrong : ChangeSpec := { name := "memberLapses", fn := fun _ => fun
  | [d1, d2, d3] => { results := [.lit (.bool false)], args := [d1, d2, d3] }
  | _ => none }
def MemberLapsesWrongFalsely : Prop := memberLapsesRow.holds Tryz.pinned (OpenSpec.ofChange memberLapsesWrong)

/- THE SECOND FORM. 'bulk': how many values and letters a reading holds, each counted each time it is reached (what is shared counts as often as it is met; a slice's spare places count too). A statement '..UptoSaid' is the law's where the arguments, and the package variables that the reading takes, are together of bulk at most 1048576: NARROWER than '..Said'. Prove '..Said' where nothing that the law and all that it calls make is longer than what came in: it says more and counts as full. Else prove '..UptoSaid'. A law counts once. -/
mutual
def uptoBulk {H : Type} : DataW H → Nat
  | .lit (.string bytes) => bytes.length + 1
  | .lit _ => 1
  | .nil => 1
  | .ptr d => uptoBulk d + 1
  | .slice elems spare => uptoBulkAll elems + uptoBulkAll spare + 1
  | .agg parts => uptoBulkAll parts + 1
  | .iface _ d => uptoBulk d + 1
  | .map entries => uptoBulkEntries entries + 1
  | .held _ => 1
def uptoBulkAll {H : Type} : List (DataW H) → Nat
  | [] => 0
  | d :: r => uptoBulk d + uptoBulkAll r
def uptoBulkEntries {H : Type} : List (Lit × DataW H) → Nat
  | [] => 0
  | x :: r => uptoBulkEntry x + uptoBulkEntries r
def uptoBulkEntry {H : Type} : Lit × DataW H → Nat
  | (.string bytes, d) => bytes.length + uptoBulk d + 1
  | (_, d) => uptoBulk d + 1
 end
def uptoSmall : (H : Type) → List (DataW H) → Bool := fun _ ds => decide (uptoBulkAll ds ≤ 1048576)
def OpenSpec.upto (s : _root_.Go.ChangeSpec) : _root_.Go.OpenSpec := { _root_.Go.OpenSpec.ofChange s with cond := some uptoSmall }

/-- 'cruxlaw09.MemberAges', WHERE WHAT IT READS IS OF BULK AT MOST 1048576: true; the input reads as it did. -/
def memberAgesUptoRow : OpenClaim := { program := "ytmlmbgifkmkmgaagreat", sum := "61447f7c8d2e27cee2d0a669590ffd2427ea40f5b56d018e3377c54bbd4ff272", func := "crux/cruxlaw09.MemberAges", spec := "memberAges", unfollowed := true, recurses := true, apart := false, narrowed := true }
def MemberAgesUptoSaid : Prop := memberAgesUptoRow.holds Tryz.pinned (OpenSpec.upto memberAgesSpec)

/-- 'cruxlaw09.MemberLicences', WHERE WHAT IT READS IS OF BULK AT MOST 1048576: true; the input reads as it did. -/
def memberLicencesUptoRow : OpenClaim := { program := "ytmlmbgifkmkmgaagreat", sum := "61447f7c8d2e27cee2d0a669590ffd2427ea40f5b56d018e3377c54bbd4ff272", func := "crux/cruxlaw09.MemberLicences", spec := "memberLicences", unfollowed := true, recurses := true, apart := false, narrowed := true }
def MemberLicencesUptoSaid : Prop := memberLicencesUptoRow.holds Tryz.pinned (OpenSpec.upto memberLicencesSpec)

/-- 'cruxlaw09.MemberGaps', WHERE WHAT IT READS IS OF BULK AT MOST 1048576: true; the input reads as it did. -/
def memberGapsUptoRow : OpenClaim := { program := "ytmlmbgifkmkmgaagreat", sum := "61447f7c8d2e27cee2d0a669590ffd2427ea40f5b56d018e3377c54bbd4ff272", func := "crux/cruxlaw09.MemberGaps", spec := "memberGaps", unfollowed := true, recurses := true, apart := false, narrowed := true }
def MemberGapsUptoSaid : Prop := memberGapsUptoRow.holds Tryz.pinned (OpenSpec.upto memberGapsSpec)

/-- 'cruxlaw09.MemberLapses', WHERE WHAT IT READS IS OF BULK AT MOST 1048576: true; the input reads as it did. -/
def memberLapsesUptoRow : OpenClaim := { program := "ytmlmbgifkmkmgaagreat", sum := "61447f7c8d2e27cee2d0a669590ffd2427ea40f5b56d018e3377c54bbd4ff272", func := "crux/cruxlaw09.MemberLapses", spec := "memberLapses", unfollowed := true, recurses := true, apart := false, narrowed := true }
def MemberLapsesUptoSaid : Prop := memberLapsesUptoRow.holds Tryz.pinned (OpenSpec.upto memberLapsesSpec)

end Rows
end Go.Proofs.YtmlmbgifkmkmgaaGreat
