/-
  No cell of these rows narrows 'for every input' (looked for: loops, veiled, ifaces, maps, wideKeys, modest, calm, conditions, laid).
  DERIVED. THE GIVEN ROWS OF THIS SEAT. 3 by the template 'for every input the law returns true; each argument reads behind the call as it read before'; 0 by the template 'total and deterministic' (their statements: YtenkbeeiblhnjaaGreatTotals.lean).
  GIVEN WITH THE SEED: the statements are not yours to turn. If you find one false, say at which input.
  Laid BY PROGRAM, IN A SANDBOX (cutbox-rows.mjs): the forced cells as the released guide's own fill.sh prints them over the translation 7abdb787694753e0… (all of the seat's roots in one cut). By AI agents, Wed Nov 11 2026. No macro, syntax, notation, axiom, sorry.
-/
import Derived.Test.YtenkbeeiblhnjaaGreatChecked
import GoSem.Claim
import GoSem.ClaimJoined
import GoSem.ClaimMapViews
import Derived.JoinedTies
import Derived.KernelRfl
namespace Go.Proofs.YtenkbeeiblhnjaaGreat
/- THE CELL 'sum', in the pinned program and in every row, IS THE sha256 OF THE DUMP (.gsa) THAT YtenkbeeiblhnjaaGreatProg.lean LOADS. Nothing in Lean hashes anything: it is a label: what it is worth is what the hold of that sum in a sandbox is worth. -/
noncomputable def Tryz.pinned : Pinned := { name := "ytenkbeeiblhnjaagreat", sum := "7abdb787694753e08d0ffadf3c3a6738aefe43f890272d635b70a565875f44d3", checked := Tryz.checked }
namespace Rows
def none {H : Type} : Left H := { results := [], args := [] }

/-- 'cruxlaw09.MemberPools': WHATEVER THE INPUT: true; the input reads as it did. -/
def memberPoolsSpec : ChangeSpec := { name := "memberPools", fn := fun _ => fun
  | [d1, d2, d3] => { results := [.lit (.bool true)], args := [d1, d2, d3] }
  | _ => none }
def memberPoolsRow : OpenClaim := { program := "ytenkbeeiblhnjaagreat", sum := "7abdb787694753e08d0ffadf3c3a6738aefe43f890272d635b70a565875f44d3", func := "crux/cruxlaw09.MemberPools", spec := "memberPools", unfollowed := true, recurses := true, apart := false }
def MemberPoolsSaid : Prop := memberPoolsRow.holds Tryz.pinned (OpenSpec.ofChange memberPoolsSpec)

/-- ITS FALSE NEIGHBOUR: 'it returns false'. Refute it at one input. -/
def memberPoolsWrong : ChangeSpec := { name := "memberPools", fn := fun _ => fun
  | [d1, d2, d3] => { results := [.lit (.bool false)], args := [d1, d2, d3] }
  | _ => none }
def MemberPoolsWrongFalsely : Prop := memberPoolsRow.holds Tryz.pinned (OpenSpec.ofChange memberPoolsWrong)

/-- 'cruxlaw09.MemberJuries': WHATEVER THE INPUT: true; the input reads as it did. -/
def memberJuriesSpec : ChangeSpec := { name := "memberJuries", fn := fun _ => fun
  | [d1, d2, d3] => { results := [.lit (.bool true)], args := [d1, d2, d3] }
  | _ => none }
def memberJuriesRow : OpenClaim := { program := "ytenkbeeiblhnjaagreat", sum := "7abdb787694753e08d0ffadf3c3a6738aefe43f890272d635b70a565875f44d3", func := "crux/cruxlaw09.MemberJuries", spec := "memberJuries", unfollowed := true, recurses := true, apart := false }
def MemberJuriesSaid : Prop := memberJuriesRow.holds Tryz.pinned (OpenSpec.ofChange memberJuriesSpec)

/-- ITS FALSE NEIGHBOUR: 'it returns false'. Refute it at one input. -/
def memberJuriesWrong : ChangeSpec := { name := "memberJuries", fn := fun _ => fun
  | [d1, d2, d3] => { results := [.lit (.bool false)], args := [d1, d2, d3] }
  | _ => none }
def MemberJuriesWrongFalsely : Prop := memberJuriesRow.holds Tryz.pinned (OpenSpec.ofChange memberJuriesWrong)

/-- 'cruxlaw09.MemberSpares': WHATEVER THE INPUT: true; the input reads as it did. -/
def memberSparesSpec : ChangeSpec := { name := "memberSpares", fn := fun _ => fun
  | [d1, d2, d3] => { results := [.lit (.bool true)], args := [d1, d2, d3] }
  | _ => none }
def memberSparesRow : OpenClaim := { program := "ytenkbeeiblhnjaagreat", sum := "7abdb787694753e08d0ffadf3c3a6738aefe43f890272d635b70a565875f44d3", func := "crux/cruxlaw09.MemberSpares", spec := "memberSpares", unfollowed := true, recurses := true, apart := false }
def MemberSparesSaid : Prop := memberSparesRow.holds Tryz.pinned (OpenSpec.ofChange memberSparesSpec)

/-- ITS FALSE NEIGHBOUR: 'it returns false'. Refute it at one input. -/
def memberSparesWrong : ChangeSpec := { name := "memberSpares", fn := fun _ => fun
  | [d1, d2, d3] => { results := [.lit (.bool false)], args := [d1, d2, d3] }
  | _ => none }
def MemberSparesWrongFalsely : Prop := memberSparesRow.holds Tryz.pinned (OpenSpec.ofChange memberSparesWrong)

/- THE SECOND FORM. 'bulk': how many values and letters a reading holds, each counted each time it is reached (what is shared counts as often as it is met; a slice's spare places count too). A statement '..UptoSaid' is the law's where the arguments, and the package variables that the reading takes, are together of bulk at most 1048576: NARROWER than '..Said'. Prove '..Said' where nothing that the law and all that it calls make is longer than what came in: it says more and counts as full. Else prove '..UptoSaid'. A law counts once. -/
mutual
def uptoBulk {H : Type} : DataW H → Nat
  | .lit (.string bytes) => bytes.length + 1
  | .lit _ => 1
  | .nil => 1
  | .ptr d => uptoBulk d + 1
  | .slice elems spare => uptoBulkAll elems + uptoBulkAll spare + 1
  | .agg parts => uptoBulkAll parts + 1
  | .iface _ d => uptoBulk d + 1
  | .map entries => uptoBulkEntries entries + 1
  | .held _ => 1
def uptoBulkAll {H : Type} : List (DataW H) → Nat
  | [] => 0
  | d :: r => uptoBulk d + uptoBulkAll r
def uptoBulkEntries {H : Type} : List (Lit × DataW H) → Nat
  | [] => 0
  | x :: r => uptoBulkEntry x + uptoBulkEntries r
def uptoBulkEntry {H : Type} : Lit × DataW H → Nat
  | (.string bytes, d) => bytes.length + uptoBulk d + 1
  | (_, d) => uptoBulk d + 1
 end
def uptoSmall : (H : Type) → List (DataW H) → Bool := fun _ ds => decide (uptoBulkAll ds ≤ 1048576)
def OpenSpec.upto (s : _root_.Go.ChangeSpec) : _root_.Go.OpenSpec := { _root_.Go.OpenSpec.ofChange s with cond := some uptoSmall }

/-- 'cruxlaw09.MemberPools', WHERE WHAT IT READS IS OF BULK AT MOST 1048576: true; the input reads as it did. -/
def memberPoolsUptoRow : OpenClaim := { program := "ytenkbeeiblhnjaagreat", sum := "7abdb787694753e08d0ffadf3c3a6738aefe43f890272d635b70a565875f44d3", func := "crux/cruxlaw09.MemberPools", spec := "memberPools", unfollowed := true, recurses := true, apart := false, narrowed := true }
def MemberPoolsUptoSaid : Prop := memberPoolsUptoRow.holds Tryz.pinned (OpenSpec.upto memberPoolsSpec)

/-- 'cruxlaw09.MemberJuries', WHERE WHAT IT READS IS OF BULK AT MOST 1048576: true; the input reads as it did. -/
def memberJuriesUptoRow : OpenClaim := { program := "ytenkbeeiblhnjaagreat", sum := "7abdb787694753e08d0ffadf3c3a6738aefe43f890272d635b70a565875f44d3", func := "crux/cruxlaw09.MemberJuries", spec := "memberJuries", unfollowed := true, recurses := true, apart := false, narrowed := true }
def MemberJuriesUptoSaid : Prop := memberJuriesUptoRow.holds Tryz.pinned (OpenSpec.upto memberJuriesSpec)

/-- 'cruxlaw09.MemberSpares', WHERE WHAT IT READS IS OF BULK AT MOST 1048576: true; the input reads as it did. -/
def memberSparesUptoRow : OpenClaim := { program := "ytenkbeeiblhnjaagreat", sum := "7abdb787694753e08d0ffadf3c3a6738aefe43f890272d635b70a565875f44d3", func := "crux/cruxlaw09.MemberSpares", spec := "memberSpares", unfollowed := true, recurses := true, apart := false, narrowed := true }
def MemberSparesUptoSaid : Prop := memberSparesUptoRow.holds Tryz.pinned (OpenSpec.upto memberSparesSpec)

end Rows
end Go.Proofs.YtenkbeeiblhnjaaGreat
