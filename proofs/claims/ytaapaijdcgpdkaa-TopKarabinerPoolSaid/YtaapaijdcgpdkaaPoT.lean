/- Pools: the library's insertion sort does what it says, at this seat. -/
import Derived.Test.YtaapaijdcgpdkaaGDrC
import Derived.Shelf.SlSortCmp.Insertion1
namespace Go.Proofs.Ytaapaijdcgpdkaa
open Go.Shelf Go.Proofs
def laysS_ren : Go.Shelf.Ren := ⟨fun | 20 => 61 | n => n, fun | 22 => 22 | 24 => 9 | 25 => 65 | 3 => 3 | 0 => 0 | 4 => 4 | n => n, fun | n => n⟩
theorem laysS : Go.Proofs.SlLaysF.n20 Try.prog laysS_ren := {
  mixed := by kernel_rfl
  f20 := ⟨Try.f61.name, by decide, Try.func61.trans (congrArg some (by kernel_rfl))⟩
  t0 := Try.underlying0
  a0 := Try.isAgg0
  z0 := Try.sizeOf0
  v0 := Try.zeroValue0
  t3 := Try.underlying3
  a3 := Try.isAgg3
  z3 := Try.sizeOf3
  v3 := Try.zeroValue3
  t4 := Try.underlying4
  a4 := Try.isAgg4
  z4 := Try.sizeOf4
  v4 := Try.zeroValue4
  t22 := Try.underlying22
  a22 := Try.isAgg22
  z22 := Try.sizeOf22
  v22 := Try.zeroValue22
  a24 := Try.isAgg9
  z24 := Try.sizeOf9
  t25 := Try.underlying65
  a25 := Try.isAgg65
  z25 := Try.sizeOf65
  v25 := Try.zeroValue65 }
open Go.RowKit Go.Lib Go.Sort
theorem enterS : ∀ (args : Array Value) (w : World), (callFunc 29 args).run Try.prog w = .ok (.enter 29 args) w := enters_of Try.func29 (by kernel_rfl) rfl
theorem insS_ok : InsSOK := {
  some := fun m cb blk off cap a b d0 d w0 w hcmp hR hs hS hab hb hsz => Any.insertionSortCmpFunc_s laysS encS (cmpM m) 29 cb blk off cap a b d0 d w0 w enterS hcmp hR hs hS hab hb hsz }
end Go.Proofs.Ytaapaijdcgpdkaa
