/- Pools: the library's insertion sort does what it says, at this seat. -/
import Derived.Test.YtenkbeeiblhnjaaGreatGTsG
import Derived.Shelf.SlSortCmp.Insertion1
namespace Go.Proofs.YtenkbeeiblhnjaaGreat
open Go.Shelf Go.Proofs
def laysS_ren : Go.Shelf.Ren := ⟨fun | 20 => 137 | n => n, fun | 22 => 22 | 24 => 9 | 25 => 114 | 3 => 3 | 0 => 0 | 4 => 4 | n => n, fun | n => n⟩
theorem laysS : Go.Proofs.SlLaysF.n20 Tryz.prog laysS_ren := {
  mixed := by kernel_rfl
  f20 := ⟨Tryz.f137.name, by decide, Tryz.func137.trans (congrArg some (by kernel_rfl))⟩
  t0 := Tryz.underlying0
  a0 := Tryz.isAgg0
  z0 := Tryz.sizeOf0
  v0 := Tryz.zeroValue0
  t3 := Tryz.underlying3
  a3 := Tryz.isAgg3
  z3 := Tryz.sizeOf3
  v3 := Tryz.zeroValue3
  t4 := Tryz.underlying4
  a4 := Tryz.isAgg4
  z4 := Tryz.sizeOf4
  v4 := Tryz.zeroValue4
  t22 := Tryz.underlying22
  a22 := Tryz.isAgg22
  z22 := Tryz.sizeOf22
  v22 := Tryz.zeroValue22
  a24 := Tryz.isAgg9
  z24 := Tryz.sizeOf9
  t25 := Tryz.underlying114
  a25 := Tryz.isAgg114
  z25 := Tryz.sizeOf114
  v25 := Tryz.zeroValue114 }
open Go.RowKit Go.Lib Go.Sort
theorem enterS : ∀ (args : Array Value) (w : World), (callFunc 60 args).run Tryz.prog w = .ok (.enter 60 args) w := enters_of Tryz.func60 (by kernel_rfl) rfl
theorem insS_ok : InsSOK := {
  some := fun m cb blk off cap a b d0 d w0 w hcmp hR hs hS hab hb hsz => Any.insertionSortCmpFunc_s laysS encS (cmpM m) 60 cb blk off cap a b d0 d w0 w enterS hcmp hR hs hS hab hb hsz }
end Go.Proofs.YtenkbeeiblhnjaaGreat
