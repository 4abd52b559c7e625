/- Starters: the library's insertion sort does what it says, at this seat. -/
import Derived.Test.YtlcbdgmclhdofaaGreatDoorGLsD
import Derived.Shelf.SlSortCmp.Insertion1
namespace Go.Proofs.YtlcbdgmclhdofaaGreatDoor
open Go.Shelf Go.Proofs
def laysN_ren : Go.Shelf.Ren := ⟨fun | 20 => 152 | n => n, fun | 22 => 30 | 24 => 3 | 25 => 38 | 3 => 3 | 0 => 0 | 4 => 4 | n => n, fun | n => n⟩
theorem laysN : Go.Proofs.SlLaysF.n20 Tryz.prog laysN_ren := {
  mixed := by kernel_rfl
  f20 := ⟨Tryz.f152.name, by decide, Tryz.func152.trans (congrArg some (by kernel_rfl))⟩
  t0 := Tryz.underlying0
  a0 := Tryz.isAgg0
  z0 := Tryz.sizeOf0
  v0 := Tryz.zeroValue0
  t3 := Tryz.underlying3
  a3 := Tryz.isAgg3
  z3 := Tryz.sizeOf3
  v3 := Tryz.zeroValue3
  t4 := Tryz.underlying4
  a4 := Tryz.isAgg4
  z4 := Tryz.sizeOf4
  v4 := Tryz.zeroValue4
  t22 := Tryz.underlying30
  a22 := Tryz.isAgg30
  z22 := Tryz.sizeOf30
  v22 := Tryz.zeroValue30
  a24 := Tryz.isAgg3
  z24 := Tryz.sizeOf3
  t25 := Tryz.underlying38
  a25 := Tryz.isAgg38
  z25 := Tryz.sizeOf38
  v25 := Tryz.zeroValue38 }
open Go.RowKit Go.Lib Go.Sort
theorem enterN : ∀ (args : Array Value) (w : World), (callFunc 93 args).run Tryz.prog w = .ok (.enter 93 args) w := enters_of Tryz.func93 (by kernel_rfl) rfl
theorem insN_ok : InsNOK := {
  some := fun _ m cb blk off cap a b d0 d w0 w hcmp hR hs hS hab hb hsz => Any.insertionSortCmpFunc_s laysN encN (cmpK m) 93 cb blk off cap a b d0 d w0 w enterN hcmp hR hs hS hab hb hsz }
end Go.Proofs.YtlcbdgmclhdofaaGreatDoor
