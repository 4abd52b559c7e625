/- Orders and choices, read. -/
import Derived.Test.YtcnpmebihdonoaaGreatDoorLsV
import Derived.Test.YtcnpmebihdonoaaGreatDoorNtF
import Derived.Test.YtcnpmebihdonoaaGreatDoorGNtD
import Derived.Shelf.SlSortCmp.Insertion1
namespace Go.Proofs.YtcnpmebihdonoaaGreatDoor
open Go.ChangeShapes Go.WideShapes Go.ChangeAt Go.WideMaps Go.WideElems Go.RowKit
set_option linter.unusedSimpArgs false
set_option linter.unusedVariables false
theorem rowInts : 23 < Tryz.prog.types.size := of_decide_eq_true (by kernel_rfl)
theorem recInts : Tryz.prog.readableRec 23 = true := by kernel_rfl
section
variable {H : Type} {enc : TypeId × Value → H}
set_option maxRecDepth 100000 in
/-- integers, read -/
theorem openNums {W : World} {b0 : Nat} {v : Value} {d : DataW H} {ps : List MemPlace} (hv : Value.okWide Tryz.prog W .any b0 23 v) (h : DataW.Trod enc Tryz.prog W 0 (fun _ => true) true 23 v d ps) : ∃ (zs : List Int) (p : Option Addr) (cap : Nat), v = .slice p zs.length cap ∧ zs.length ≤ cap ∧ (0 < zs.length → ∃ b off, p = some ⟨b, off, none⟩ ∧ ∀ (i : Nat) (x : Int), zs[i]? = some x → W.cell? ⟨b, off + i, none⟩ = some (.int .i64 x)) := by
  obtain ⟨a0, l0, c0, rfl⟩ := okWide_slice Tryz.underlying23 hv
  obtain ⟨fuel, hf⟩ := h
  rcases Go.Deep.open_slice Tryz.underlying23 hf with ⟨e, _⟩ | ⟨a, len, cap, m, n, D, Pl, e, _, hle, hmx, hm, ex, hel⟩
  · simp [Value.cells] at e
    obtain ⟨rfl, rfl, rfl⟩ := e
    exact ⟨[], none, 0, rfl, by simp, fun h => absurd h (by simp)⟩
  · simp [Value.cells] at e
    obtain ⟨rfl, rfl, rfl⟩ := e
    simp only [if_true] at hm
    rw [cellsInt] at hel
    obtain ⟨V, hV⟩ := Go.Deep.choose_lt (α := Int) (p := fun i y => W.cell? ((a.add (i * 1)).add 0) = some (.int .i64 y)) (fun i (hi : i < m) => by
      obtain ⟨cs', h1, h2⟩ := hel i hi
      obtain ⟨_, hlen, hcell⟩ := World.cells?_some h1
      match cs', hlen with
      | [c0], _ =>
        obtain ⟨v0, q0, _, _⟩ := DataW.trod_int Tryz.underlying3 h2
        simp at q0
        subst q0
        exact ⟨v0, hcell 0 (by omega)⟩)
    have hlen : ((List.range l0).map V).length = l0 := by simp
    refine ⟨(List.range l0).map V, some a, c0, by rw [hlen], by rw [hlen]; exact hle, fun h0 => ?_⟩
    rw [hlen] at h0
    obtain ⟨b, off, spot⟩ := a
    have hspot : spot = none := by
      have := World.cell?_spot (hV 0 (by omega))
      simpa [Addr.add] using this
    subst hspot
    refine ⟨b, off, rfl, fun i x hx => ?_⟩
    rw [List.getElem?_map, Option.map_eq_some_iff] at hx
    obtain ⟨j, hj, rfl⟩ := hx
    obtain ⟨hj1, hj2⟩ := List.getElem?_eq_some_iff.1 hj
    simp at hj1 hj2
    subst hj2
    have hvv := hV i (by omega)
    have e : ∀ o p : Nat, (⟨b, o, none⟩ : Addr).add p = ⟨b, o + p, none⟩ := fun o p => by unfold Addr.add; split <;> simp_all
    simp only [e, Nat.add_zero, Nat.mul_one] at hvv
    exact hvv
end
end Go.Proofs.YtcnpmebihdonoaaGreatDoor
namespace Go.Proofs.YtcnpmebihdonoaaGreatDoor
open Go.Shelf Go.Proofs
def laysT_ren : Go.Shelf.Ren := ⟨fun | 20 => 125 | n => n, fun | 22 => 46 | 24 => 23 | 25 => 94 | 3 => 3 | 0 => 0 | 4 => 4 | n => n, fun | n => n⟩
theorem laysT : Go.Proofs.SlLaysF.n20 Tryz.prog laysT_ren := {
  mixed := by kernel_rfl
  f20 := ⟨Tryz.f125.name, by decide, Tryz.func125.trans (congrArg some (by kernel_rfl))⟩
  t0 := Tryz.underlying0
  a0 := Tryz.isAgg0
  z0 := Tryz.sizeOf0
  v0 := Tryz.zeroValue0
  t3 := Tryz.underlying3
  a3 := Tryz.isAgg3
  z3 := Tryz.sizeOf3
  v3 := Tryz.zeroValue3
  t4 := Tryz.underlying4
  a4 := Tryz.isAgg4
  z4 := Tryz.sizeOf4
  v4 := Tryz.zeroValue4
  t22 := Tryz.underlying46
  a22 := Tryz.isAgg46
  z22 := Tryz.sizeOf46
  v22 := Tryz.zeroValue46
  a24 := Tryz.isAgg23
  z24 := Tryz.sizeOf23
  t25 := Tryz.underlying94
  a25 := Tryz.isAgg94
  z25 := Tryz.sizeOf94
  v25 := Tryz.zeroValue94 }
open Go.RowKit Go.Lib Go.Sort
theorem enterT : ∀ (args : Array Value) (w : World), (callFunc 45 args).run Tryz.prog w = .ok (.enter 45 args) w := enters_of Tryz.func45 (by kernel_rfl) rfl
theorem insT_ok : InsNOKT := {
  some := fun m cb blk off cap a b d0 d w0 w hcmp hR hs hS hab hb hsz => Any.insertionSortCmpFunc_s laysT encNT (cmpKT m) 45 cb blk off cap a b d0 d w0 w enterT hcmp hR hs hS hab hb hsz }
end Go.Proofs.YtcnpmebihdonoaaGreatDoor
