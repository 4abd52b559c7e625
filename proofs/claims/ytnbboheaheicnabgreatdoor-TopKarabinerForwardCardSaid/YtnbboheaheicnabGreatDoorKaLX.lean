/- The world at the start of TopKarabinerForward, and the law's own test. -/
import Derived.Test.YtnbboheaheicnabGreatDoorRows
import Derived.Test.YtnbboheaheicnabGreatDoorBase
import Derived.Test.YtnbboheaheicnabGreatDoorAwake
import Derived.Test.YtnbboheaheicnabGreatDoorOpN
import Derived.ProofKit
import Derived.LaidMore
import Derived.OpenShut
import Derived.Stop.Joined
import Derived.Test.YtnbboheaheicnabGreatDoorStKL
import Derived.Carry
import Derived.ChangeSlices
import Derived.Deep.Slices
import Derived.Deep.Strs
namespace Go.Proofs.YtnbboheaheicnabGreatDoor
open Go.ChangeShapes Go.WideShapes Go.ChangeAt Go.WideMaps Go.WideElems Go.RowKit
theorem own : ownKnob Tryz.prog.godebug = none := by kernel_rfl
theorem gStates : Tryz.prog.globalNamed "crux/result.states" = some 0 := by kernel_rfl
theorem tStates : (Tryz.prog.globals[0]?).map (·.type) = some 123 := by kernel_rfl
theorem cells3 : Tryz.prog.cellsOf 3 = 1 := by kernel_rfl
theorem cells9 : Tryz.prog.cellsOf 9 = 1 := by kernel_rfl
theorem cellsS : Tryz.prog.cellsOf 123 = 4 := by kernel_rfl
abbrev laidB : ∀ {H : Type}, List (String × DataW H) := fun {_} => [("crux/result.states", Rows.laid_crux_result_states)]
theorem door_met (os : Os) (args : Array Value) : laidMetH Tryz.prog laidB ((World.doorLaid Tryz.prog 400 os).forCall (fun _ _ => 0) ⟨#[], args, []⟩).memory :=
  laidMetH_of_parts3 (fuel := 8) (laidMet_of_run' 8 (by kernel_rfl) (by kernel_rfl)) (by kernel_rfl) (by kernel_rfl)
theorem str_of {s : ByteArray} {l : List UInt8} (h : s.data.toList = l) : s = ⟨⟨l⟩⟩ := by
  obtain ⟨⟨x⟩⟩ := s
  simp at h
  rw [h]
set_option maxRecDepth 100000 in
theorem of_laid {W : World} (h : laidMetH Tryz.prog laidB W) : StatesIn W := by
  rw [MakeChecks.laidMetH_plain _ _ _ (by kernel_rfl)] at h
  obtain ⟨ps, h, _, _⟩ := h
  obtain ⟨g0, t0, cs0, f0, p0, q0, hg0, ht0, hv0, hd0, _, _⟩ := h
  obtain rfl := Option.some.inj (gStates.symm.trans hg0)
  obtain rfl := Option.some.inj (tStates.symm.trans ht0)
  obtain ⟨xs, m1, rfl, hx1, hlen, hn, hel⟩ := DataW.trod_array Tryz.underlying123 hd0
  have e0 := hel 0 (by decide)
  have e1 := hel 1 (by decide)
  have e2 := hel 2 (by decide)
  have e3 := hel 3 (by decide)
  simp only [Prod.mk.injEq, Rows.laid_crux_result_states, DataW.agg.injEq] at hx1
  match xs, hn, hx1, e0, e1, e2, e3 with
  | [x0, x1, x2, x3], _, hx1, e0, e1, e2, e3 =>
    simp only [List.map_cons, List.map_nil, List.cons.injEq, and_true] at hx1
    obtain ⟨⟨a0, a1, a2, a3⟩, _⟩ := hx1
    rw [cellsS] at hlen
    obtain ⟨l⟩ := cs0
    match l, hlen with
    | [c0, c1, c2, c3], _ =>
      rw [cells9] at e0 e1 e2 e3
      simp at e0 e1 e2 e3
      obtain ⟨k0, b0, d0, _⟩ := DataW.trod_string Tryz.underlying9 e0
      obtain ⟨k1, b1, d1, _⟩ := DataW.trod_string Tryz.underlying9 e1
      obtain ⟨k2, b2, d2, _⟩ := DataW.trod_string Tryz.underlying9 e2
      obtain ⟨k3, b3, d3, _⟩ := DataW.trod_string Tryz.underlying9 e3
      rw [d0] at a0
      rw [d1] at a1
      rw [d2] at a2
      rw [d3] at a3
      simp only [DataW.lit.injEq, Lit.string.injEq] at a0 a1 a2 a3
      obtain rfl := str_of a0.symm
      obtain rfl := str_of a1.symm
      obtain rfl := str_of a2.symm
      obtain rfl := str_of a3.symm
      simp only [List.cons.injEq, and_true] at b0 b1 b2 b3
      subst b0 b1 b2 b3
      unfold World.var? at hv0
      rw [hg0] at hv0
      simp only [Option.bind_some] at hv0
      split at hv0
      · rename_i cs t fr hh
        simp only [Option.some.injEq] at hv0
        subst hv0
        exact ⟨t, fr, hh⟩
      · cases hv0
/-- what the small machine asks of the world -/
theorem laid_in {W : World} (hs : W.ShapedOpen Tryz.prog) (h : laidMetH Tryz.prog laidB W) : Go.Ev.LaidIn A7.gs0 W := by
  obtain ⟨t, fr, h1⟩ := of_laid h
  have hz : ((begin Tryz.prog (fun _ _ => 0) default).world.heap[0]?).bind Obj.row? = some (#[.string ⟨#[]⟩, .string ⟨#[]⟩, .string ⟨#[]⟩, .string ⟨#[]⟩], 123) := by kernel_rfl
  obtain ⟨cs, h2, _⟩ := hs.1 0 _ _ (by decide +kernel) hz
  rw [h1] at h2
  simp only [Option.some.injEq, Obj.cells.injEq] at h2
  obtain ⟨rfl, rfl, rfl⟩ := h2
  intro x hx
  simp only [A7.gs0, List.mem_singleton] at hx
  subst hx
  exact ⟨(0, 0), h1, fun i _ => by simp⟩
theorem env : Go.Ev.Env Tryz.prog where
  names := fun f fn h => by
    have hall : (Tryz.prog.funcs.toList.all fun fn => !(fn.name == "runtime.NumGoroutine")) = true := by kernel_rfl
    have := List.all_eq_true.1 hall fn (List.mem_iff_getElem?.2 ⟨f, by simpa using h⟩)
    simpa using this
  mixed := by kernel_rfl
theorem orcKp : Go.Ev.OrcKp A7.orc := by
  intro f args s r s' h
  have h' : (none : Option Go.Ev.Res) = some (some (r, s')) := h
  cases h'
theorem awake_c {W : World} (hs : W.ShapedOpen Tryz.prog) (h : laidMetH Tryz.prog laidB W) (W1 : World) (hg : Gr W W1) :
    Calls Tryz.prog 6 #[] W1 fun e w' => e = .returned (.bool true) ∧ Gr W1 w' := by
  have hl := laid_in hs h
  refine A7.top W1 (fun x hx => ?_) env ?_ orcKp
  · obtain ⟨fr, h1, h2⟩ := hl x hx
    exact ⟨fr, hg.block h1, h2⟩
  · intro f args s r s' h
    have h' : (none : Option Go.Ev.Res) = some (some (r, s')) := h
    cases h'
end Go.Proofs.YtnbboheaheicnabGreatDoor
namespace Go.Proofs.YtnbboheaheicnabGreatDoor
open Go.ChangeShapes Go.WideShapes Go.ChangeAt Go.WideMaps Go.WideElems Go.RowKit
theorem cellsRes : Tryz.prog.cellsOf 33 = 3 := by kernel_rfl
theorem cellsInts : Tryz.prog.cellsOf 31 = 1 := by kernel_rfl
theorem recRs : Tryz.prog.readableRec 22 = true := by kernel_rfl
theorem rowRs : 22 < Tryz.prog.types.size := of_decide_eq_true (by kernel_rfl)
theorem cellsStr : Tryz.prog.cellsOf 9 = 1 := by kernel_rfl
theorem recSs : Tryz.prog.readableRec 23 = true := by kernel_rfl
theorem rowSs : 23 < Tryz.prog.types.size := of_decide_eq_true (by kernel_rfl)
theorem laidOutRs : laidOutB Tryz.prog = true := by kernel_rfl
section
variable {H : Type} {enc : TypeId × Value → H}
set_option maxRecDepth 100000 in
/-- a slice of integers, read -/
theorem intsV_of {W : World} {cs : List Value} {fuel : Nat} {x : DataW H × List MemPlace} (h : DataW.trod enc Tryz.prog W 0 (fun _ => true) true fuel 31 cs = some x) : ∃ v xs, cs = [v] ∧ IntsV W v xs := by
  rcases open_ints Tryz.underlying31 Tryz.underlying3 cells3 h with ⟨rfl, _⟩ | ⟨a, len, cap, zs, rfl, _, hle, _, hlen, _, hcell, _⟩
  · exact ⟨_, [], rfl, ⟨none, 0, rfl, fun h => absurd h (by simp)⟩⟩
  · simp only [if_true] at hlen
    have hl : (zs.take len).length = len := by rw [List.length_take, hlen]; omega
    refine ⟨_, zs.take len, rfl, ⟨some a, cap, by rw [hl], fun h0 => ?_⟩⟩
    rw [hl] at h0
    obtain ⟨b, off, rfl, hc⟩ := ints_at hcell (by omega)
    refine ⟨b, off, rfl, fun i z hz => ?_⟩
    have hi : i < len := by
      have := (List.getElem?_eq_some_iff.1 hz).1
      omega
    rw [hc i (by omega)]
    rw [List.getElem?_take, if_pos hi] at hz
    simp [List.getD_eq_getElem?_getD, hz]
set_option maxRecDepth 100000 in
/-- one result, read -/
theorem row0_of {W : World} {a : Addr} {cs : List Value} {fuel : Nat} {x : DataW H × List MemPlace} (hc : W.cells? 0 a 3 = some cs) (h : DataW.trod enc Tryz.prog W 0 (fun _ => true) true fuel 33 cs = some x) :
    ∃ y : RowR, W.cell? (a.add 0) = some (.string y.nm) ∧ W.cell? (a.add 1) = some (.string y.st) ∧ W.cell? (a.add 2) = some y.u ∧ IntsV W y.u y.xs := by
  obtain ⟨_, hlen, hcell⟩ := World.cells?_some hc
  match cs, hlen with
  | [c0, c1, c2], _ =>
  obtain ⟨ys, m, _, hx, _, hl, hfs⟩ := DataW.trod_struct Tryz.underlying33 h
  match ys, hl, hx with
  | [y0, y1, y2], _, hx =>
    have e0 := hfs 0 _ rfl
    have e1 := hfs 1 _ rfl
    have e2 := hfs 2 _ rfl
    simp [cells9, cellsInts] at e0 e1 e2
    obtain ⟨c, q0, _, _⟩ := DataW.trod_string Tryz.underlying9 e0
    obtain ⟨s, q1, _, _⟩ := DataW.trod_string Tryz.underlying9 e1
    obtain ⟨u, xs, q2, hI⟩ := intsV_of e2
    simp at q0 q1 q2
    subst q0 q1 q2
    exact ⟨⟨c, s, _, xs⟩, hcell 0 (by omega), hcell 1 (by omega), hcell 2 (by omega), hI⟩
set_option maxRecDepth 100000 in
/-- results, read -/
theorem open_rows {W : World} {b0 : Nat} {v : Value} {d : DataW H} {ps : List MemPlace} (hv : Value.okWide Tryz.prog W .any b0 22 v) (h : DataW.Trod enc Tryz.prog W 0 (fun _ => true) true 22 v d ps) :
    ∃ xs, Rows0V W v xs := by
  obtain ⟨a0, l0, c0, rfl⟩ := okWide_slice Tryz.underlying22 hv
  obtain ⟨fuel, hf⟩ := h
  rcases Go.Deep.open_slice Tryz.underlying22 hf with ⟨e, _⟩ | ⟨a, len, cap, m, n, D, Pl, e, _, hle, hmx, hm, _, hel⟩
  · simp [Value.cells] at e
    obtain ⟨rfl, rfl, rfl⟩ := e
    exact ⟨[], ⟨none, 0, rfl, ⟨by simp, by unfold maxLen; omega⟩, fun h => absurd h (by simp)⟩⟩
  · simp [Value.cells] at e
    obtain ⟨rfl, rfl, rfl⟩ := e
    simp only [if_true] at hm
    rw [cellsRes] at hel
    obtain ⟨V, hV⟩ := Go.Deep.choose_lt (α := RowR) (p := fun i y => W.cell? ((a.add (i * 3)).add 0) = some (.string y.nm) ∧ W.cell? ((a.add (i * 3)).add 1) = some (.string y.st) ∧ W.cell? ((a.add (i * 3)).add 2) = some y.u ∧ IntsV W y.u y.xs) (fun i (hi : i < m) => by
      obtain ⟨cs', h1, h2⟩ := hel i hi
      exact row0_of h1 h2)
    have hlen : ((List.range l0).map V).length = l0 := by simp
    refine ⟨(List.range l0).map V, ⟨some a, c0, by rw [hlen], ⟨by rw [hlen]; exact hle, hmx⟩, fun h0 => ?_⟩⟩
    rw [hlen] at h0
    obtain ⟨b, off, spot⟩ := a
    have hspot : spot = none := by
      have := World.cell?_spot (hV 0 (by omega)).1
      simpa [Addr.add] using this
    subst hspot
    refine ⟨b, off, rfl, fun i x hx => ?_⟩
    have hi : i < l0 := by
      have := (List.getElem?_eq_some_iff.1 hx).1
      rwa [hlen] at this
    obtain rfl : V i = x := by
      rw [List.getElem?_map, List.getElem?_range hi] at hx
      simpa using hx
    obtain ⟨k0, k1, k2, k3⟩ := hV i (by omega)
    rw [add_plain, add_plain] at k0 k1 k2
    exact ⟨k0, k1, k2, k3⟩
set_option maxRecDepth 100000 in
/-- names, read -/
theorem open_words {W : World} {b0 : Nat} {v : Value} {d : DataW H} {ps : List MemPlace} (hv : Value.okWide Tryz.prog W .any b0 23 v) (h : DataW.Trod enc Tryz.prog W 0 (fun _ => true) true 23 v d ps) :
    ∃ ns, WordsV W v ns := by
  obtain ⟨a0, l0, c0, rfl⟩ := okWide_slice Tryz.underlying23 hv
  obtain ⟨fuel, hf⟩ := h
  rcases Go.Deep.open_strs Tryz.underlying23 Tryz.underlying9 cellsStr hf with ⟨e, _⟩ | ⟨a, len, cap, m, Sx, e, _, hle, hmx, hm, _, hel⟩
  · simp [Value.cells] at e
    obtain ⟨rfl, rfl, rfl⟩ := e
    exact ⟨[], ⟨none, 0, rfl, ⟨by simp, by unfold maxLen; omega⟩, fun h => absurd h (by simp)⟩⟩
  · simp [Value.cells] at e
    obtain ⟨rfl, rfl, rfl⟩ := e
    simp only [if_true] at hm
    have hlen : ((List.range l0).map Sx).length = l0 := by simp
    refine ⟨(List.range l0).map Sx, ⟨some a, c0, by rw [hlen], ⟨by rw [hlen]; exact hle, hmx⟩, fun h0 => ?_⟩⟩
    rw [hlen] at h0
    obtain ⟨b, off, spot⟩ := a
    have hspot : spot = none := by
      have := World.cell?_spot (hel 0 (by omega)).1
      simpa [Addr.add] using this
    subst hspot
    refine ⟨b, off, rfl, fun i x hx => ?_⟩
    have hi : i < l0 := by
      have := (List.getElem?_eq_some_iff.1 hx).1
      rwa [hlen] at this
    obtain rfl : Sx i = x := by
      rw [List.getElem?_map, List.getElem?_range hi] at hx
      simpa using hx
    have k0 := (hel i (by omega)).1
    rwa [add_plain] at k0
end
end Go.Proofs.YtnbboheaheicnabGreatDoor
