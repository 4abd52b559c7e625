/- The world at the start of TopKarabinerForward, and the law's own test. -/
import Derived.Test.YtebnbjaaogfikaaGreatDoorRows
import Derived.Test.YtebnbjaaogfikaaGreatDoorGNat
import Derived.Test.YtebnbjaaogfikaaGreatDoorAwake
import Derived.Test.YtebnbjaaogfikaaGreatDoorGOpN
import Derived.ProofKit
import Derived.LaidMore
import Derived.OpenShut
import Derived.Stop.Joined
namespace Go.Proofs.YtebnbjaaogfikaaGreatDoor
open Go.ChangeShapes Go.WideShapes Go.ChangeAt Go.WideMaps Go.WideElems Go.RowKit
theorem own : ownKnob Tryz.prog.godebug = none := by kernel_rfl
theorem gStates : Tryz.prog.globalNamed "crux/result.states" = some 0 := by kernel_rfl
theorem tStates : (Tryz.prog.globals[0]?).map (·.type) = some 120 := by kernel_rfl
theorem cells3 : Tryz.prog.cellsOf 3 = 1 := by kernel_rfl
theorem cells9 : Tryz.prog.cellsOf 9 = 1 := by kernel_rfl
theorem cellsS : Tryz.prog.cellsOf 120 = 4 := by kernel_rfl
abbrev laidB : ∀ {H : Type}, List (String × DataW H) := fun {_} => [("crux/result.states", Rows.laid_crux_result_states)]
theorem door_met (os : Os) (args : Array Value) : laidMetH Tryz.prog laidB ((World.doorLaid Tryz.prog 400 os).forCall (fun _ _ => 0) ⟨#[], args, []⟩).memory :=
  laidMetH_of_parts3 (fuel := 8) (laidMet_of_run' 8 (by kernel_rfl) (by kernel_rfl)) (by kernel_rfl) (by kernel_rfl)
theorem str_of {s : ByteArray} {l : List UInt8} (h : s.data.toList = l) : s = ⟨⟨l⟩⟩ := by
  obtain ⟨⟨x⟩⟩ := s
  simp at h
  rw [h]
set_option maxRecDepth 100000 in
theorem of_laid {W : World} (h : laidMetH Tryz.prog laidB W) : StatesIn W := by
  rw [MakeChecks.laidMetH_plain _ _ _ (by kernel_rfl)] at h
  obtain ⟨ps, h, _, _⟩ := h
  obtain ⟨g0, t0, cs0, f0, p0, q0, hg0, ht0, hv0, hd0, _, _⟩ := h
  obtain rfl := Option.some.inj (gStates.symm.trans hg0)
  obtain rfl := Option.some.inj (tStates.symm.trans ht0)
  obtain ⟨xs, m1, rfl, hx1, hlen, hn, hel⟩ := DataW.trod_array Tryz.underlying120 hd0
  have e0 := hel 0 (by decide)
  have e1 := hel 1 (by decide)
  have e2 := hel 2 (by decide)
  have e3 := hel 3 (by decide)
  simp only [Prod.mk.injEq, Rows.laid_crux_result_states, DataW.agg.injEq] at hx1
  match xs, hn, hx1, e0, e1, e2, e3 with
  | [x0, x1, x2, x3], _, hx1, e0, e1, e2, e3 =>
    simp only [List.map_cons, List.map_nil, List.cons.injEq, and_true] at hx1
    obtain ⟨⟨a0, a1, a2, a3⟩, _⟩ := hx1
    rw [cellsS] at hlen
    obtain ⟨l⟩ := cs0
    match l, hlen with
    | [c0, c1, c2, c3], _ =>
      rw [cells9] at e0 e1 e2 e3
      simp at e0 e1 e2 e3
      obtain ⟨k0, b0, d0, _⟩ := DataW.trod_string Tryz.underlying9 e0
      obtain ⟨k1, b1, d1, _⟩ := DataW.trod_string Tryz.underlying9 e1
      obtain ⟨k2, b2, d2, _⟩ := DataW.trod_string Tryz.underlying9 e2
      obtain ⟨k3, b3, d3, _⟩ := DataW.trod_string Tryz.underlying9 e3
      rw [d0] at a0
      rw [d1] at a1
      rw [d2] at a2
      rw [d3] at a3
      simp only [DataW.lit.injEq, Lit.string.injEq] at a0 a1 a2 a3
      obtain rfl := str_of a0.symm
      obtain rfl := str_of a1.symm
      obtain rfl := str_of a2.symm
      obtain rfl := str_of a3.symm
      simp only [List.cons.injEq, and_true] at b0 b1 b2 b3
      subst b0 b1 b2 b3
      unfold World.var? at hv0
      rw [hg0] at hv0
      simp only [Option.bind_some] at hv0
      split at hv0
      · rename_i cs t fr hh
        simp only [Option.some.injEq] at hv0
        subst hv0
        exact ⟨t, fr, hh⟩
      · cases hv0
/-- what the small machine asks of the world -/
theorem laid_in {W : World} (hs : W.ShapedOpen Tryz.prog) (h : laidMetH Tryz.prog laidB W) : Go.Ev.LaidIn A7.gs0 W := by
  obtain ⟨t, fr, h1⟩ := of_laid h
  have hz : ((begin Tryz.prog (fun _ _ => 0) default).world.heap[0]?).bind Obj.row? = some (#[.string ⟨#[]⟩, .string ⟨#[]⟩, .string ⟨#[]⟩, .string ⟨#[]⟩], 120) := by kernel_rfl
  obtain ⟨cs, h2, _⟩ := hs.1 0 _ _ (by decide +kernel) hz
  rw [h1] at h2
  simp only [Option.some.injEq, Obj.cells.injEq] at h2
  obtain ⟨rfl, rfl, rfl⟩ := h2
  intro x hx
  simp only [A7.gs0, List.mem_singleton] at hx
  subst hx
  exact ⟨(0, 0), h1, fun i _ => by simp⟩
theorem env : Go.Ev.Env Tryz.prog where
  names := fun f fn h => by
    have hall : (Tryz.prog.funcs.toList.all fun fn => !(fn.name == "runtime.NumGoroutine")) = true := by kernel_rfl
    have := List.all_eq_true.1 hall fn (List.mem_iff_getElem?.2 ⟨f, by simpa using h⟩)
    simpa using this
  mixed := by kernel_rfl
theorem orcKp : Go.Ev.OrcKp A7.orc := by
  intro f args s r s' h
  have h' : (none : Option Go.Ev.Res) = some (some (r, s')) := h
  cases h'
theorem awake_c {W : World} (hs : W.ShapedOpen Tryz.prog) (h : laidMetH Tryz.prog laidB W) (W1 : World) (hg : Gr W W1) :
    Calls Tryz.prog 6 #[] W1 fun e w' => e = .returned (.bool true) ∧ Gr W1 w' := by
  have hl := laid_in hs h
  refine A7.top W1 (fun x hx => ?_) env ?_ orcKp
  · obtain ⟨fr, h1, h2⟩ := hl x hx
    exact ⟨fr, hg.block h1, h2⟩
  · intro f args s r s' h
    have h' : (none : Option Go.Ev.Res) = some (some (r, s')) := h
    cases h'
end Go.Proofs.YtebnbjaaogfikaaGreatDoor
