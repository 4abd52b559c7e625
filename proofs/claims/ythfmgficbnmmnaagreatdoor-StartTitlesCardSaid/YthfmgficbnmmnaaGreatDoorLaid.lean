/- The world at the start of a law, and awake(). -/
import Derived.Test.YthfmgficbnmmnaaGreatDoorRows
import Derived.Test.YthfmgficbnmmnaaGreatDoorGNat
import Derived.Test.YthfmgficbnmmnaaGreatDoorAwake
import Derived.ProofKit
import Derived.LaidMore
import Derived.OpenShut
import Derived.Stop.Joined
namespace Go.Proofs.YthfmgficbnmmnaaGreatDoor
open Go.ChangeShapes Go.WideShapes Go.ChangeAt Go.WideMaps Go.WideElems Go.RowKit
theorem own : ownKnob Tryz.prog.godebug = none := by kernel_rfl
theorem gBeaten : Tryz.prog.globalNamed "crux/start.beaten" = some 0 := by kernel_rfl
theorem tBeaten : (Tryz.prog.globals[0]?).map (·.type) = some 142 := by kernel_rfl
theorem cells3 : Tryz.prog.cellsOf 3 = 1 := by kernel_rfl
theorem cells46 : Tryz.prog.cellsOf 142 = 4 := by kernel_rfl
abbrev laidB : ∀ {H : Type}, List (String × DataW H) := fun {_} => [("crux/start.beaten", Rows.laid_crux_start_beaten)]
theorem door_met (os : Os) (args : Array Value) : laidMetH Tryz.prog laidB ((World.doorLaid Tryz.prog 400 os).forCall (fun _ _ => 0) ⟨#[], args, []⟩).memory :=
  laidMetH_of_parts3 (fuel := 8) (laidMet_of_run' 8 (by kernel_rfl) (by kernel_rfl)) (by kernel_rfl) (by kernel_rfl)
set_option maxRecDepth 100000 in
theorem of_laid {W : World} (h : laidMetH Tryz.prog laidB W) : ∃ t fr, W.heap[0]? = some (.cells #[.int .i64 0, .int .i64 2, .int .i64 1, .int .i64 0] t fr) := by
  rw [MakeChecks.laidMetH_plain _ _ _ (by kernel_rfl)] at h
  obtain ⟨ps, h, _, _⟩ := h
  obtain ⟨g0, t0, cs0, f0, p0, q0, hg0, ht0, hv0, hd0, _, _⟩ := h
  obtain rfl := Option.some.inj (gBeaten.symm.trans hg0)
  obtain rfl := Option.some.inj (tBeaten.symm.trans ht0)
  obtain ⟨xs, m1, rfl, hx1, hlen, hn, hel⟩ := DataW.trod_array Tryz.underlying142 hd0
  have e0 := hel 0 (by decide)
  have e1 := hel 1 (by decide)
  have e2 := hel 2 (by decide)
  have e3 := hel 3 (by decide)
  simp only [Prod.mk.injEq, Rows.laid_crux_start_beaten, DataW.agg.injEq] at hx1
  match xs, hn, hx1, e0, e1, e2, e3 with
  | [x0, x1, x2, x3], _, hx1, e0, e1, e2, e3 =>
    simp only [List.map_cons, List.map_nil, List.cons.injEq, and_true] at hx1
    obtain ⟨⟨a0, a1, a2, a3⟩, _⟩ := hx1
    rw [cells46] at hlen
    obtain ⟨l⟩ := cs0
    match l, hlen with
    | [c0, c1, c2, c3], _ =>
      rw [cells3] at e0 e1 e2 e3
      simp at e0 e1 e2 e3
      obtain ⟨k0, b0, d0, _⟩ := DataW.trod_int Tryz.underlying3 e0
      obtain ⟨k1, b1, d1, _⟩ := DataW.trod_int Tryz.underlying3 e1
      obtain ⟨k2, b2, d2, _⟩ := DataW.trod_int Tryz.underlying3 e2
      obtain ⟨k3, b3, d3, _⟩ := DataW.trod_int Tryz.underlying3 e3
      rw [d0] at a0
      rw [d1] at a1
      rw [d2] at a2
      rw [d3] at a3
      simp at a0 a1 a2 a3 b0 b1 b2 b3
      subst a0 a1 a2 a3 b0 b1 b2 b3
      unfold World.var? at hv0
      rw [hg0] at hv0
      simp only [Option.bind_some] at hv0
      split at hv0
      · rename_i cs t fr hh
        simp only [Option.some.injEq] at hv0
        subst hv0
        exact ⟨t, fr, hh⟩
      · cases hv0
/-- what the small machine asks of the world -/
theorem laid_in {W : World} (hs : W.ShapedOpen Tryz.prog) (h : laidMetH Tryz.prog laidB W) : Go.Ev.LaidIn A6.gs0 W := by
  obtain ⟨t, fr, h1⟩ := of_laid h
  have hz : ((begin Tryz.prog (fun _ _ => 0) default).world.heap[0]?).bind Obj.row? = some (#[.int .i64 0, .int .i64 0, .int .i64 0, .int .i64 0], 142) := by kernel_rfl
  obtain ⟨cs, h2, _⟩ := hs.1 0 _ _ (by decide +kernel) hz
  rw [h1] at h2
  simp only [Option.some.injEq, Obj.cells.injEq] at h2
  obtain ⟨rfl, rfl, rfl⟩ := h2
  intro x hx
  simp only [A6.gs0, List.mem_singleton] at hx
  subst hx
  exact ⟨(0, 0), h1, fun i _ => by simp⟩
theorem env : Go.Ev.Env Tryz.prog where
  names := fun f fn h => by
    have hall : (Tryz.prog.funcs.toList.all fun fn => !(fn.name == "runtime.NumGoroutine")) = true := by kernel_rfl
    have := List.all_eq_true.1 hall fn (List.mem_iff_getElem?.2 ⟨f, by simpa using h⟩)
    simpa using this
  mixed := by kernel_rfl
theorem orcKp : Go.Ev.OrcKp A6.orc := by
  intro f args s r s' h
  have h' : (none : Option Go.Ev.Res) = some (some (r, s')) := h
  cases h'
theorem awake_c {W : World} (hs : W.ShapedOpen Tryz.prog) (h : laidMetH Tryz.prog laidB W) (W1 : World) (hg : Gr W W1) :
    Calls Tryz.prog 5 #[] W1 fun e w' => e = .returned (.bool true) ∧ Gr W1 w' := by
  have hl := laid_in hs h
  refine A6.top W1 (fun x hx => ?_) env ?_ orcKp
  · obtain ⟨fr, h1, h2⟩ := hl x hx
    exact ⟨fr, hg.block h1, h2⟩
  · intro f args s r s' h
    have h' : (none : Option Go.Ev.Res) = some (some (r, s')) := h
    cases h'
end Go.Proofs.YthfmgficbnmmnaaGreatDoor
