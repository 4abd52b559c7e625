/- The world at the start of a law of chapter 10, and awake(). -/
import Derived.Test.YtnihclhhbegjhaaGreatDoorRows
import Derived.Test.YtnihclhhbegjhaaGreatDoorGNat
import Derived.Test.YtnihclhhbegjhaaGreatDoorAwake
import Derived.ProofKit
import Derived.LaidMore
import Derived.OpenShut
import Derived.Stop.Joined
import Derived.Lay
import Derived.Lib.LaidTab
namespace Go.Proofs.YtnihclhhbegjhaaGreatDoor
open Go.ChangeShapes Go.WideShapes Go.ChangeAt Go.WideMaps Go.WideElems Go.RowKit
theorem own : ownKnob Tryz.prog.godebug = none := by kernel_rfl
theorem gPow : Tryz.prog.globalNamed "internal/strconv.uint64pow10" = some 1 := by kernel_rfl
theorem tPow : (Tryz.prog.globals[1]?).map (·.type) = some 357 := by kernel_rfl
theorem cellsU : Tryz.prog.cellsOf 259 = 1 := by kernel_rfl
theorem cellsP : Tryz.prog.cellsOf 357 = 20 := by kernel_rfl
abbrev laidT : List (String × DataW Unit) := Rows.officeSyncedRow.laid
def powZ : List Int := [1, 10, 100, 1000, 10000, 100000, 1000000, 10000000, 100000000, 1000000000, 10000000000, 100000000000, 1000000000000, 10000000000000, 100000000000000, 1000000000000000, 10000000000000000, 100000000000000000, 1000000000000000000, 10000000000000000000]
theorem door_met (os : Os) (args : Array Value) : laidMetH Tryz.prog laidT ((World.laidAll Tryz.prog os laidT).forCall (fun _ _ => 0) ⟨#[], args, []⟩).memory := by
  rw [MakeChecks.laidMetH_plain _ _ _ (by kernel_rfl)]
  exact laidMet_laidAll args (by kernel_rfl) (by kernel_rfl)
theorem door_shaped (os : Os) (args : Array Value) : ((World.laidAll Tryz.prog os laidT).forCall (fun _ _ => 0) ⟨#[], args, []⟩).Shaped Tryz.prog := World.shaped_of_ZipB (by kernel_rfl) (by kernel_rfl)
theorem vars_reads {P : Program} {w : World} : ∀ {l : List (String × DataW Unit)} {ps : List MemPlace}, DataW.LaidVars P w l ps → ∀ n d, (n, d) ∈ l →
    ∃ g t cs fuel p, P.globalNamed n = some g ∧ (P.globals[g]?).map (·.type) = some t ∧ w.var? P n = some cs ∧ DataW.trod (fun _ => ()) P w 0 (fun _ => true) false fuel t cs.toList = some (d, p)
  | [], _, _, _, _, hm => by cases hm
  | (n', d') :: r, ps, h, n, d, hm => by
    obtain ⟨g, t, cs, fuel, p, q, h1, h2, h3, h4, h5, _⟩ := h
    rcases List.mem_cons.1 hm with e | e
    · cases e
      exact ⟨g, t, cs, fuel, p, h1, h2, h3, h4⟩
    · exact vars_reads h5 n d e
set_option maxRecDepth 100000 in
theorem of_laid {W : World} (h : laidMetH Tryz.prog laidT W) : ∃ t fr, W.heap[1]? = some (.cells ⟨powZ.map (Value.int .u64)⟩ t fr) := by
  rw [MakeChecks.laidMetH_plain _ _ _ (by kernel_rfl)] at h
  obtain ⟨ps, hv, _⟩ := h
  obtain ⟨g, t, cs, fuel, p, hg, hty, hvar, hd⟩ := vars_reads hv "internal/strconv.uint64pow10" (Lib.tabData .u64 powZ) (.tail _ (.tail _ (.head _)))
  obtain rfl := Option.some.inj (gPow.symm.trans hg)
  obtain rfl := Option.some.inj (tPow.symm.trans hty)
  have hcs := Lib.cells_of_tab Tryz.underlying357 Tryz.underlying259 cellsU cellsP hd
  unfold World.var? at hvar
  rw [hg] at hvar
  simp only [Option.bind_some] at hvar
  split at hvar
  · rename_i cs' t fr hh
    simp only [Option.some.injEq] at hvar
    subst hvar
    obtain ⟨l⟩ := cs'
    simp only at hcs
    subst hcs
    exact ⟨t, fr, hh⟩
  · cases hvar
theorem laid_in {W : World} (hs : W.ShapedOpen Tryz.prog) (h : laidMetH Tryz.prog laidT W) : Go.Ev.LaidIn A10.gs0 W := by
  obtain ⟨t, fr, h1⟩ := of_laid h
  have hz : ((begin Tryz.prog (fun _ _ => 0) default).world.heap[1]?).bind Obj.row? = some (#[.int .u64 0, .int .u64 0, .int .u64 0, .int .u64 0, .int .u64 0, .int .u64 0, .int .u64 0, .int .u64 0, .int .u64 0, .int .u64 0, .int .u64 0, .int .u64 0, .int .u64 0, .int .u64 0, .int .u64 0, .int .u64 0, .int .u64 0, .int .u64 0, .int .u64 0, .int .u64 0], 357) := by kernel_rfl
  obtain ⟨cs, h2, _⟩ := hs.1 1 _ _ (by decide +kernel) hz
  rw [h1] at h2
  simp only [Option.some.injEq, Obj.cells.injEq] at h2
  obtain ⟨rfl, rfl, rfl⟩ := h2
  intro x hx
  simp only [A10.gs0, List.mem_singleton] at hx
  subst hx
  exact ⟨(0, 0), h1, fun i _ => by simp⟩
theorem env : Go.Ev.Env Tryz.prog where
  names := fun f fn h => by
    have hall : (Tryz.prog.funcs.toList.all fun fn => !(fn.name == "runtime.NumGoroutine")) = true := by kernel_rfl
    have := List.all_eq_true.1 hall fn (List.mem_iff_getElem?.2 ⟨f, by simpa using h⟩)
    simpa using this
  mixed := by kernel_rfl
theorem orcKp : Go.Ev.OrcKp A10.orc := by
  intro f args s r s' h
  have h' : (none : Option Go.Ev.Res) = some (some (r, s')) := h
  cases h'
theorem awake_c {W : World} (hs : W.ShapedOpen Tryz.prog) (h : laidMetH Tryz.prog laidT W) (W1 : World) (hg : Gr W W1) :
    Calls Tryz.prog 10 #[] W1 fun e w' => e = .returned (.bool true) ∧ Gr W1 w' := by
  have hl := laid_in hs h
  refine A10.top W1 (fun x hx => ?_) env ?_ orcKp
  · obtain ⟨fr, h1, h2⟩ := hl x hx
    exact ⟨fr, hg.block h1, h2⟩
  · intro f args s r s' h
    have h' : (none : Option Go.Ev.Res) = some (some (r, s')) := h
    cases h'
end Go.Proofs.YtnihclhhbegjhaaGreatDoor
