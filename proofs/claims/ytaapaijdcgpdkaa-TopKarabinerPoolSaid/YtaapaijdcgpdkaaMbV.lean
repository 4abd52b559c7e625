/- Members: awake(), and categories, read. -/
import Derived.Test.YtaapaijdcgpdkaaRows
import Derived.Test.YtaapaijdcgpdkaaAwake
import Derived.Test.YtaapaijdcgpdkaaGMbA
import Derived.ProofKit
import Derived.OpenShut
import Derived.SizedLaws
import Derived.Carry
import Derived.ChangeSlices
import Derived.Deep.Slices
namespace Go.Proofs.Ytaapaijdcgpdkaa
open Go.ChangeShapes Go.WideShapes Go.ChangeAt Go.WideMaps Go.WideElems Go.RowKit
set_option linter.unusedSimpArgs false
set_option linter.unusedVariables false
theorem own : ownKnob Try.prog.godebug = none := by kernel_rfl
theorem laidOutM : laidOutB Try.prog = true := by kernel_rfl
theorem cellsStr : Try.prog.cellsOf 9 = 1 := by kernel_rfl
theorem cellsInt : Try.prog.cellsOf 3 = 1 := by kernel_rfl
theorem env : Go.Ev.Env Try.prog where
  names := fun f fn h => by
    have hall : (Try.prog.funcs.toList.all fun fn => !(fn.name == "runtime.NumGoroutine")) = true := by kernel_rfl
    have := List.all_eq_true.1 hall fn (List.mem_iff_getElem?.2 ⟨f, by simpa using h⟩)
    simpa using this
  mixed := by kernel_rfl
theorem orcKp : Go.Ev.OrcKp A9.orc := by
  intro f args s r s' h
  have h' : (none : Option Go.Ev.Res) = some (some (r, s')) := h
  cases h'
theorem bound_of {H : Type} {d : DataW H} {n B : Nat} {e t : TypeId} {ts : List TypeId} {ds : List (DataW H)} {j : Nat} (hs : (DataW.weightsEach Try.prog ts ds).all (· ≤ reachBytes) = true) (ht : ts[j]? = some t) (hd : ds[j]? = some d) (hu : Try.prog.underlying t = some (.slice e)) (hB : Try.prog.bytesOf e = B) (h : n = 0 ∨ ∃ el sp, d = .slice el sp ∧ el.length = n) : n * B ≤ 140737488355328 := by
  rcases h with h | ⟨el, sp, rfl, h⟩
  · subst h; simp
  · have h1 := sized_slice hs ht hd hu
    rw [hB, h] at h1
    unfold reachBytes at h1
    have h2 : n * B ≤ (n + sp.length) * B := Nat.mul_le_mul_right _ (by omega)
    omega
instance : Inhabited CatR := ⟨⟨⟨#[]⟩, 0, 0⟩⟩
section
variable {H : Type} {enc : TypeId × Value → H}
end
end Go.Proofs.Ytaapaijdcgpdkaa
