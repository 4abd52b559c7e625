/- Juries: awake(). -/
import Derived.Test.YtjojbcgppkfidaaGreatRows
import Derived.Test.YtjojbcgppkfidaaGreatAwake
import Derived.Test.YtjojbcgppkfidaaGreatMbAw
import Derived.ProofKit
namespace Go.Proofs.YtjojbcgppkfidaaGreat
open Go.ChangeShapes Go.WideShapes Go.ChangeAt Go.WideMaps Go.WideElems Go.RowKit
theorem ownJ : ownKnob Tryz.prog.godebug = none := by kernel_rfl
theorem env : Go.Ev.Env Tryz.prog where
  names := fun f fn h => by
    have hall : (Tryz.prog.funcs.toList.all fun fn => !(fn.name == "runtime.NumGoroutine")) = true := by kernel_rfl
    have := List.all_eq_true.1 hall fn (List.mem_iff_getElem?.2 ⟨f, by simpa using h⟩)
    simpa using this
  mixed := by kernel_rfl
theorem orcKp : Go.Ev.OrcKp A9.orc := by
  intro f args s r s' h
  have h' : (none : Option Go.Ev.Res) = some (some (r, s')) := h
  cases h'
theorem awake_ok (W : World) : AwakeOK W := fun W1 _ => by
  refine A9.top W1 (fun x hx => by cases hx) env ?_ orcKp
  intro f args s r s' h
  have h' : (none : Option Go.Ev.Res) = some (some (r, s')) := h
  cases h'
end Go.Proofs.YtjojbcgppkfidaaGreat
