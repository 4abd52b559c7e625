import Derived.Test.YtaapaijdcgpdkaaEvPath
import Derived.Test.YtaapaijdcgpdkaaProg
import Derived.KernelRfl
set_option linter.unusedVariables false
open Go Go.Ev Go.Proofs Go.RowKit
namespace A9
noncomputable abbrev prog := Try.prog
noncomputable def orc : Orc := fun _ _ _ => none
def gs0 : List (Nat × Cs) := []
noncomputable abbrev tm0 : Ctx := ⟨.leaf, (fnOf prog 9).ntmps, []⟩
noncomputable abbrev s0 : S := Ev.start gs0
def tm1 : Ctx := ⟨(.node .leaf (some (.bool true)) .leaf), (nat_lit 73), []⟩
def s1 : S := ⟨.leaf, (nat_lit 384), (nat_lit 256), none, []⟩
def ns1 : List Nat := []
def ts1 : List Nat := [(nat_lit 0)]
-- 128 names
theorem p1 : (Ev.run prog orc 100000 none (bodyOf prog 9) tm0 s0).bnd (fun r => some (only ns1 ts1 r)) = some (.ret, tm1, s1) := by kernel_rfl
theorem all [Go.Ev.Ground] (hE : Env prog) (horc : OrcOK prog orc) (hokp : OrcKp orc) : Ends prog none (bodyOf prog 9) tm0 s0 .ret tm1 s1 :=
  (Ends.run hE horc hokp 100000 ns1 ts1 p1)
theorem top (w : World) (hw : LaidIn gs0 w) (hE : Env prog) (horc : @OrcOK ⟨w⟩ prog orc) (hokp : OrcKp orc) : Calls prog 9 #[] w fun e w' => e = .returned (.bool true) ∧ Below w.heap.size w w' := by
  letI : Go.Ev.Ground := ⟨w⟩
  exact Ends.top w (gs := gs0) (by kernel_rfl) hw (by kernel_rfl) (all hE horc hokp) (by kernel_rfl) (by kernel_rfl)
end A9
