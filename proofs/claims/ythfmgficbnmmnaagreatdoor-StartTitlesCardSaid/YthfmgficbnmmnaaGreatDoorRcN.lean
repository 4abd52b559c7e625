/- Brackets: the law, walked. -/
import Derived.Test.YthfmgficbnmmnaaGreatDoorGRcL
namespace Go.Proofs.YthfmgficbnmmnaaGreatDoor
open Go.RowKit Go.Lib
set_option linter.unusedSimpArgs false
set_option linter.unusedVariables false
def AwakeOK (w : World) : Prop := ∀ W, Gr w W → Calls Tryz.prog 5 #[] W fun e w' => e = .returned (.bool true) ∧ Gr W w'
end Go.Proofs.YthfmgficbnmmnaaGreatDoor
