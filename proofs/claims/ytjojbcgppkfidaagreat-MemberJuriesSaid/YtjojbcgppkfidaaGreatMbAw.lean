/- Members: awake(). -/
import Derived.Test.YtjojbcgppkfidaaGreatGOpN
namespace Go.Proofs.YtjojbcgppkfidaaGreat
open Go.RowKit Go.Lib
/-- all calls of awake() return true -/
def AwakeOK (w : World) : Prop := ∀ W, Gr w W → Calls Tryz.prog 5 #[] W fun e w' => e = .returned (.bool true) ∧ Gr W w'
end Go.Proofs.YtjojbcgppkfidaaGreat
