/- Starters: the reference's Groups. -/
import Derived.Test.YtcnpmebihdonoaaGreatDoorLsM
namespace Go.Proofs.YtcnpmebihdonoaaGreatDoor
open Go.RowKit Go.Lib
set_option linter.unusedSimpArgs false
set_option linter.unusedVariables false
end Go.Proofs.YtcnpmebihdonoaaGreatDoor
