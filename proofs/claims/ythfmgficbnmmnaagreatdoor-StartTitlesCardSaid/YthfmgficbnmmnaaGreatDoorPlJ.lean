/- Places: the error; the law's copy; places compared. -/
import Derived.Test.YthfmgficbnmmnaaGreatDoorPlH
namespace Go.Proofs.YthfmgficbnmmnaaGreatDoor
open Go.RowKit Go.Lib
set_option linter.unusedSimpArgs false
set_option linter.unusedVariables false
end Go.Proofs.YthfmgficbnmmnaaGreatDoor
