/- Races: the law, walked. -/
import Derived.Test.YthfmgficbnmmnaaGreatDoorRdL
namespace Go.Proofs.YthfmgficbnmmnaaGreatDoor
open Go.RowKit Go.Lib
set_option linter.unusedSimpArgs false
set_option linter.unusedVariables false
end Go.Proofs.YthfmgficbnmmnaaGreatDoor
