/- dryrotplain.SameFooters of equal footers. -/
import Derived.Test.YteammmhlpinhfaaGreatDoorPlJ
namespace Go.Proofs.YteammmhlpinhfaaGreatDoor
open Go.RowKit Go.Joins
set_option linter.unusedVariables false

end Go.Proofs.YteammmhlpinhfaaGreatDoor
