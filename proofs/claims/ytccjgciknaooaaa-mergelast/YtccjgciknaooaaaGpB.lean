/- merge: Touches of the program. -/
import Derived.Test.YtccjgciknaooaaaGpA
namespace Go.Proofs.Ytccjgciknaooaaa
open Go.RowKit Go.Joins
set_option linter.unusedVariables false

end Go.Proofs.Ytccjgciknaooaaa
