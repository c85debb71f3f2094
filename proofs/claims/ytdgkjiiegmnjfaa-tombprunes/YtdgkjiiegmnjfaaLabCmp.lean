/- labels.Compare, slices.Equal of labels: contracts at any lists. -/
import Derived.Test.YtdgkjiiegmnjfaaLabDrawn
import Derived.BigQuiet
import Derived.Shelf.Abstract
import Derived.BigCall
import Derived.Deep.QuietTactic
namespace Go.Proofs.Ytdgkjiiegmnjfaa
open Go.RowKit Go.Shelf
set_option linter.unusedVariables false

theorem drew_cell (w : World) (p : Addr) : w.drew.cell? p = w.cell? p := rfl
def orZ (x y : Int) : Int := if x = 0 then y else x

end Go.Proofs.Ytdgkjiiegmnjfaa