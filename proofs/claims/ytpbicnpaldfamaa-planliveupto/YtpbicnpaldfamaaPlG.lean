/- plan.canStand, isNumber, and the document's number. -/
import Derived.Test.YtpbicnpaldfamaaPlC
import Derived.Deep.RegionWith
namespace Go.Proofs.Ytpbicnpaldfamaa
open Go.RowKit Go.Joins
set_option linter.unusedVariables false

def numB (n : Int) : Bool := decide (1 ≤ n) && decide (n ≤ 4611686018427387904)

def standF (f : Fo) : Bool := numB f.nu && numB f.rk && numB f.ge && decide (1 ≤ f.lv) && decide (f.lv ≤ 3) && decide (0 ≤ f.bt) && decide (f.bt ≤ 2147483647) && decide (f.mn ≤ f.mx)

end Go.Proofs.Ytpbicnpaldfamaa
