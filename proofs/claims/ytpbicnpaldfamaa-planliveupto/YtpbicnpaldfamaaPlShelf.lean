/- Contracts of the library at this seat, laid by the kit's own command. -/
import Derived.Shelf.Small.Wraps
import Derived.Shelf.Slices.Equal
import Derived.Ground.Names2Prog
import Derived.Shelf.Slices.Clone
import Derived.Shelf.Slices.SearchI
import Derived.Ground.SlgnProg
import Derived.Shelf.SlicesE.Clone
import Derived.Test.YtpbicnpaldfamaaProg
namespace Go.Proofs
open Go.Shelf
end Go.Proofs
