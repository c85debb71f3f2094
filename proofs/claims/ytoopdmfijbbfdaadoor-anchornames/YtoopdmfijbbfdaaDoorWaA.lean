/- The log: the small ones: Need, isNumber, isMade, halves, Name of a small number. -/
import Derived.Test.YtoopdmfijbbfdaaDoorPairBase
import Derived.Test.YtoopdmfijbbfdaaDoorWaShelf
namespace Go.Proofs.YtoopdmfijbbfdaaDoor
open Go.RowKit Go.Maps
set_option linter.unusedVariables false

/-- How many extents a record has. -/
def needB (size : Int) : Nat := if size < 1 ∨ 1000000 < size then 0 else (size.toNat + 3) / 106 + 1

theorem needB_yes (n : Nat) (h1 : 1 ≤ n) (h2 : n ≤ 1000000) : needB (n : Int) = (n + 3) / 106 + 1 := by
  unfold needB
  rw [if_neg (by omega)]
  simp

/-- A segment's name. -/
def segN (k : Nat) : ByteArray := ⟨#[119]⟩ ++ ⟨(Lib.decDigits k).toArray⟩

end Go.Proofs.YtoopdmfijbbfdaaDoor
