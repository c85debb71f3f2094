/- labels.Quote: a contract at every text. -/
import Derived.Test.YtobjpofdchjciaaDoorLabBuild
import Derived.Test.YtobjpofdchjciaaDoorLabName
import Derived.Test.YtobjpofdchjciaaDoorLabQuoteMath
namespace Go.Proofs.YtobjpofdchjciaaDoor
open Go.RowKit
set_option linter.unusedVariables false

theorem below_new {w W : World} (o : Obj) (h : Below w.heap.size (w.alloc o) W) : Below w.heap.size w W := ((Below.refl _ w).alloc (Nat.le_refl _) _).trans h
theorem extract_list (s : ByteArray) (a b : Nat) : Lib.strCells (s.extract a b) = Lib.byteCells ((s.data.toList.drop a).take (b - a)) := by
  rw [Lib.strCells_eq, Lib.extract_data]

end Go.Proofs.YtobjpofdchjciaaDoor