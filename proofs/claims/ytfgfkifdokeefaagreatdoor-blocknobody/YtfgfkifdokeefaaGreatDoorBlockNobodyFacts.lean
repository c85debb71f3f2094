/- What the row says of the program, fact by fact. -/
import Derived.Test.YtfgfkifdokeefaaGreatDoorCards
import Derived.WalkKit
import Derived.ProofKit
import Derived.OpenShut
namespace Go.Proofs.YtfgfkifdokeefaaGreatDoor.blockNobody
open Go.RowKit

theorem j_inPlace : (Rows.blockNobodyRow.inPlace == Tryz.prog.inPlace 3) = true := by kernel_rfl

theorem j_unfollowed : (Rows.blockNobodyRow.unfollowed == Tryz.prog.unfollowed 3) = true := by kernel_rfl

theorem j_recurses : (Rows.blockNobodyRow.recurses == Tryz.prog.recurses 3) = true := by kernel_rfl

theorem j_named : (Rows.blockNobodyRow.named == Tryz.prog.varsNamed 3) = true := by kernel_rfl

end Go.Proofs.YtfgfkifdokeefaaGreatDoor.blockNobody
