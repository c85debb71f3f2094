/- slices.Clone, slices.Equal of bytes: contracts at any bytes. -/
import Derived.Test.YteammmhlpinhfaaGreatDoorBytes
import Derived.Test.YteammmhlpinhfaaGreatDoorLabMath
import Derived.BigQuiet
import Derived.Deep.QuietTactic
namespace Go.Proofs.YteammmhlpinhfaaGreatDoor
open Go.RowKit
set_option linter.unusedVariables false

theorem zs_drop (zs : List Nat) (k : Nat) (h : k < zs.length) : zs.drop k = zs.getD k 0 :: zs.drop (k + 1) := by
  rw [List.drop_eq_getElem_cons h, List.getD_eq_getElem?_getD, List.getElem?_eq_getElem h]; rfl
theorem zs_step (a b : List Nat) (k : Nat) (ha : k < a.length) (hb : k < b.length) : a.drop k = b.drop k ↔ a.getD k 0 = b.getD k 0 ∧ a.drop (k + 1) = b.drop (k + 1) := by
  rw [zs_drop a k ha, zs_drop b k hb]; simp

end Go.Proofs.YteammmhlpinhfaaGreatDoor
