/- slices.Equal of numbers, dryrotlaw16.cut. -/
import Derived.Test.YteammmhlpinhfaaGreatDoorPlC
import Derived.Deep.RegionWith
namespace Go.Proofs.YteammmhlpinhfaaGreatDoor
open Go.RowKit Go.Joins
set_option linter.unusedVariables false

theorem cut_min (len : Nat) : ∃ n : Nat, n ≤ len ∧ n ≤ 14 ∧ min (len : Int) 14 = (n : Int) ∧ (if (14 : Int) < (len : Int) then (14 : Int) else (len : Int)) = (n : Int) := by
  refine ⟨min len 14, by omega, by omega, by omega, ?_⟩
  split <;> omega

end Go.Proofs.YteammmhlpinhfaaGreatDoor
