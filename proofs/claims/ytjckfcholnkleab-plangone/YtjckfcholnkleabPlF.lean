/- slices.Equal of numbers, dryrotlaw16.cut. -/
import Derived.Test.YtjckfcholnkleabPlC
import Derived.Deep.RegionWith
namespace Go.Proofs.Ytjckfcholnkleab
open Go.RowKit Go.Joins
set_option linter.unusedVariables false

theorem cut_min (len : Nat) : ∃ n : Nat, n ≤ len ∧ n ≤ 14 ∧ min (len : Int) 14 = (n : Int) ∧ (if (14 : Int) < (len : Int) then (14 : Int) else (len : Int)) = (n : Int) := by
  refine ⟨min len 14, by omega, by omega, by omega, ?_⟩
  split <;> omega

set_option maxHeartbeats 2000000 in
theorem cut_any (a : Option Addr) (len cap : Nat) (w : World) (hc : len ≤ cap) : ∃ n, n ≤ len ∧ n ≤ 14 ∧
    Calls Try.prog 4 #[.slice a len cap] w fun e w' => e = .returned (.slice a n cap) ∧ w' = w := by
  obtain ⟨n, hn1, hn2, hn3, hn4⟩ := cut_min len
  refine ⟨n, hn1, hn2, ?_⟩
  have nc : (n : Int) ≤ (cap : Int) := by omega
  go_enter Try.func4, Try.ntmps4
  go_wp2_with fail
  exact bodyPost_ret (v := .slice a n cap) (by simp [results, Try.results4, go_sem]) rfl ⟨rfl, rfl⟩

end Go.Proofs.Ytjckfcholnkleab
