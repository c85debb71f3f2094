/- PlanFloors: the law. -/
import Derived.Test.YtjckfcholnkleaaPlFl
namespace Go.Proofs.Ytjckfcholnkleaa
open Go.RowKit
set_option linter.unusedVariables false
theorem floorS_range {f n k : Int} (hf : -9223372036854775808 ≤ f ∧ f ≤ 9223372036854775807) (hn : -9223372036854775808 ≤ n ∧ n ≤ 9223372036854775807) : -9223372036854775808 ≤ floorS f n k ∧ floorS f n k ≤ 9223372036854775807 := by
  unfold floorS; split <;> omega
set_option maxHeartbeats 2000000 in
theorem planFloors_walk (f n k : Int) (w : World) (hn : -9223372036854775808 ≤ n ∧ n ≤ 9223372036854775807) (hk : -9223372036854775808 ≤ k ∧ k ≤ 9223372036854775807) :
    Calls Try.prog 7 #[.int .i64 f, .int .i64 n, .int .i64 k] w fun e w' => e = .returned (.bool true) ∧ Below w.heap.size w w' := by
  have H1 := hidn (floor_any f n k w hn hk)
  have H2 := hidn (refFloor_any f n k w hn hk)
  have H3 := hidn (floor_any (floorS f n k) n k w hn hk)
  rw [floorS_idem] at H3
  have hge := floorS_ge f n k
  generalize floorS f n k = Z at *
  go_enter Try.func7, Try.ntmps7
  go_wp2_with fail
  refine H1.out.mono ?_
  rintro e w1 ⟨rfl, rfl⟩
  go_wp2_with fail
  refine H2.out.mono ?_
  rintro e w1 ⟨rfl, rfl⟩
  go_wp2_with fail
  refine H3.out.mono ?_
  rintro e w1 ⟨rfl, rfl⟩
  go_wp2_with fail
  refine (awake16 _).mono ?_
  rintro e w1 ⟨rfl, rfl⟩
  go_wp2_with fail
  exact bodyPost_ret (v := .bool true) (by simp [results, Try.results7, go_sem]) rfl ⟨rfl, Below.refl _ _⟩
end Go.Proofs.Ytjckfcholnkleaa
