/- A disk that no call made: what else is asked of it. -/
import Derived.Test.YtjfdhfcjjikliaaNobody
import Derived.Test.YtjfdhfcjjikliaaDiskPut
import Derived.Laws.CopyRow
namespace Go.Proofs.Ytjfdhfcjjikliaa
open Go.RowKit Go.Maps
set_option linter.unusedVariables false

set_option maxHeartbeats 1000000 in
theorem write_un (w : World) (v : Value) (h : Unmade w v) (y0 y1 y2 : Value) :
    Calls Try.prog 5 #[v, y0, y1, y2] w fun e w' => e = .returned (.int .i64 2) ∧ Below w.heap.size w w' := by
  go_enter Try.func5, Try.ntmps5
  go_wp2_with fail
  refine (isMade_un _ v h).mono ?_
  rintro e w1 ⟨rfl, rfl⟩
  go_wp2
  go_ret
  exact ⟨rfl, Below.refl _ _⟩

set_option maxHeartbeats 1000000 in
theorem sync_un (w : World) (v : Value) (h : Unmade w v) (y0 : Value) :
    Calls Try.prog 6 #[v, y0] w fun e w' => e = .returned (.int .i64 2) ∧ Below w.heap.size w w' := by
  go_enter Try.func6, Try.ntmps6
  go_wp2_with fail
  refine (isMade_un _ v h).mono ?_
  rintro e w1 ⟨rfl, rfl⟩
  go_wp2
  go_ret
  exact ⟨rfl, Below.refl _ _⟩

set_option maxHeartbeats 1000000 in
theorem crash_un (w : World) (v : Value) (h : Unmade w v) (y0 : Value) :
    Calls Try.prog 8 #[v, y0] w fun e w' => e = .returned (.int .i64 2) ∧ Below w.heap.size w w' := by
  go_enter Try.func8, Try.ntmps8
  go_wp2_with fail
  refine (isMade_un _ v h).mono ?_
  rintro e w1 ⟨rfl, rfl⟩
  go_wp2
  go_ret
  exact ⟨rfl, Below.refl _ _⟩

end Go.Proofs.Ytjfdhfcjjikliaa