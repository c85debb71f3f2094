/- The log: a disk that no call made; a record that is cut. -/
import Derived.Test.YtplielcjfmomlaaDoorMh
import Derived.Test.YtplielcjfmomlaaDoorNobody
import Derived.Test.YtplielcjfmomlaaDoorSNobodyWalk
import Derived.Test.YtplielcjfmomlaaDoorDrawn
namespace Go.Proofs.YtplielcjfmomlaaDoor
open Go.RowKit Go.Maps
set_option linter.unusedVariables false

set_option maxHeartbeats 1000000 in
theorem wMade_un (w : World) (v : Value) (h : Unmade w v) :
    Calls Tryd.prog 25 #[v] w fun e w' => e = .returned (.bool false) ∧ Below w.heap.size w w' := by
  go_enter Tryd.func25, Tryd.ntmps25
  go_wp2_with fail
  refine (read_un _ v h _ _).mono ?_
  rintro e w1 ⟨rfl, hb⟩
  go_wp2
  go_ret
  exact ⟨rfl, hb⟩

set_option maxHeartbeats 1000000 in
theorem wAppend_un (w : World) (v : Value) (h : Unmade w v) (y0 y1 y2 y3 : Value) :
    Calls Tryd.prog 9 #[v, y0, y1, y2, y3] w fun e w' => e = .returned (.tuple #[.int .i64 0, .int .i64 2]) ∧ Below w.heap.size w w' := by
  go_enter Tryd.func9, Tryd.ntmps9
  go_wp2_with fail
  refine (wMade_un _ v h).mono ?_
  rintro e w1 ⟨rfl, hb⟩
  go_wp2
  go_ret2
  exact ⟨rfl, hb⟩

set_option maxHeartbeats 1000000 in
theorem wRead_un (w : World) (v : Value) (h : Unmade w v) (y0 y1 : Value) :
    Calls Tryd.prog 20 #[v, y0, y1] w fun e w' => e = .returned (.tuple #[.slice none 0 0, .int .i64 2]) ∧ Below w.heap.size w w' := by
  go_enter Tryd.func20, Tryd.ntmps20
  go_wp2_with fail
  refine (wMade_un _ v h).mono ?_
  rintro e w1 ⟨rfl, hb⟩
  go_wp2
  go_ret2
  exact ⟨rfl, hb⟩

set_option maxHeartbeats 1000000 in
theorem cut_any (w : World) (y0 y1 y2 : Value) (a : Option Addr) (l c : Nat) (hlc : l ≤ c) (m : Nat) (HM : Hid (m = min l 500)) :
    Calls Tryd.prog 16 #[.agg #[y0, y1, y2, .slice a l c]] w fun e w' => e = .returned (.slice a m c) ∧ Below w.heap.size w w' := by
  have m1 : min (l : Int) 500 = (m : Int) := by have := HM.out; omega
  have m2 : (if (500 : Int) < (l : Int) then (500 : Int) else (l : Int)) = (m : Int) := by have := HM.out; split <;> omega
  have m3 : (if 500 < l then (500 : Int) else (l : Int)) = (m : Int) := by have := HM.out; split <;> omega
  have h1 : (m : Int) ≤ (c : Int) := by have := HM.out; omega
  have h2 : m ≤ c := by omega
  have h3 : (0 : Int) ≤ (m : Int) := by omega
  clear HM
  go_enter Tryd.func16, Tryd.ntmps16
  go_wp2
  go_ret
  exact ⟨rfl, (Below.refl _ w).alloc (Nat.le_refl _) _⟩
end Go.Proofs.YtplielcjfmomlaaDoor
