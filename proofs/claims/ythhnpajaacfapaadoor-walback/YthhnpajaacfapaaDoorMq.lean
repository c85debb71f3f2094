/- The log: a disk that no call made; a record that is cut. -/
import Derived.Test.YthhnpajaacfapaaDoorMo
import Derived.Test.YthhnpajaacfapaaDoorMp
import Derived.Test.YthhnpajaacfapaaDoorDrawn
namespace Go.Proofs.YthhnpajaacfapaaDoor
open Go.RowKit Go.Maps
set_option linter.unusedVariables false

set_option maxHeartbeats 1000000 in
theorem wMade_un (w : World) (v : Value) (h : Unmade w v) :
    Calls Tryd.prog 13 #[v] w fun e w' => e = .returned (.bool false) ∧ Below w.heap.size w w' := by
  go_enter Tryd.func13, Tryd.ntmps13
  go_wp2_with fail
  refine (read_un _ v h _ _).mono ?_
  rintro e w1 ⟨rfl, hb⟩
  go_wp2
  go_ret
  exact ⟨rfl, hb⟩

set_option maxHeartbeats 1000000 in
theorem wAppend_un (w : World) (v : Value) (h : Unmade w v) (y0 y1 y2 y3 : Value) :
    Calls Tryd.prog 6 #[v, y0, y1, y2, y3] w fun e w' => e = .returned (.tuple #[.int .i64 0, .int .i64 2]) ∧ Below w.heap.size w w' := by
  go_enter Tryd.func6, Tryd.ntmps6
  go_wp2_with fail
  refine (wMade_un _ v h).mono ?_
  rintro e w1 ⟨rfl, hb⟩
  go_wp2
  go_ret2
  exact ⟨rfl, hb⟩

set_option maxHeartbeats 1000000 in
theorem wRead_un (w : World) (v : Value) (h : Unmade w v) (y0 y1 : Value) :
    Calls Tryd.prog 11 #[v, y0, y1] w fun e w' => e = .returned (.tuple #[.slice none 0 0, .int .i64 2]) ∧ Below w.heap.size w w' := by
  go_enter Tryd.func11, Tryd.ntmps11
  go_wp2_with fail
  refine (wMade_un _ v h).mono ?_
  rintro e w1 ⟨rfl, hb⟩
  go_wp2
  go_ret2
  exact ⟨rfl, hb⟩

set_option maxHeartbeats 1000000 in
theorem cut_any (w : World) (y0 y1 y2 : Value) (a : Option Addr) (l c : Nat) (hlc : l ≤ c) (m : Nat) (HM : Hid (m = min l 500)) :
    Calls Tryd.prog 5 #[.agg #[y0, y1, y2, .slice a l c]] w fun e w' => e = .returned (.slice a m c) ∧ Below w.heap.size w w' := by
  have m1 : min (l : Int) 500 = (m : Int) := by have := HM.out; omega
  have m2 : (if (500 : Int) < (l : Int) then (500 : Int) else (l : Int)) = (m : Int) := by have := HM.out; split <;> omega
  have m3 : (if 500 < l then (500 : Int) else (l : Int)) = (m : Int) := by have := HM.out; split <;> omega
  have h1 : (m : Int) ≤ (c : Int) := by have := HM.out; omega
  have h2 : m ≤ c := by omega
  have h3 : (0 : Int) ≤ (m : Int) := by omega
  clear HM
  go_enter Tryd.func5, Tryd.ntmps5
  go_wp2
  go_ret
  exact ⟨rfl, (Below.refl _ w).alloc (Nat.le_refl _) _⟩
end Go.Proofs.YthhnpajaacfapaaDoor

namespace Go.Proofs.YthhnpajaacfapaaDoor
open Go.RowKit Go.Maps
set_option linter.unusedVariables false

theorem wcall5 {o : Oper} {a : Act} {w : World} {x y z u s : Nat} {vx vy vz vu vs : Value} (ho : o.op = Op.call { callee := Callee.value (Operand.func 6), args := #[.tmp x, .tmp y, .tmp z, .tmp u, .tmp s], argTypes := #[24, 3, 3, 3, 29] }) (hx : a.eval (.tmp x) = vx) (hy : a.eval (.tmp y) = vy) (hz : a.eval (.tmp z) = vz) (hu : a.eval (.tmp u) = vu) (hs : a.eval (.tmp s) = vs) : (execOp a.eval o).run Tryd.prog w = .ok (.enter 6 #[vx, vy, vz, vu, vs]) w := by
  simp [go_sem, execOp, ho, resolve, invoke]
  exact ⟨by simpa [Act.eval] using hx, by simpa [Act.eval] using hy, by simpa [Act.eval] using hz, by simpa [Act.eval] using hu, by simpa [Act.eval] using hs⟩

theorem wcall1 {o : Oper} {a : Act} {w : World} {x : Nat} {vx : Value} (ho : o.op = Op.call { callee := Callee.value (Operand.func 5), args := #[.tmp x], argTypes := #[31] }) (hx : a.eval (.tmp x) = vx) : (execOp a.eval o).run Tryd.prog w = .ok (.enter 5 #[vx]) w := by
  simp [go_sem, execOp, ho, resolve, invoke]
  simpa [Act.eval] using hx

theorem doCellsc : Tryd.prog.cellsOf 31 = 4 := by kernel_rfl

theorem NB.drew {w : World} {n : Nat} {T : TypeId} {ys : Array Value} (h : NB w n T ys) : NB w.drew n T ys := h

theorem infoRec : (Tryd.prog.info? 31).map (·.size) = some 4 := by kernel_rfl

end Go.Proofs.YthhnpajaacfapaaDoor
