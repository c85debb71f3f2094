/- block on a disk that no call made. -/
import Derived.Test.YtfgfkifdokeefaaGreatDoorMg
import Derived.Test.YtfgfkifdokeefaaGreatDoorSNobodyWalk
namespace Go.Proofs.YtfgfkifdokeefaaGreatDoor
open Go.RowKit Go.Joins Go.Maps
set_option linter.unusedVariables false

set_option maxHeartbeats 1000000 in
theorem bk_isMade (w : World) (v : Value) (h : Unmade w v) :
    Calls Tryz.prog 10 #[v] w fun e w' => e = .returned (.bool false) ∧ Below w.heap.size w w' := by
  go_enter Tryz.func10, Tryz.ntmps10
  go_wp2_with fail
  refine (read_un _ v h _ _).mono ?_
  rintro e w1 ⟨rfl, hb⟩
  go_wp2
  go_ret
  exact ⟨rfl, hb⟩

theorem bk_below1 (w : World) (o : Obj) : Below w.heap.size w (w.alloc o) := (Below.refl _ w).alloc (Nat.le_refl _) _

set_option maxHeartbeats 2000000 in
theorem bk_foot (w : World) (v : Value) (h : Unmade w v) (x : Value) :
    Calls Tryz.prog 4 #[v, x] w fun e w' => e = .returned (.tuple #[.agg #[.int .i64 0, .int .i64 0, .int .i64 0, .int .i64 0, .int .i64 0, .int .i64 0, .int .i64 0, .slice none 0 0], .int .i64 2]) ∧ Below w.heap.size w w' := by
  go_enter Tryz.func4, Tryz.ntmps4
  go_wp2_with fail
  refine (bk_isMade _ v (h.below (bk_below1 _ _))).mono ?_
  rintro e w0 ⟨rfl, hb0⟩
  have HB0 := hidn ((bk_below1 w _).trans (hb0.mono (bk_below1 w _).size))
  have HZ2 := hidn ((hb0.block w.heap.size (by rw [World.size_alloc]; omega)).trans (heap_alloc_new w _))
  clear hb0
  simp only []
  go_at_K
  repeat (first
    | (with_reducible refine wpList_store_row (by rfl) 24 (.tmp 4) (.tmp 13) (by rfl) w.heap.size #[.int .i64 0, .int .i64 0, .int .i64 0, .int .i64 0, .int .i64 0, .int .i64 0, .int .i64 0, .slice none 0 0] (by kernel_rfl) (by kernel_rfl) 24 #[.int .i64 0, .int .i64 0, .int .i64 0, .int .i64 0, .int .i64 0, .int .i64 0, .int .i64 0, .slice none 0 0] HZ2.out (by kernel_rfl) (by kernel_rfl) (by kernel_rfl) ?_)
    | go_values | go_skip | go_guarded | go_step | go_upon)
  exact bodyPost_ret (v := .tuple #[.agg #[.int .i64 0, .int .i64 0, .int .i64 0, .int .i64 0, .int .i64 0, .int .i64 0, .int .i64 0, .slice none 0 0], .int .i64 2]) (bk_rowtmp rfl _ _ w.heap.size 24 #[.int .i64 0, .int .i64 0, .int .i64 0, .int .i64 0, .int .i64 0, .int .i64 0, .int .i64 0, .slice none 0 0] (0, 0) _ rfl (setRow_heap _ _ _ _ _ _ HZ2.out) Tryz.underlying24 rfl (by kernel_rfl) _ rfl) rfl ⟨rfl, below_setRow HB0.out (Nat.le_refl _) _⟩

set_option maxHeartbeats 1000000 in
theorem bk_select (w : World) (v : Value) (h : Unmade w v) (y0 y1 y2 y3 y4 y5 y6 y7 m x y : Value) :
    Calls Tryz.prog 5 #[v, .agg #[y0, y1, y2, y3, y4, y5, y6, y7], m, x, y] w fun e w' => e = .returned (.tuple #[.slice none 0 0, .int .i64 2]) ∧ Below w.heap.size w w' := by
  go_enter Tryz.func5, Tryz.ntmps5
  go_wp2_with fail
  refine (bk_isMade _ v (h.below (bk_below1 _ _))).mono ?_
  rintro e w1 ⟨rfl, hb⟩
  have HB := hidn ((bk_below1 w _).trans (hb.mono (bk_below1 w _).size))
  clear hb
  go_wp2_with fail
  exact bodyPost_ret (v := .tuple #[.slice none 0 0, .int .i64 2]) (by simp [results, Tryz.results5, go_sem]) rfl ⟨rfl, HB.out⟩

set_option maxHeartbeats 1000000 in
theorem bk_index (w : World) (v : Value) (h : Unmade w v) (y0 y1 y2 y3 y4 y5 y6 y7 : Value) :
    Calls Tryz.prog 6 #[v, .agg #[y0, y1, y2, y3, y4, y5, y6, y7]] w fun e w' => e = .returned (.tuple #[.bool false, .int .i64 2]) ∧ Below w.heap.size w w' := by
  go_enter Tryz.func6, Tryz.ntmps6
  go_wp2_with fail
  refine (bk_isMade _ v (h.below (bk_below1 _ _))).mono ?_
  rintro e w1 ⟨rfl, hb⟩
  have HB := hidn ((bk_below1 w _).trans (hb.mono (bk_below1 w _).size))
  clear hb
  go_wp2_with fail
  exact bodyPost_ret (v := .tuple #[.bool false, .int .i64 2]) (by simp [results, Tryz.results6, go_sem]) rfl ⟨rfl, HB.out⟩

set_option maxHeartbeats 1000000 in
theorem bk_write (w : World) (v : Value) (h : Unmade w v) (y0 y1 y2 y3 y4 y5 y6 y7 l : Value) :
    Calls Tryz.prog 7 #[v, .agg #[y0, y1, y2, y3, y4, y5, y6, y7], l] w fun e w' => e = .returned (.int .i64 2) ∧ Below w.heap.size w w' := by
  go_enter Tryz.func7, Tryz.ntmps7
  go_wp2_with fail
  refine (bk_isMade _ v (h.below (bk_below1 _ _))).mono ?_
  rintro e w1 ⟨rfl, hb⟩
  have HB := hidn ((bk_below1 w _).trans (hb.mono (bk_below1 w _).size))
  clear hb
  go_wp2_with fail
  exact bodyPost_ret (v := .int .i64 2) (by simp [results, Tryz.results7, go_sem]) rfl ⟨rfl, HB.out⟩

set_option maxHeartbeats 1000000 in
theorem bk_drop (w : World) (v : Value) (h : Unmade w v) (x : Value) :
    Calls Tryz.prog 8 #[v, x] w fun e w' => e = .returned (.int .i64 2) ∧ Below w.heap.size w w' := by
  go_enter Tryz.func8, Tryz.ntmps8
  go_wp2_with fail
  refine (bk_isMade _ v h).mono ?_
  rintro e w1 ⟨rfl, hb⟩
  go_wp2_with fail
  exact bodyPost_ret (v := .int .i64 2) (by simp [results, Tryz.results8, go_sem]) rfl ⟨rfl, hb⟩

theorem bk_cWrite {o : Oper} {a : Act} {w : World} {ts : Array TypeId} {x0 x1 x2 : Nat} {v0 v1 v2 : Value} (ho : o.op = Op.call { callee := Callee.value (Operand.func 7), args := #[.tmp x0, .tmp x1, .tmp x2], argTypes := ts }) (hx0 : a.eval (.tmp x0) = v0) (hx1 : a.eval (.tmp x1) = v1) (hx2 : a.eval (.tmp x2) = v2) : (execOp a.eval o).run Tryz.prog w = .ok (.enter 7 #[v0, v1, v2]) w := by
  simp [go_sem, execOp, ho, resolve, invoke]
  exact ⟨by simpa [Act.eval] using hx0, by simpa [Act.eval] using hx1, by simpa [Act.eval] using hx2⟩

theorem bk_cDrop {o : Oper} {a : Act} {w : World} {ts : Array TypeId} {x0 x1 : Nat} {v0 v1 : Value} (ho : o.op = Op.call { callee := Callee.value (Operand.func 8), args := #[.tmp x0, .tmp x1], argTypes := ts }) (hx0 : a.eval (.tmp x0) = v0) (hx1 : a.eval (.tmp x1) = v1) : (execOp a.eval o).run Tryz.prog w = .ok (.enter 8 #[v0, v1]) w := by
  simp [go_sem, execOp, ho, resolve, invoke]
  exact ⟨by simpa [Act.eval] using hx0, by simpa [Act.eval] using hx1⟩

theorem bk_ldF {o : Oper} {a : Act} {w : World} {x : Operand} {b : Nat} {cs : Array Value} (ho : o.op = Op.load 24 x) (hx : a.eval x = .pointer (some ⟨b, 0, none⟩)) (hb : w.heap[b]? = some (.cells cs 24 (0, 0))) (hs : cs.size = 8) : (execOp a.eval o).run Tryz.prog w = .ok (.value (.agg cs)) w := by
  unfold execOp
  simp only [ho, hx, Instr.loadAt, Instr.sureAddr, Sem.run_bind, Sem.run_pure, Result.andThen_ok, run_loadVar_row w b 24 24 cs (0, 0) _ hb Tryz.underlying24 rfl (by rw [hs]; kernel_rfl)]

theorem bk_bs5 {o : Oper} {a : Act} {w : World} {x0 x1 x2 x3 x4 : Operand} (ho : o.op = Op.buildSlice 40 5 #[(0, x0), (1, x1), (2, x2), (3, x3), (4, x4)]) (h0 : a.eval x0 = .int .i64 2) (h1 : a.eval x1 = .int .i64 2) (h2 : a.eval x2 = .int .i64 2) (h3 : a.eval x3 = .int .i64 2) (h4 : a.eval x4 = .int .i64 2) : (execOp a.eval o).run Tryz.prog w = .ok (.value (.slice (some ⟨w.heap.size, 0, none⟩) 5 5)) (w.alloc (.cells #[.int .i64 2, .int .i64 2, .int .i64 2, .int .i64 2, .int .i64 2] 31)) := by
  have h : (Instr.buildSlice 40 5 #[(0, .int .i64 2), (1, .int .i64 2), (2, .int .i64 2), (3, .int .i64 2), (4, .int .i64 2)]).run Tryz.prog w = .ok (.slice (some ⟨w.heap.size, 0, none⟩) 5 5) (w.alloc (.cells #[.int .i64 2, .int .i64 2, .int .i64 2, .int .i64 2, .int .i64 2] 31)) := by kernel_rfl
  simp [execOp, ho, h0, h1, h2, h3, h4, h, Result.andThen]

theorem doCellsF : Tryz.prog.cellsOf 24 = 8 := by kernel_rfl

theorem bk_five {w : World} {g : Nat} (h : w.heap[g]? = some (.cells #[.int .i64 2, .int .i64 2, .int .i64 2, .int .i64 2, .int .i64 2] 31 (0, 0))) (k : Nat) (hk : k < 5) : w.cell? ⟨g, k, none⟩ = some (.int .i64 2) := by
  rw [cell_of_row _ _ _ _ _ _ h]
  match k, hk with
  | 0, _ => rfl
  | 1, _ => rfl
  | 2, _ => rfl
  | 3, _ => rfl
  | 4, _ => rfl
end Go.Proofs.YtfgfkifdokeefaaGreatDoor
