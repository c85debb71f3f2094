/- fsck on a disk that no call made. -/
import Derived.Test.YteammmhlpinhfaaGreatDoorFkH
import Derived.Test.YteammmhlpinhfaaGreatDoorNobody
import Derived.Laws.ResultCell
import Derived.Laws.CopyOwn
namespace Go.Proofs.YteammmhlpinhfaaGreatDoor
open Go.RowKit Go.Maps
set_option linter.unusedVariables false

theorem fk_rowtmp {P : Program} {fn : Func} {p u : Tmp} {ty : TypeId} (h : fn.results = #[.cell p ty, .tmp u]) (tmps : Array Value) (w : World) (g : Nat) (t : TypeId) (cs : Array Value) (fr : Nat × Nat) (d : TypeDesc)
    (hp : tmps.getD p undef = .pointer (some ⟨g, 0, none⟩)) (hg : w.heap[g]? = some (.cells cs t fr))
    (hu : P.underlying ty = some d) (hd : (match d with | .struct _ | .array _ _ => true | _ => false) = true) (hi : (P.info? ty).map (·.size) = some cs.size) (x : Value) (hx : tmps.getD u undef = x) :
    (results fn tmps).run P w = .ok (.tuple #[.agg cs, x]) w := by
  rw [results_cell_tmp h, hp, hx]
  simp [asAddr, run_loadVar_row w g t ty cs fr d hg hu hd hi]

theorem fk_below1 (w : World) (o : Obj) : Below w.heap.size w (w.alloc o) := (Below.refl _ w).alloc (Nat.le_refl _) _

set_option maxHeartbeats 1000000 in
theorem fk_ancMade (w : World) (v : Value) (h : Unmade w v) :
    Calls Tryz.prog 30 #[v] w fun e w' => e = .returned (.bool false) ∧ Below w.heap.size w w' := by
  go_enter Tryz.func30, Tryz.ntmps30
  go_wp2_with fail
  refine (read_un _ v h _ _).mono ?_
  rintro e w1 ⟨rfl, hb⟩
  go_wp2
  go_ret
  exact ⟨rfl, hb⟩

set_option maxHeartbeats 2000000 in
theorem fk_load (w : World) (v : Value) (h : Unmade w v) :
    Calls Tryz.prog 11 #[v] w fun e w' => e = .returned (.tuple #[.agg #[.int .i64 0, .int .i64 0, .int .i64 0, .int .i64 0, .int .i64 0, .int .i64 0, .int .i64 0, .int .i64 0, .int .i64 0, .int .i64 0], .int .i64 2]) ∧ Below w.heap.size w w' := by
  go_enter Tryz.func11, Tryz.ntmps11
  go_wp2_with fail
  refine (fk_ancMade _ v (h.below (fk_below1 _ _))).mono ?_
  rintro e w0 ⟨rfl, hb0⟩
  have HB0 := hidn ((fk_below1 w _).trans (hb0.mono (fk_below1 w _).size))
  have HZ2 := hidn ((hb0.block w.heap.size (by rw [World.size_alloc]; omega)).trans (heap_alloc_new w _))
  clear hb0
  simp only []
  go_at_K
  repeat (first
    | (with_reducible refine wpList_store_row (by rfl) 44 (.tmp 2) (.tmp 11) (by rfl) w.heap.size #[.int .i64 0, .int .i64 0, .int .i64 0, .int .i64 0, .int .i64 0, .int .i64 0, .int .i64 0, .int .i64 0, .int .i64 0, .int .i64 0] (by kernel_rfl) (by kernel_rfl) 44 #[.int .i64 0, .int .i64 0, .int .i64 0, .int .i64 0, .int .i64 0, .int .i64 0, .int .i64 0, .int .i64 0, .int .i64 0, .int .i64 0] HZ2.out (by kernel_rfl) (by kernel_rfl) (by kernel_rfl) ?_)
    | go_values | go_skip | go_guarded | go_step | go_upon)
  exact bodyPost_ret (v := .tuple #[.agg #[.int .i64 0, .int .i64 0, .int .i64 0, .int .i64 0, .int .i64 0, .int .i64 0, .int .i64 0, .int .i64 0, .int .i64 0, .int .i64 0], .int .i64 2]) (fk_rowtmp rfl _ _ w.heap.size 44 #[.int .i64 0, .int .i64 0, .int .i64 0, .int .i64 0, .int .i64 0, .int .i64 0, .int .i64 0, .int .i64 0, .int .i64 0, .int .i64 0] (0, 0) _ rfl (setRow_heap _ _ _ _ _ _ HZ2.out) Tryz.underlying44 rfl (by kernel_rfl) _ rfl) rfl ⟨rfl, below_setRow HB0.out (Nat.le_refl _) _⟩

set_option maxHeartbeats 1000000 in
theorem fk_run (w : World) (v : Value) (h : Unmade w v) :
    Calls Tryz.prog 5 #[v] w fun e w' => e = .returned (.int .i64 2) ∧ Below w.heap.size w w' := by
  go_enter Tryz.func5, Tryz.ntmps5
  go_wp2_with fail
  refine (fk_load _ v h).mono ?_
  rintro e w1 ⟨rfl, b1⟩
  have HB1 := hidn (b1.alloc b1.size (.cells #[.int .i64 0, .int .i64 0, .int .i64 0, .int .i64 0, .int .i64 0, .int .i64 0, .int .i64 0, .int .i64 0, .int .i64 0, .int .i64 0] 44))
  clear b1
  go_wp2_with fail
  go_ret
  exact ⟨rfl, HB1.out⟩

set_option maxHeartbeats 1000000 in
theorem fk_isMade (w : World) (v : Value) (h : Unmade w v) :
    Calls Tryz.prog 7 #[v] w fun e w' => e = .returned (.bool false) ∧ Below w.heap.size w w' := by
  go_enter Tryz.func7, Tryz.ntmps7
  go_wp2_with fail
  refine (read_un _ v h _ _).mono ?_
  rintro e w1 ⟨rfl, hb⟩
  go_wp2
  go_ret
  exact ⟨rfl, hb⟩

set_option maxHeartbeats 1000000 in
theorem fk_found (w : World) (v : Value) (h : Unmade w v) (x : Value) :
    Calls Tryz.prog 4 #[v, x] w fun e w' => e = .returned (.tuple #[.slice none 0 0, .int .i64 2]) ∧ Below w.heap.size w w' := by
  go_enter Tryz.func4, Tryz.ntmps4
  go_wp2_with fail
  refine (fk_isMade _ v h).mono ?_
  rintro e w1 ⟨rfl, hb⟩
  go_wp2_with fail
  go_ret2
  exact ⟨rfl, hb⟩

def NB0 (w : World) (n : Nat) : Prop := w.heap[n]? = some (.cells #[.map none, .int .i64 0, .int .i64 0] 25 (0, 0)) ∧ w.heap[n + 1]? = some (.cells #[.pointer none, .pointer (some ⟨n, 0, none⟩)] 22 (0, 0))
theorem NB0.below {w w' : World} {n : Nat} (h : NB0 w n) (hb : Below w.heap.size w w') : NB0 w' n := by
  obtain ⟨h2, h3⟩ := h
  exact ⟨(hb.block _ (Array.getElem?_eq_some_iff.1 h2).1).trans h2, (hb.block _ (Array.getElem?_eq_some_iff.1 h3).1).trans h3⟩
theorem NB0.disk {w : World} {n : Nat} (h : NB0 w n) (k : Nat) (hk : k < 2) : ∃ v, w.cell? ⟨n + 1, k, none⟩ = some v ∧ Unmade w v := by
  have hc : w.cell? ⟨n + 1, k, none⟩ = (#[.pointer none, .pointer (some ⟨n, 0, none⟩)] : Array Value)[k]? := cell_of_row _ _ _ _ _ _ h.2
  match k, hk with
  | 0, _ => exact ⟨_, hc, .inl rfl⟩
  | 1, _ => exact ⟨_, hc, .inr ⟨n, rfl, by rw [cell_of_row _ _ _ _ _ _ h.1]; rfl, (Array.getElem?_eq_some_iff.1 h.1).1⟩⟩
theorem NB0.new (w : World) : NB0 ((w.alloc (.cells #[.map none, .int .i64 0, .int .i64 0] 25)).alloc (.cells #[.pointer none, .pointer (some ⟨w.heap.size, 0, none⟩)] 22)) w.heap.size := by
  have hs : ∀ (w : World) (o : Obj), (w.alloc o).heap = w.heap.push o := fun w o => rfl
  refine ⟨?_, ?_⟩
  · rw [hs, Array.getElem?_push, if_neg (by rw [hs, Array.size_push]; omega), hs, Array.getElem?_push, if_pos rfl]
  · rw [hs, Array.getElem?_push, if_pos (by rw [hs, Array.size_push])]

end Go.Proofs.YteammmhlpinhfaaGreatDoor
