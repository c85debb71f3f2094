/- HeadNobody: the law. -/
import Derived.Test.YtbobhekbfaghpaaGreatHdD
namespace Go.Proofs.YtbobhekbfaghpaaGreat
open Go.RowKit Go.Joins Go.Maps
set_option linter.unusedVariables false

theorem len_cons {α : Type} {n : Nat} (l : List α) (h : l.length = n + 1) : ∃ x t, l = x :: t ∧ t.length = n := by
  cases l with
  | nil => simp at h
  | cons x t => exact ⟨x, t, rfl, by simpa using h⟩

theorem doCells15 : Tryz.prog.cellsOf 25 = 5 := by kernel_rfl

theorem Nob.below {w w' : World} {v : Value} (h : Nob w v) (hb : Below w.heap.size w w') : Nob w' v := by
  rcases h with h | ⟨e, h1, h2⟩
  · exact .inl h
  · exact .inr ⟨e, h1, (hb.cell (block_lt_of_cell h2)).trans h2⟩

set_option maxHeartbeats 600000 in
theorem append_nob (w : World) (v vr : Value) (hv : Nob w v) : Calls Tryz.prog 4 #[v, vr] w fun e w' => e = .returned (.int .i64 2) ∧ w' = w := by
  have H := hidn (isMade_no w v hv)
  go_enter Tryz.func4, Tryz.ntmps4
  go_wp2_with fail
  refine H.out.mono ?_
  rintro e w0 ⟨rfl, rfl⟩
  go_wp2_with fail
  exact bodyPost_ret (v := .int .i64 2) (by simp [results, Tryz.results4, go_sem]) rfl ⟨rfl, rfl⟩

set_option maxHeartbeats 600000 in
theorem delete_nob (w : World) (v vm vf vt : Value) (hv : Nob w v) : Calls Tryz.prog 5 #[v, vm, vf, vt] w fun e w' => e = .returned (.int .i64 2) ∧ w' = w := by
  have H := hidn (isMade_no w v hv)
  go_enter Tryz.func5, Tryz.ntmps5
  go_wp2_with fail
  refine H.out.mono ?_
  rintro e w0 ⟨rfl, rfl⟩
  go_wp2_with fail
  exact bodyPost_ret (v := .int .i64 2) (by simp [results, Tryz.results5, go_sem]) rfl ⟨rfl, rfl⟩

set_option maxHeartbeats 600000 in
theorem raise_nob (w : World) (v vf : Value) (hv : Nob w v) : Calls Tryz.prog 6 #[v, vf] w fun e w' => e = .returned (.int .i64 2) ∧ w' = w := by
  have H := hidn (isMade_no w v hv)
  go_enter Tryz.func6, Tryz.ntmps6
  go_wp2_with fail
  refine H.out.mono ?_
  rintro e w0 ⟨rfl, rfl⟩
  go_wp2_with fail
  exact bodyPost_ret (v := .int .i64 2) (by simp [results, Tryz.results6, go_sem]) rfl ⟨rfl, rfl⟩

set_option maxHeartbeats 600000 in
theorem select_nob (w : World) (v vm vf vt : Value) (hv : Nob w v) : Calls Tryz.prog 7 #[v, vm, vf, vt] w fun e w' => e = .returned (.slice none 0 0) ∧ w' = w := by
  have H := hidn (isMade_no w v hv)
  go_enter Tryz.func7, Tryz.ntmps7
  go_wp2_with fail
  refine H.out.mono ?_
  rintro e w0 ⟨rfl, rfl⟩
  go_wp2_with fail
  exact bodyPost_ret (v := .slice none 0 0) (by simp [results, Tryz.results7, go_sem]) rfl ⟨rfl, rfl⟩

set_option maxHeartbeats 600000 in
theorem all_nob (w : World) (v : Value) (hv : Nob w v) : Calls Tryz.prog 8 #[v] w fun e w' => e = .returned (.slice none 0 0) ∧ w' = w := by
  have H := hidn (fun vm vf vt => select_nob w v vm vf vt hv)
  go_enter Tryz.func8, Tryz.ntmps8
  go_wp2_with fail
  refine (H.out _ _ _).mono ?_
  rintro e w0 ⟨rfl, rfl⟩
  go_wp2_with fail
  exact bodyPost_ret (v := .slice none 0 0) (by simp [results, Tryz.results8, go_sem]) rfl ⟨rfl, rfl⟩

set_option maxHeartbeats 600000 in
theorem samples_nob (w : World) (v : Value) (hv : Nob w v) : Calls Tryz.prog 9 #[v] w fun e w' => e = .returned (.int .i64 0) ∧ w' = w := by
  have H := hidn (isMade_no w v hv)
  go_enter Tryz.func9, Tryz.ntmps9
  go_wp2_with fail
  refine H.out.mono ?_
  rintro e w0 ⟨rfl, rfl⟩
  go_wp2_with fail
  exact bodyPost_ret (v := .int .i64 0) (by simp [results, Tryz.results9, go_sem]) rfl ⟨rfl, rfl⟩

set_option maxHeartbeats 600000 in
set_option maxRecDepth 100000 in
theorem headNobody_walk (y0 y1 y2 y3 y4 : Value) (w : World) :
    Calls Tryz.prog 3 #[.agg #[y0, y1, y2, y3, y4]] w fun e w' => e = .returned (.bool true) ∧ Below w.heap.size w w' := by
  obtain ⟨w1, hw1⟩ : ∃ w1, w1 = ((w.alloc (.cells #[y0, y1, y2, y3, y4] 25)).alloc (.cells #[.map none] 29)).alloc (.cells #[.pointer none, .pointer (some ⟨w.heap.size + 1, 0, none⟩)] 26) := ⟨_, rfl⟩
  have HW1 := hidn hw1
  go_enter Tryz.func3, Tryz.ntmps3
  clear hw1
  have b1 : Below w.heap.size w w1 := by rw [HW1.out]; exact (((Below.refl _ w).alloc (Nat.le_refl _) _).alloc (by simp) _).alloc (by simp; omega) _
  have q0 : w1.heap[w.heap.size]? = some (.cells #[y0, y1, y2, y3, y4] 25 (0, 0)) := by
    rw [HW1.out, heap_alloc_old _ _ (by simp; omega), heap_alloc_old _ _ (by simp)]
    exact heap_alloc_new w _
  have q1 : w1.heap[w.heap.size + 1]? = some (.cells #[.map none] 29 (0, 0)) := by
    rw [HW1.out, heap_alloc_old _ _ (by simp)]
    exact heap_alloc2_new w _ _
  have q2 : w1.heap[w.heap.size + 1 + 1]? = some (.cells #[.pointer none, .pointer (some ⟨w.heap.size + 1, 0, none⟩)] 26 (0, 0)) := by
    have h9 := heap_alloc_new ((w.alloc (.cells #[y0, y1, y2, y3, y4] 25)).alloc (.cells #[.map none] 29)) (.cells #[.pointer none, .pointer (some ⟨w.heap.size + 1, 0, none⟩)] 26)
    rw [← HW1.out] at h9
    simpa using h9
  have d1 : w1.cell? ⟨w.heap.size, 1, none⟩ = some y1 := cell_of_row _ _ _ _ _ _ q0
  have d2 : w1.cell? ⟨w.heap.size, 2, none⟩ = some y2 := cell_of_row _ _ _ _ _ _ q0
  have d3 : w1.cell? ⟨w.heap.size, 3, none⟩ = some y3 := cell_of_row _ _ _ _ _ _ q0
  have d4 : w1.cell? ⟨w.heap.size, 4, none⟩ = some y4 := cell_of_row _ _ _ _ _ _ q0
  have cH : w1.cell? ⟨w.heap.size + 1, 0, none⟩ = some (.map none) := cell_of_row _ _ _ _ _ _ q1
  have p0 : w1.cell? ⟨w.heap.size + 1 + 1, 0, none⟩ = some (.pointer none) := cell_of_row _ _ _ _ _ _ q2
  have p1 : w1.cell? ⟨w.heap.size + 1 + 1, 1, none⟩ = some (.pointer (some ⟨w.heap.size + 1, 0, none⟩)) := cell_of_row _ _ _ _ _ _ q2
  clear q0 q1 q2
  go_wp2_with fail
  rw [← HW1.out]
  go_loopw [9] (fun iv wr => ∃ k : Nat, k ≤ 2 ∧ iv = .int .i64 (k : Int) ∧ Hid (w1 = wr)) (fun iv _ => 2 - (intOf iv).toNat)
  case atStart => exact ⟨0, by omega, rfl, hidn rfl⟩
  case round =>
    obtain ⟨k, hk, rfl, hw⟩ := hrel
    obtain rfl := hw.out
    clear hw
    match k, hk with
    | 0, _ =>
      have hv : Nob w1 (.pointer none) := .inl rfl
      have H1 := hidn (fun vr => append_nob w1 (.pointer none) vr hv)
      have H2 := hidn (fun a b c => delete_nob w1 (.pointer none) a b c hv)
      have H3 := hidn (fun a => raise_nob w1 (.pointer none) a hv)
      have H4 := hidn (fun a b c => select_nob w1 (.pointer none) a b c hv)
      have H5 := hidn (all_nob w1 (.pointer none) hv)
      have H6 := hidn (samples_nob w1 (.pointer none) hv)
      clear hv
      go_wp2_with fail
      refine (H1.out _).mono ?_
      rintro e w2 ⟨rfl, rfl⟩
      go_wp2_with fail
      refine (H2.out _ _ _).mono ?_
      rintro e w3 ⟨rfl, rfl⟩
      go_wp2_with fail
      refine (H3.out _).mono ?_
      rintro e w4 ⟨rfl, rfl⟩
      go_wp2_with fail
      refine (H4.out _ _ _).mono ?_
      rintro e w5 ⟨rfl, rfl⟩
      go_wp2_with fail
      refine H5.out.mono ?_
      rintro e w6 ⟨rfl, rfl⟩
      go_wp2_with fail
      refine H6.out.mono ?_
      rintro e w7 ⟨rfl, rfl⟩
      go_wp2_with fail
      exact ⟨⟨1, by omega, by simp, trivial⟩, by simp [intOf]⟩
    | 1, _ =>
      have hv : Nob w1 (.pointer (some ⟨w.heap.size + 1, 0, none⟩)) := .inr ⟨_, rfl, cH⟩
      have H1 := hidn (fun vr => append_nob w1 (.pointer (some ⟨w.heap.size + 1, 0, none⟩)) vr hv)
      have H2 := hidn (fun a b c => delete_nob w1 (.pointer (some ⟨w.heap.size + 1, 0, none⟩)) a b c hv)
      have H3 := hidn (fun a => raise_nob w1 (.pointer (some ⟨w.heap.size + 1, 0, none⟩)) a hv)
      have H4 := hidn (fun a b c => select_nob w1 (.pointer (some ⟨w.heap.size + 1, 0, none⟩)) a b c hv)
      have H5 := hidn (all_nob w1 (.pointer (some ⟨w.heap.size + 1, 0, none⟩)) hv)
      have H6 := hidn (samples_nob w1 (.pointer (some ⟨w.heap.size + 1, 0, none⟩)) hv)
      clear hv
      go_wp2_with fail
      refine (H1.out _).mono ?_
      rintro e w2 ⟨rfl, rfl⟩
      go_wp2_with fail
      refine (H2.out _ _ _).mono ?_
      rintro e w3 ⟨rfl, rfl⟩
      go_wp2_with fail
      refine (H3.out _).mono ?_
      rintro e w4 ⟨rfl, rfl⟩
      go_wp2_with fail
      refine (H4.out _ _ _).mono ?_
      rintro e w5 ⟨rfl, rfl⟩
      go_wp2_with fail
      refine H5.out.mono ?_
      rintro e w6 ⟨rfl, rfl⟩
      go_wp2_with fail
      refine H6.out.mono ?_
      rintro e w7 ⟨rfl, rfl⟩
      go_wp2_with fail
      exact ⟨⟨2, by omega, by simp, trivial⟩, by simp [intOf]⟩
    | 2, _ =>
      have HA := hidn (awake15 w1)
      go_wp2_with fail
      refine HA.out.mono ?_
      rintro e w2 ⟨rfl, b2⟩
      have B2 := b1.trans (b2.mono b1.size)
      go_wp2_with fail
      exact bodyPost_ret (v := .bool true) (by simp [results, Tryz.results3, go_sem]) rfl ⟨rfl, B2⟩

end Go.Proofs.YtbobhekbfaghpaaGreat
