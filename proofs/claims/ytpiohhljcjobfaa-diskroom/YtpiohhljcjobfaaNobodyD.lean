/- A disk that no call made: what else is asked of it. -/
import Derived.Test.YtpiohhljcjobfaaMa
import Derived.Test.YtpiohhljcjobfaaDiskPut
import Derived.Laws.CopyRow
namespace Go.Proofs.Ytpiohhljcjobfaa
open Go.RowKit Go.Maps
set_option linter.unusedVariables false

set_option maxHeartbeats 1000000 in
theorem write_un (w : World) (v : Value) (h : Unmade w v) (y0 y1 y2 : Value) :
    Calls Try.prog 24 #[v, y0, y1, y2] w fun e w' => e = .returned (.int .i64 2) ∧ Below w.heap.size w w' := by
  go_enter Try.func24, Try.ntmps24
  go_wp2_with fail
  refine (isMade_un _ v h).mono ?_
  rintro e w1 ⟨rfl, rfl⟩
  go_wp2
  go_ret
  exact ⟨rfl, Below.refl _ _⟩

set_option maxHeartbeats 1000000 in
theorem sync_un (w : World) (v : Value) (h : Unmade w v) (y0 : Value) :
    Calls Try.prog 25 #[v, y0] w fun e w' => e = .returned (.int .i64 2) ∧ Below w.heap.size w w' := by
  go_enter Try.func25, Try.ntmps25
  go_wp2_with fail
  refine (isMade_un _ v h).mono ?_
  rintro e w1 ⟨rfl, rfl⟩
  go_wp2
  go_ret
  exact ⟨rfl, Below.refl _ _⟩

set_option maxHeartbeats 1000000 in
theorem remove_un (w : World) (v : Value) (h : Unmade w v) (y0 : Value) :
    Calls Try.prog 30 #[v, y0] w fun e w' => e = .returned (.int .i64 2) ∧ Below w.heap.size w w' := by
  go_enter Try.func30, Try.ntmps30
  go_wp2_with fail
  refine (isMade_un _ v h).mono ?_
  rintro e w1 ⟨rfl, rfl⟩
  go_wp2
  go_ret
  exact ⟨rfl, Below.refl _ _⟩

set_option maxHeartbeats 1000000 in
theorem rot_un (w : World) (v : Value) (h : Unmade w v) (y0 y1 y2 y3 : Value) :
    Calls Try.prog 32 #[v, y0, y1, y2, y3] w fun e w' => e = .returned (.int .i64 2) ∧ Below w.heap.size w w' := by
  go_enter Try.func32, Try.ntmps32
  go_wp2_with fail
  refine (isMade_un _ v h).mono ?_
  rintro e w1 ⟨rfl, rfl⟩
  go_wp2
  go_ret
  exact ⟨rfl, Below.refl _ _⟩

set_option maxHeartbeats 1000000 in
theorem fuse_un (w : World) (v : Value) (h : Unmade w v) (y0 : Value) :
    Calls Try.prog 35 #[v, y0] w fun e w' => e = .returned (.int .i64 2) ∧ Below w.heap.size w w' := by
  go_enter Try.func35, Try.ntmps35
  go_wp2_with fail
  refine (isMade_un _ v h).mono ?_
  rintro e w1 ⟨rfl, rfl⟩
  go_wp2
  go_ret
  exact ⟨rfl, Below.refl _ _⟩

set_option maxHeartbeats 1000000 in
theorem crash_un (w : World) (v : Value) (h : Unmade w v) (y0 : Value) :
    Calls Try.prog 26 #[v, y0] w fun e w' => e = .returned (.int .i64 2) ∧ Below w.heap.size w w' := by
  go_enter Try.func26, Try.ntmps26
  go_wp2_with fail
  refine (isMade_un _ v h).mono ?_
  rintro e w1 ⟨rfl, rfl⟩
  go_wp2
  go_ret
  exact ⟨rfl, Below.refl _ _⟩

set_option maxHeartbeats 1000000 in
theorem list_un (w : World) (v : Value) (h : Unmade w v)  :
    Calls Try.prog 22 #[v] w fun e w' => e = .returned (.slice none 0 0) ∧ Below w.heap.size w w' := by
  go_enter Try.func22, Try.ntmps22
  go_wp2_with fail
  refine (isMade_un _ v h).mono ?_
  rintro e w1 ⟨rfl, rfl⟩
  go_wp2
  go_ret
  exact ⟨rfl, Below.refl _ _⟩

set_option maxHeartbeats 1000000 in
theorem extents_un (w : World) (v : Value) (h : Unmade w v) (y0 : Value) :
    Calls Try.prog 16 #[v, y0] w fun e w' => e = .returned (.int .i64 0) ∧ Below w.heap.size w w' := by
  go_enter Try.func16, Try.ntmps16
  go_wp2_with fail
  refine (isMade_un _ v h).mono ?_
  rintro e w1 ⟨rfl, rfl⟩
  go_wp2
  go_ret
  exact ⟨rfl, Below.refl _ _⟩

set_option maxHeartbeats 1000000 in
theorem free_un (w : World) (v : Value) (h : Unmade w v)  :
    Calls Try.prog 21 #[v] w fun e w' => e = .returned (.int .i64 0) ∧ Below w.heap.size w w' := by
  go_enter Try.func21, Try.ntmps21
  go_wp2_with fail
  refine (isMade_un _ v h).mono ?_
  rintro e w1 ⟨rfl, rfl⟩
  go_wp2
  go_ret
  exact ⟨rfl, Below.refl _ _⟩

set_option maxHeartbeats 1000000 in
theorem copy_un (w : World) (v : Value) (h : Unmade w v)  :
    Calls Try.prog 19 #[v] w fun e w' => e = .returned (.pointer none) ∧ Below w.heap.size w w' := by
  go_enter Try.func19, Try.ntmps19
  go_wp2_with fail
  refine (isMade_un _ v h).mono ?_
  rintro e w1 ⟨rfl, rfl⟩
  go_wp2
  go_ret
  exact ⟨rfl, Below.refl _ _⟩

set_option maxHeartbeats 1000000 in
theorem damaged_un (w : World) (v : Value) (h : Unmade w v) :
    Calls Try.prog 41 #[v] w fun e w' => e = .returned (.slice none 0 0) ∧ Below w.heap.size w w' := by
  go_enter Try.func41, Try.ntmps41
  go_wp2_with fail
  refine (list_un _ v h).mono ?_
  rintro e w1 ⟨rfl, b1⟩
  go_wp2
  go_loopw [3, 10] (fun sv kv wr => sv = .slice none 0 0 ∧ kv = .int .i64 0 ∧ Below w.heap.size w wr) (fun _ _ _ => 0)
  case atStart => exact ⟨rfl, rfl, b1⟩
  case round =>
    obtain ⟨rfl, rfl, hb⟩ := hrel
    go_wp2
    go_ret
    exact ⟨rfl, hb⟩
theorem hidv {p : Prop} (h : p) : Hid p := h
set_option maxHeartbeats 2000000 in
set_option maxRecDepth 100000 in
theorem full_any (w : World) (y0 y1 y2 y3 y4 y6 y7 : Value) (a : Option Addr) (len cap : Nat) (zs : List Nat) (hB : Bs w a len zs) :
    Calls Try.prog 27 #[.agg #[y0, y1, y2, y3, y4, .slice a len cap, y6, y7]] w fun e w' => (∃ v, e = .returned v) ∧ Below w.heap.size w w' := by
  obtain ⟨i0, hi, hz0, hz1, hz2⟩ := info_parts Try.info5
  have hinfo : (Try.prog.info? 5).map (·.size) = some 1 := by rw [hi]; simp [hz1]
  obtain ⟨Z, hZ⟩ : ∃ Z, Z = madeCells (Value.int .u8 0).cells (((128 : Nat) : Int).toNat * i0.size) := ⟨_, rfl⟩
  have hZs : Z.size = 128 := by rw [hZ, size_madeCells, hz1]; simp
  have hmk : ∀ W : World, (Instr.makeSlice 31 (.int .i64 128) (.int .i64 128)).run Try.prog W = .ok (.slice (some ⟨W.heap.size, 0, none⟩) 128 128) (W.alloc (.cells Z 5)) := fun W => by
    have h := run_make (P := Try.prog) W 31 5 i0 (.int .u8 0) Try.underlying31 hi hz0 .i64 .i64 ((128 : Nat) : Int) ((128 : Nat) : Int) (by omega) (by omega) (by rw [hz2]; omega) (by omega)
    rw [← hZ] at h
    simpa using h
  obtain ⟨w2, hw2⟩ : ∃ w2, w2 = (w.alloc (.cells #[y0, y1, y2, y3, y4, .slice a len cap, y6, y7] 34)).alloc (.cells Z 5) := ⟨_, rfl⟩
  have hb2 : Below w.heap.size w w2 := by rw [hw2]; exact ((Below.refl _ _).alloc (Nat.le_refl _) _).alloc (by simp) _
  have hg2 : w2.heap[w.heap.size + 1]? = some (.cells Z 5 (0, 0)) := by
    rw [hw2]
    have := heap_alloc_new (w.alloc (.cells #[y0, y1, y2, y3, y4, .slice a len cap, y6, y7] 34)) (.cells Z 5)
    rw [World.size_alloc] at this
    exact this
  obtain ⟨w3, m, hcp, hb3⟩ : ∃ w3, ∃ m : Int, (Builtin.copy_ #[31, 31] 3 #[.slice (some ⟨w.heap.size + 1, 0, none⟩) 128 128, .slice a len cap]).run Try.prog w2 = .ok (.int .i64 m) w3 ∧ Below w.heap.size w w3 := by
    by_cases h0 : len = 0
    · subst h0
      exact ⟨w2, 0, run_copy_none (P := Try.prog) w2 _ _ 3 5 _ a 128 128 0 cap Try.underlying31 hinfo (by simp), hb2⟩
    · obtain ⟨ab, ao, rfl, _, hac⟩ := hB.pos (by omega)
      have hB2 := hB.below hb2
      have hl := hB.1
      have := run_copy_row (P := Try.prog) w2 31 31 3 5 (w.heap.size + 1) 0 128 128 ⟨ab, ao, none⟩ len cap Z 5 ((vb zs).take (min len 128)) Try.underlying31 hinfo hg2
        (by rw [List.length_take, length_vb, hl]; show min (min len 128) len = min len 128; omega)
        (fun j v hj => by rw [add_none]; exact bs_range hB2 j v (by rw [List.getElem?_take] at hj; split at hj; exact hj; cases hj))
        (by rw [List.length_take, hZs]; omega) (fun v hv => one_vb _ v (List.mem_of_mem_take hv))
      exact ⟨_, _, this, below_setRow hb2 (by omega) _⟩
  rw [hw2] at hcp
  have HB3 := hidv hb3
  clear hb2 hg2 hb3 hw2 hZ hZs hi hz0 hz1 hz2 hinfo hB
  go_enter Try.func27, Try.ntmps27
  go_wp2
  go_ret
  exact ⟨⟨_, rfl⟩, HB3.out⟩
end Go.Proofs.Ytpiohhljcjobfaa
