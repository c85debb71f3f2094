/- strings.Clone of a text that is not empty: the same text. -/
import Derived.Test.YtidlogeeophogaaDoorBytes
import Derived.Lib.Strings
import Derived.Lib.UnsafeStr
import Derived.Lib.BufferWrite
import Derived.Laws.MakeOwn
import Derived.Laws.CopyOwn
namespace Go.Proofs.YtidlogeeophogaaDoor
open Go.RowKit
set_option linter.unusedVariables false

set_option maxHeartbeats 1000000 in
theorem lite_clone (s : ByteArray) (w : World) (h0 : s.size ≠ 0) (hl : s.size ≤ 1000000) :
    Calls Tryd.prog 112 #[.string s] w fun e w' => e = .returned (.string s) ∧ Below w.heap.size w w' := by
  obtain ⟨i0, hi, hz0, hz1, hz2⟩ := info_parts Tryd.info5
  have hinfo : (Tryd.prog.info? 5).map (·.size) = some 1 := by rw [hi]; simp [hz1]
  have hco : Tryd.prog.cellsOf 5 = 1 := by kernel_rfl
  obtain ⟨Z, hZ⟩ : ∃ Z, Z = madeCells (Value.int .u8 0).cells (((s.size : Nat) : Int).toNat * i0.size) := ⟨_, rfl⟩
  have hZs : Z.size = s.size := by rw [hZ, size_madeCells, hz1]; simp
  have hmk : ∀ W : World, (Instr.makeSlice 79 (.int .i64 (s.size : Int)) (.int .i64 (s.size : Int))).run Tryd.prog W = .ok (.slice (some ⟨W.heap.size, 0, none⟩) s.size s.size) (W.alloc (.cells Z 5)) := fun W => by
    have h := run_make (P := Tryd.prog) W 79 5 i0 (.int .u8 0) Tryd.underlying79 hi hz0 .i64 .i64 (s.size : Int) (s.size : Int) (by omega) (by omega) (by rw [hz2]; omega) (by omega)
    rw [← hZ] at h
    simpa using h
  clear hZ
  have hcp := Lib.run_copy_row_string (P := Tryd.prog) (w.alloc (.cells Z 5)) 79 9 3 5 w.heap.size 0 s.size s.size s Z 5 Tryd.underlying79 hinfo (heap_alloc_new w _) (Nat.le_refl _) (by omega)
  obtain ⟨Y, hY⟩ : ∃ Y, Y = (Z.toList.take 0 ++ Lib.byteCells s.data.toList ++ Z.toList.drop (0 + s.size)).toArray := ⟨_, rfl⟩
  rw [← hY] at hcp
  have hYl : Y.toList = Lib.byteCells s.data.toList := by
    rw [hY, List.toList_toArray, List.take_zero, List.nil_append, List.drop_of_length_le (by rw [Array.length_toList]; omega), List.append_nil]
  have hYs : Y.size = s.size := by rw [← Array.length_toList, hYl, Lib.byteCells_length]; rfl
  have hgY := setRow_heap (w.alloc (.cells Z 5)) w.heap.size Z Y 5 (0, 0) (heap_alloc_new w _)
  have hne : s.data.toList ≠ [] := fun e => h0 (by have : s.data.toList.length = s.size := rfl; rw [e] at this; exact this.symm)
  have hll : s.data.toList.length = s.size := rfl
  have hUS := Lib.run_unsafeString_row (P := Tryd.prog) ((w.alloc (.cells Z 5)).setRow w.heap.size Y) 174 3 9 5 Tryd.underlying174 hco w.heap.size Y.size (by unfold World.shape?; rw [hgY]) s.data.toList hne (by omega) (by omega)
    (fun j x hx => Lib.cells_of_row hgY Y.size j _ (by rw [List.take_of_length_le (by rw [Array.length_toList]; exact Nat.le_refl _), hYl]; simp [Lib.byteCells, hx]))
  rw [hll] at hUS
  have hb : Below w.heap.size w ((w.alloc (.cells Z 5)).setRow w.heap.size Y) := below_setRow ((Below.refl _ w).alloc (Nat.le_refl _) _) (Nat.le_refl _) _
  have h0' : ((s.size : Int) == 0) = false := beq_eq_false_iff_ne.2 (by omega)
  have hpos : (0 : Int) < (s.size : Int) := by omega
  clear hY hll hgY hYl hYs hne
  go_enter Tryd.func112, Tryd.ntmps112
  go_wp2
  go_ret
  exact ⟨rfl, Lib.below_freeze hb (p := ⟨w.heap.size, 0, none⟩) (Nat.le_refl _) _⟩
set_option maxHeartbeats 1000000 in
theorem str_clone (s : ByteArray) (w : World) (h0 : s.size ≠ 0) (hl : s.size ≤ 1000000) :
    Calls Tryd.prog 105 #[.string s] w fun e w' => e = .returned (.string s) ∧ Below w.heap.size w w' := by
  go_enter Tryd.func105, Tryd.ntmps105
  go_wp2_with fail
  refine (lite_clone s _ h0 hl).mono ?_
  rintro e w1 ⟨rfl, hb⟩
  go_wp2
  go_ret
  exact ⟨rfl, hb⟩
end Go.Proofs.YtidlogeeophogaaDoor
