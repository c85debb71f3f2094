/- labels.takeLabel at any text. -/
import Derived.Test.YtkcmaneibfambaaLabPjMath
namespace Go.Proofs.Ytkcmaneibfambaa
open Go.RowKit Go.Joins
set_option linter.unusedVariables false

set_option maxHeartbeats 2000000 in
set_option maxRecDepth 100000 in
theorem scut_none (s : ByteArray) (w : World) (hi : Lib.indexByte s.data.toList 61 = -1) :
    Calls Try.prog 60 #[.string s, .string ⟨#[61]⟩] w fun e w' => e = .returned (.tuple #[.string s, .string ⟨#[]⟩, .bool false]) ∧ Below w.heap.size w w' := by
  go_enter Try.func60, Try.ntmps60
  go_wp2_with fail
  refine (Try.stringslite_Index_one s 61 _).mono ?_
  rintro e w1 ⟨rfl, rfl⟩
  rw [hi]
  go_wp2
  exact bodyPost_ret (v := .tuple #[.string s, .string ⟨#[]⟩, .bool false]) (by simp [results, Try.results60, go_sem]) rfl ⟨rfl, Below.refl _ _⟩

set_option maxHeartbeats 1000000 in
theorem cut_none (s : ByteArray) (w : World) (hi : Lib.indexByte s.data.toList 61 = -1) :
    Calls Try.prog 56 #[.string s, .string ⟨#[61]⟩] w fun e w' => e = .returned (.tuple #[.string s, .string ⟨#[]⟩, .bool false]) ∧ Below w.heap.size w w' := by
  go_enter Try.func56, Try.ntmps56
  go_wp2_with fail
  refine (scut_none s _ hi).mono ?_
  rintro e w1 ⟨rfl, b1⟩
  go_wp2
  exact bodyPost_ret (v := .tuple #[.string s, .string ⟨#[]⟩, .bool false]) (by simp [results, Try.results56, go_sem]) rfl ⟨rfl, b1⟩

set_option maxHeartbeats 2000000 in
set_option maxRecDepth 100000 in
theorem takeLab_none (s : ByteArray) (w : World) (hi : Lib.indexByte s.data.toList 61 = -1) :
    Calls Try.prog 46 #[.string s] w fun e w' => e = .returned (.tuple #[.agg #[.string ⟨#[]⟩, .string ⟨#[]⟩], .string ⟨#[]⟩, .bool false]) ∧ Below w.heap.size w w' := by
  go_enter Try.func46, Try.ntmps46
  go_wp2_with fail
  refine (cut_none s _ hi).mono ?_
  rintro e w1 ⟨rfl, b1⟩
  have q0 : w1.heap[w.heap.size]? = some (.cells #[.string ⟨#[]⟩, .string ⟨#[]⟩] 39 (0, 0)) := by
    rw [b1.block w.heap.size (by rw [alloc_size]; omega)]; exact alloc_at w _
  have B1 : Below w.heap.size w w1 := below_new _ (b1.mono (by rw [alloc_size]; omega))
  have c0 : w1.cell? ⟨w.heap.size, 0, none⟩ = some (.string ⟨#[]⟩) := cell_at q0
  have c1 : w1.cell? ⟨w.heap.size, 1, none⟩ = some (.string ⟨#[]⟩) := cell_at q0
  have f0 : w1.frozen? ⟨w.heap.size, 0, none⟩ = false := unfrozen_of_block q0 _
  have f1 : w1.frozen? ⟨w.heap.size, 1, none⟩ = false := unfrozen_of_block q0 _
  have q2 := block_setCell (i := 1) (block_setCell (i := 0) q0 (.string ⟨#[]⟩)) (.string ⟨#[]⟩)
  have d0 : ((w1.setCell ⟨w.heap.size, 0, none⟩ (.string ⟨#[]⟩)).setCell ⟨w.heap.size, 1, none⟩ (.string ⟨#[]⟩)).cell? ⟨w.heap.size, 0, none⟩ = some (.string ⟨#[]⟩) := by rw [cell_of_block q2]; rfl
  have d1 : ((w1.setCell ⟨w.heap.size, 0, none⟩ (.string ⟨#[]⟩)).setCell ⟨w.heap.size, 1, none⟩ (.string ⟨#[]⟩)).cell? ⟨w.heap.size, 1, none⟩ = some (.string ⟨#[]⟩) := by rw [cell_of_block q2]; rfl
  have B3 : Below w.heap.size w ((w1.setCell ⟨w.heap.size, 0, none⟩ (.string ⟨#[]⟩)).setCell ⟨w.heap.size, 1, none⟩ (.string ⟨#[]⟩)) := (B1.setCell (p := ⟨w.heap.size, 0, none⟩) (Nat.le_refl _) _).setCell (p := ⟨w.heap.size, 1, none⟩) (Nat.le_refl _) _
  go_wp2
  first
    | exact bodyPost_ret (v := .tuple #[.agg #[.string ⟨#[]⟩, .string ⟨#[]⟩], .string ⟨#[]⟩, .bool false]) (by simp [results, Try.results46, go_sem, d0, d1]) rfl ⟨rfl, B3⟩
    | exact bodyPost_ret (v := .tuple #[.agg #[.string ⟨#[]⟩, .string ⟨#[]⟩], .string ⟨#[]⟩, .bool false]) (by simp [results, Try.results46, go_sem, c0, c1]) rfl ⟨rfl, B1⟩

set_option maxHeartbeats 2000000 in
set_option maxRecDepth 100000 in
theorem take_found (s n E v rr : ByteArray) (z : Int) (m : Nat) (b : Bool) (w : World) (hs : s.size ≤ 1048576) (hm : m < s.size) (hi : Lib.indexByte s.data.toList 61 = (m : Int)) (hn : s.extract 0 m = n) (hE : s.extract (m + 1) s.size = E) (hv : uqT E = v) (hr : uqR E = rr) (hz : uqE E = z) (hb : (z == 0) = b) :
    Calls Try.prog 46 #[.string s] w fun e w' => e = .returned (.tuple #[.agg #[.string n, .string v], .string rr, .bool b]) ∧ Below w.heap.size w w' := by
  have hsz2 : E.size ≤ 1099511627776 := by rw [← hE, ByteArray.size_extract]; omega
  have HN := hidn hn
  have HE := hidn hE
  have HV := hidn hv
  have HR := hidn hr
  have HZ := hidn hz
  clear hn hE hv hr hz
  have hs' : s.size ≤ 1099511627776 := by omega
  go_enter Try.func46, Try.ntmps46
  go_wp2_with fail
  refine (cut_at s m _ hs' hm hi).mono ?_
  rintro e w1 ⟨rfl, b1⟩
  have q0 : w1.heap[w.heap.size]? = some (.cells #[.string ⟨#[]⟩, .string ⟨#[]⟩] 39 (0, 0)) := by
    rw [b1.block w.heap.size (by rw [alloc_size]; omega)]; exact alloc_at w _
  have B1 : Below w.heap.size w w1 := below_new _ (b1.mono (by rw [alloc_size]; omega))
  clear hi
  rw [HN.out, HE.out]
  go_wp2_with fail
  refine (unq_any E _ hsz2).mono ?_
  rintro e w2 ⟨rfl, b2⟩
  rw [HV.out, HR.out, HZ.out]
  have B2 := B1.trans (b2.mono B1.size)
  have q1 : w2.heap[w.heap.size]? = some (.cells #[.string ⟨#[]⟩, .string ⟨#[]⟩] 39 (0, 0)) := by
    rw [b2.block w.heap.size (Array.getElem?_eq_some_iff.1 q0).1]; exact q0
  have c0 : w2.cell? ⟨w.heap.size, 0, none⟩ = some (.string ⟨#[]⟩) := cell_at q1
  have c1 : w2.cell? ⟨w.heap.size, 1, none⟩ = some (.string ⟨#[]⟩) := cell_at q1
  have f0 : w2.frozen? ⟨w.heap.size, 0, none⟩ = false := unfrozen_of_block q1 _
  have f1 : w2.frozen? ⟨w.heap.size, 1, none⟩ = false := unfrozen_of_block q1 _
  have q2 := block_setCell (i := 1) (block_setCell (i := 0) q1 (.string n)) (.string v)
  have d0 : ((w2.setCell ⟨w.heap.size, 0, none⟩ (.string n)).setCell ⟨w.heap.size, 1, none⟩ (.string v)).cell? ⟨w.heap.size, 0, none⟩ = some (.string n) := by rw [cell_of_block q2]; rfl
  have d1 : ((w2.setCell ⟨w.heap.size, 0, none⟩ (.string n)).setCell ⟨w.heap.size, 1, none⟩ (.string v)).cell? ⟨w.heap.size, 1, none⟩ = some (.string v) := by rw [cell_of_block q2]; rfl
  have B3 : Below w.heap.size w ((w2.setCell ⟨w.heap.size, 0, none⟩ (.string n)).setCell ⟨w.heap.size, 1, none⟩ (.string v)) := (B2.setCell (p := ⟨w.heap.size, 0, none⟩) (Nat.le_refl _) _).setCell (p := ⟨w.heap.size, 1, none⟩) (Nat.le_refl _) _
  go_wp2
  exact bodyPost_ret (v := .tuple #[.agg #[.string n, .string v], .string rr, .bool b]) (by simp [results, Try.results46, go_sem, d0, d1]) rfl ⟨rfl, B3⟩
end Go.Proofs.Ytkcmaneibfambaa
