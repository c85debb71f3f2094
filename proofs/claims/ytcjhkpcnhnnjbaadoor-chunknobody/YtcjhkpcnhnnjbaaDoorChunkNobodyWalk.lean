/- ChunkNobody: the law. -/
import Derived.Test.YtcjhkpcnhnnjbaaDoorChJ
namespace Go.Proofs.YtcjhkpcnhnnjbaaDoor
open Go.RowKit Go.Joins
open Cd (BitsTab DbTab)
set_option linter.unusedVariables false
def nobP (b : Nat) (j : Nat) : Option Addr := if j = 0 then none else some ⟨b, 0, none⟩
set_option maxHeartbeats 4000000 in
set_option maxRecDepth 100000 in
theorem chunkNobody_walk (a : Option Addr) (len cap : Nat) (w : World) (hl : len ≤ 140737488355328) (hT : BitsTab w) (hD : DbTab w) :
    Calls Tryd.prog 8 #[.slice a len cap] w fun e w' => e = .returned (.bool true) ∧ Below w.heap.size w w' := by
  obtain ⟨w1, hw1⟩ : ∃ w1, w1 = w.alloc (.cells #[.bool false, .slice none 0 0, .int .i64 0, .int .i64 0] 59) := ⟨_, rfl⟩
  obtain ⟨w2, hw2⟩ : ∃ w2, w2 = w1.alloc (.cells #[.pointer none, .pointer (some ⟨w.heap.size, 0, none⟩)] 36) := ⟨_, rfl⟩
  have b1 : Below w.heap.size w w1 := by rw [hw1]; exact (Below.refl _ w).alloc (Nat.le_refl _) _
  have b2 : Below w1.heap.size w1 w2 := by rw [hw2]; exact (Below.refl _ w1).alloc (Nat.le_refl _) _
  have s1 : w1.heap.size = w.heap.size + 1 := by rw [hw1]; simp
  have B2 := b1.trans (b2.mono b1.size)
  have q1 : w2.heap[w.heap.size]? = some (.cells #[.bool false, .slice none 0 0, .int .i64 0, .int .i64 0] 59 (0, 0)) := by rw [b2.block _ (by omega), hw1]; exact heap_alloc_new w _
  have q2 : w2.heap[w.heap.size + 1]? = some (.cells #[.pointer none, .pointer (some ⟨w.heap.size, 0, none⟩)] 36 (0, 0)) := by rw [hw2, ← s1]; exact heap_alloc_new w1 _
  have HW : Hid ((w.alloc (.cells #[.bool false, .slice none 0 0, .int .i64 0, .int .i64 0] 59)).alloc (.cells #[.pointer none, .pointer (some ⟨w.heap.size, 0, none⟩)] 36) = w2) := hidn (by rw [hw2, hw1])
  clear hw1 hw2 s1 b1 b2
  go_enter Tryd.func8, Tryd.ntmps8
  go_wp2_with fail
  rw [HW.out]
  go_loopw [16] (fun iv wr => ∃ j : Nat, j ≤ 2 ∧ iv = .int .i64 (j : Int) ∧ Below w2.heap.size w2 wr) (fun iv _ => 2 - (intOf iv).toNat)
  case atStart => exact ⟨0, by omega, rfl, Below.refl _ _⟩
  case round =>
    obtain ⟨j, hj, rfl, hb⟩ := hrel
    have B := B2.trans (hb.mono B2.size)
    by_cases hlt : j < 2
    · have hlt2 : (j : Int) < 2 := by omega
      have r1 := (hb.block _ (Array.getElem?_eq_some_iff.1 q1).1).trans q1
      have r2 := (hb.block _ (Array.getElem?_eq_some_iff.1 q2).1).trans q2
      obtain ⟨P, hP⟩ : ∃ P, P = nobP w.heap.size j := ⟨_, rfl⟩
      have d0 : wr.cell? ⟨w.heap.size + 1, j, none⟩ = some (.pointer P) := by
        rw [cell_of_row _ _ _ _ _ _ r2, hP]
        match j, hlt with
        | 0, _ => rfl
        | 1, _ => rfl
      have HN := hidn (next_none P wr (by
        rw [hP]
        match j, hlt with
        | 0, _ => exact .inl rfl
        | 1, _ => exact .inr ⟨w.heap.size, none, 0, rfl, cell_of_row _ _ _ _ _ _ r1⟩))
      have HE : Hid (∀ W, Below wr.heap.size wr W → Calls Tryd.prog 23 #[.pointer P] W fun e w' => e = .returned (.int .i64 2) ∧ w' = W) := hidn (fun W hW => by
        rw [hP]
        match j, hlt with
        | 0, _ => exact err_nil W
        | 1, _ => exact err_unmade w.heap.size W (cell_of_row _ _ _ _ _ _ ((hW.block _ (Array.getElem?_eq_some_iff.1 r1).1).trans r1)))
      clear hP r1 r2
      go_wp2_with fail
      refine HN.out.mono ?_
      rintro e w3 ⟨rfl, b3⟩
      have bA : Below wr.heap.size wr (w3.alloc (.cells #[.slice none 0 0, .int .i64 0, .int .i64 0, .int .i64 0, .int .i64 0] 41)) := b3.alloc b3.size _
      unfold zEnt
      go_wp2_with fail
      refine (HE.out _ bA).mono ?_
      rintro e w4 ⟨rfl, rfl⟩
      go_wp2_with fail
      exact ⟨⟨j + 1, by omega, by simp, hb.trans (bA.mono hb.size)⟩, by simp [intOf]; omega⟩
    · obtain rfl : j = 2 := by omega
      have hz : ((2 : Nat) : Int) = 2 := rfl
      rw [hz]
      have HO := hidn (open_any none 0 0 [] (len : Int) wr (Bs.nil wr) (by decide))
      go_wp2_with fail
      refine HO.out.mono ?_
      rintro e w3 ⟨g, a3, c3, rfl, hcur, hg, _, b3⟩
      have B3 := B.trans (b3.mono B.size)
      have HN := hidn (next_none (some ⟨g, 0, none⟩) w3 (.inr ⟨g, a3, c3, rfl, cell_of_row _ _ _ _ _ _ hcur.1⟩))
      have hq := hcur.1
      clear hcur
      go_wp2_with fail
      refine HN.out.mono ?_
      rintro e w4 ⟨rfl, b4⟩
      have bA : Below w3.heap.size w3 (w4.alloc (.cells #[.slice none 0 0, .int .i64 0, .int .i64 0, .int .i64 0, .int .i64 0] 41)) := b4.alloc b4.size _
      have qz := (bA.block _ (Array.getElem?_eq_some_iff.1 hq).1).trans hq
      have HE := hidn (err_made g 0 _ (cell_of_row _ _ _ _ _ _ qz) (cell_of_row _ _ _ _ _ _ qz))
      have B4 := B3.trans (bA.mono B3.size)
      have HA := hidn (awake12 _ (hT.below B4) (hD.below B4))
      unfold zEnt
      clear qz hq
      go_wp2_with fail
      refine HE.out.mono ?_
      rintro e w5 ⟨rfl, rfl⟩
      go_wp2_with fail
      refine HA.out.mono ?_
      rintro e w6 ⟨rfl, b6⟩
      go_wp2_with fail
      exact bodyPost_ret (v := .bool true) (by simp [results, Tryd.results8, go_sem]) rfl ⟨rfl, B4.trans (b6.mono B4.size)⟩
end Go.Proofs.YtcjhkpcnhnnjbaaDoor
