/- match: One and All, at matchers of every kind. -/
import Derived.Test.YtdgkjiiegmnjfaaMatE
namespace Go.Proofs.Ytdgkjiiegmnjfaa
open Go.RowKit Go.Joins
set_option linter.unusedVariables false
theorem getL_size (ls : List Lab) (n : ByteArray) (B : Nat) (h : ∀ x ∈ ls, x.2.size ≤ B) : (getL ls n).size ≤ B := by
  induction ls with
  | nil => exact Nat.zero_le _
  | cons x t ih =>
    unfold getL
    split
    · exact h x (by simp)
    · exact ih (fun y hy => h y (by simp [hy]))
set_option maxHeartbeats 2000000 in
set_option maxRecDepth 100000 in
theorem one_none (m : Mat) (la : Option Addr) (llen lcap : Nat) (ls : List Lab) (w : World) (hL : Ls w la llen ls) (hr : llen ≤ 140737488355328) (h1 : m.k ≠ 1) (h2 : m.k ≠ 2) (h3 : m.k ≠ 3) (h4 : m.k ≠ 4) :
    Calls Try.prog 22 #[.agg #[.int .i64 m.k, .string m.n, .string m.v], .slice la llen lcap] w fun e w' => e = .returned (.bool (oneM m ls)) ∧ Below w.heap.size w w' := by
  obtain ⟨k, n, v⟩ := m
  simp only at h1 h2 h3 h4
  obtain ⟨Z, hZ⟩ : ∃ Z, Z = oneM ⟨k, n, v⟩ ls := ⟨_, rfl⟩
  rw [← hZ]
  have HZ : Hid (Z = false) := hidn (by rw [hZ]; unfold oneM; rw [if_neg h1, if_neg h2, if_neg h3, if_neg h4])
  clear hZ
  have k1 : (k == 1) = false := beq_eq_false_iff_ne.2 h1
  have k2 : (k == 2) = false := beq_eq_false_iff_ne.2 h2
  have k3 : (k == 3) = false := beq_eq_false_iff_ne.2 h3
  have k4 : (k == 4) = false := beq_eq_false_iff_ne.2 h4
  clear h1 h2 h3 h4
  have bA : Below w.heap.size w (w.alloc (.cells #[.int .i64 k, .string n, .string v] 37)) := (Below.refl _ w).alloc (Nat.le_refl _) _
  have qA : (w.alloc (.cells #[.int .i64 k, .string n, .string v] 37)).heap[w.heap.size]? = some (.cells #[.int .i64 k, .string n, .string v] 37 (0, 0)) := heap_alloc_new w _
  go_enter Try.func22, Try.ntmps22
  go_wp2_with fail
  refine (get_any la llen lcap ls n _ (hL.below bA) hr).mono ?_
  rintro e w1 ⟨rfl, b1⟩
  have q1 := (b1.block _ (Array.getElem?_eq_some_iff.1 qA).1).trans qA
  have B1 := below_al b1
  have d0 : w1.cell? ⟨w.heap.size, 0, none⟩ = some (.int .i64 k) := cell_of_row _ _ _ _ _ _ q1
  generalize getL ls n = G at *
  go_wp2_with fail
  exact bodyPost_ret (v := .bool false) (by simp [results, Try.results22, go_sem]) rfl ⟨by rw [HZ.out], B1⟩
theorem one_any (m : Mat) (la : Option Addr) (llen lcap : Nat) (ls : List Lab) (w : World) (hL : Ls w la llen ls) (hr : llen ≤ 140737488355328) (hG : (getL ls m.n).size ≤ 140737488355328) (hv : m.v.size ≤ maxLen) :
    Calls Try.prog 22 #[.agg #[.int .i64 m.k, .string m.n, .string m.v], .slice la llen lcap] w fun e w' => e = .returned (.bool (oneM m ls)) ∧ Below w.heap.size w w' := by
  by_cases h1 : m.k = 1
  · exact one_is m la llen lcap ls w hL hr h1
  · by_cases h2 : m.k = 2
    · exact one_not m la llen lcap ls w hL hr h2
    · by_cases h3 : m.k = 3
      · exact one_like m la llen lcap ls w hL hr h3 hG hv
      · by_cases h4 : m.k = 4
        · exact one_notlike m la llen lcap ls w hL hr h4 hG hv
        · exact one_none m la llen lcap ls w hL hr h1 h2 h3 h4
theorem all_l (a : Option Addr) (len cap : Nat) (ms : List Mat) (la : Option Addr) (llen lcap : Nat) (ls : List Lab) (w : World) (h : Mss w a len ms) (hL : Ls w la llen ls) (hr : llen ≤ 140737488355328) (hs : ∀ x ∈ ls, x.2.size ≤ 140737488355328) :
    Calls Try.prog 17 #[.slice a len cap, .slice la llen lcap] w fun e w' => e = .returned (.bool (allM ms ls)) ∧ Below w.heap.size w w' :=
  all_any a len cap ms la llen lcap ls w h hL (fun m hm w1 hl => one_any m la llen lcap ls w1 hl hr (getL_size ls m.n _ hs) (h.2.2.2.1 m hm).2)
end Go.Proofs.Ytdgkjiiegmnjfaa
