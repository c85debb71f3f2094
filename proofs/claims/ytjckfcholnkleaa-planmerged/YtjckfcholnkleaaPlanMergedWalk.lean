/- PlanMerged: the law. -/
import Derived.Test.YtjckfcholnkleaaPlJ
import Derived.Test.YtjckfcholnkleaaPlFl
namespace Go.Proofs.Ytjckfcholnkleaa
open Go.RowKit Go.Joins
set_option linter.unusedVariables false

set_option maxHeartbeats 1000000 in
set_option maxRecDepth 100000 in
theorem planMerged_walk (a : Option Addr) (len cap : Nat) (l0 : List Fo) (nu ge : Int) (w : World) (h0 : Fls w a len l0) (hc0 : len ≤ cap) :
    Calls Try.prog 4 #[.slice a len cap, .int .i64 nu, .int .i64 ge] w fun e w' => e = .returned (.bool true) ∧ Below w.heap.size w w' := by
  obtain ⟨n, hn, hn14, HC⟩ := cut_any a len cap w hc0
  have HC2 := hidn HC
  clear HC
  have h := h0.take n hn
  generalize l0.take n = l at *
  have hc : n ≤ cap := by omega
  have H1 := hidn (merged_any a n cap l nu ge w h (by omega) hc)
  clear h0 hc0
  obtain ⟨V, hV⟩ : ∃ V, V = mgV l nu ge := ⟨_, rfl⟩
  rw [← hV] at H1
  have HV := hidn hV
  clear hV
  go_enter Try.func4, Try.ntmps4
  go_wp2_with fail
  refine HC2.out.mono ?_
  rintro e w0 ⟨rfl, rfl⟩
  go_wp2_with fail
  refine H1.out.mono ?_
  rintro e w1 ⟨f, rfl, pf, hf, b1⟩
  have PF := hidn pf
  obtain ⟨E, hE⟩ : ∃ E, E = V.2 := ⟨_, rfl⟩
  rw [← hE]
  have HEe := hidn hE
  clear pf hE
  obtain ⟨wA, hwA⟩ : ∃ wA, wA = w1.alloc (.cells #[.int .i64 f.nu, .int .i64 f.ge, .int .i64 f.lv, .int .i64 f.rk, .int .i64 f.mn, .int .i64 f.mx, .int .i64 f.bt, .slice f.pa f.pl f.pc] 32) := ⟨_, rfl⟩
  have bA : Below w1.heap.size w1 wA := by rw [hwA]; exact (Below.refl _ w1).alloc (Nat.le_refl _) _
  have qA : wA.heap[w1.heap.size]? = some (.cells #[.int .i64 f.nu, .int .i64 f.ge, .int .i64 f.lv, .int .i64 f.rk, .int .i64 f.mn, .int .i64 f.mx, .int .i64 f.bt, .slice f.pa f.pl f.pc] 32 (0, 0)) := by rw [hwA]; exact heap_alloc_new w1 _
  have BA := b1.trans (bA.mono b1.size)
  have hAs : w1.heap.size < wA.heap.size := (Array.getElem?_eq_some_iff.1 qA).1
  have H2 := hidn (refMerged_any a n cap l nu ge wA (h.below BA) (by omega) hc)
  rw [← HV.out] at H2
  have HWA := hidn hwA
  clear hwA
  simp only [Fo.agg]
  go_wp2_with fail
  rw [← HWA.out]
  refine H2.out.mono ?_
  rintro e w2 ⟨g, rfl, pg, hg, b2⟩
  have PG := hidn pg
  rw [← HEe.out]
  clear pg
  have B2 := BA.trans (b2.mono BA.size)
  have q2 : w2.heap[w1.heap.size]? = some (.cells #[.int .i64 f.nu, .int .i64 f.ge, .int .i64 f.lv, .int .i64 f.rk, .int .i64 f.mn, .int .i64 f.mx, .int .i64 f.bt, .slice f.pa f.pl f.pc] 32 (0, 0)) := (b2.block _ hAs).trans qA
  have hs2 : w1.heap.size < w2.heap.size := Nat.lt_of_lt_of_le hAs b2.size
  obtain ⟨wB, hwB⟩ : ∃ wB, wB = w2.alloc (.cells #[.int .i64 g.nu, .int .i64 g.ge, .int .i64 g.lv, .int .i64 g.rk, .int .i64 g.mn, .int .i64 g.mx, .int .i64 g.bt, .slice g.pa g.pl g.pc] 32) := ⟨_, rfl⟩
  have bB : Below w2.heap.size w2 wB := by rw [hwB]; exact (Below.refl _ w2).alloc (Nat.le_refl _) _
  have BB := B2.trans (bB.mono B2.size)
  have x0 : w2.cell? ⟨w1.heap.size, 0, none⟩ = some (.int .i64 f.nu) := cell_of_row _ _ _ _ _ _ q2
  have x1 : w2.cell? ⟨w1.heap.size, 1, none⟩ = some (.int .i64 f.ge) := cell_of_row _ _ _ _ _ _ q2
  have x2 : w2.cell? ⟨w1.heap.size, 2, none⟩ = some (.int .i64 f.lv) := cell_of_row _ _ _ _ _ _ q2
  have x3 : w2.cell? ⟨w1.heap.size, 3, none⟩ = some (.int .i64 f.rk) := cell_of_row _ _ _ _ _ _ q2
  have x4 : w2.cell? ⟨w1.heap.size, 4, none⟩ = some (.int .i64 f.mn) := cell_of_row _ _ _ _ _ _ q2
  have x5 : w2.cell? ⟨w1.heap.size, 5, none⟩ = some (.int .i64 f.mx) := cell_of_row _ _ _ _ _ _ q2
  have x6 : w2.cell? ⟨w1.heap.size, 6, none⟩ = some (.int .i64 f.bt) := cell_of_row _ _ _ _ _ _ q2
  have x7 : w2.cell? ⟨w1.heap.size, 7, none⟩ = some (.slice f.pa f.pl f.pc) := cell_of_row _ _ _ _ _ _ q2
  have H3 := hidn (sameFooter_same f g wB (by rw [PF.out, PG.out]) (((hf.1.below bA).below b2).below bB) (hg.1.below bB))
  have HWB := hidn hwB
  have hEE : (E == E) = true := by simp
  clear hwB qA q2
  simp only [Fo.agg]
  go_wp2_with fail
  rw [← HWB.out]
  refine H3.out.mono ?_
  rintro e w3 ⟨rfl, b3⟩
  have B3 := BB.trans (b3.mono BB.size)
  go_wp2_with fail
  refine (awake16 _).mono ?_
  rintro e w9 ⟨rfl, rfl⟩
  go_wp2_with fail
  exact bodyPost_ret (v := .bool true) (by simp [results, Try.results4, go_sem]) rfl ⟨rfl, B3⟩

end Go.Proofs.Ytjckfcholnkleaa
