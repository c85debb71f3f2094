/- SameDeletes, at lists that say the same. -/
import Derived.Test.YtdgkjiiegmnjfaaTmC
import Derived.BigQuiet
import Derived.Deep.QuietTactic
namespace Go.Proofs.Ytdgkjiiegmnjfaa
open Go.RowKit Go.Joins
set_option linter.unusedVariables false
theorem run_neq_mat (k : Int) (n v : ByteArray) (w : World) : (binOp .neq 37 (.agg #[.int .i64 k, .string n, .string v]) (.agg #[.int .i64 k, .string n, .string v])).run Try.prog w = .ok (.bool false) w := by
  rw [run_neq_struct]
  simp [go_sem, Try.underlying37]
set_option maxHeartbeats 4000000 in
set_option maxRecDepth 100000 in
theorem matEq_same (a b : Option Addr) (len cap cap' : Nat) (ms : List Mat) (w : World) (h : Mss w a len ms) (h' : Mss w b len ms) :
    Calls Try.prog 12 #[.slice a len cap, .slice b len cap'] w fun e w' => e = .returned (.bool true) ∧ Below w.heap.size w w' := by
  have hm := h.2.1
  unfold maxLen at hm
  have hl := hidn h.1
  go_enter Try.func12, Try.ntmps12
  go_wp2
  go_loopw [13] (fun i wr => ∃ k : Nat, k ≤ len ∧ i = .int .i64 (k : Int) ∧ Below w.heap.size w wr) (fun i wr => len - (intOf i).toNat)
  case atStart => exact ⟨0, Nat.zero_le _, rfl, Below.refl _ _⟩
  case round =>
    obtain ⟨k, hk, rfl, hbl⟩ := hrel
    by_cases hlt : k < len
    · have hki : (k : Int) < (len : Int) := by omega
      obtain ⟨m, hmm⟩ : ∃ m, ms[k]? = some m := ⟨_, List.getElem?_eq_getElem (by rw [hl.out]; exact hlt)⟩
      obtain ⟨ba, offa, rfl, c0, c1, c2, _, _⟩ := (h.below hbl).at hmm
      obtain ⟨bb, offb, rfl, d0, d1, d2, _, _⟩ := (h'.below hbl).at hmm
      clear hmm
      obtain ⟨mk, mn, mv⟩ := m
      dsimp only at c0 c1 c2 d0 d1 d2
      have hrun := fun w => run_neq_mat mk mn mv w
      go_wp2
      go_quiet (fail)
      go_wp2
      exact ⟨⟨k + 1, by omega, by go_num, below_drewN hbl _⟩, by simp [intOf]; omega⟩
    · obtain rfl : k = len := by omega
      go_wp2
      go_ret
      exact ⟨rfl, hbl⟩
set_option maxHeartbeats 4000000 in
set_option maxRecDepth 100000 in
theorem same1 (x y : Del) (hxy : x.pl = y.pl) (w : World) (hx : Mss w x.ma x.ml x.ms) (hy : Mss w y.ma y.ml y.ms) :
    Calls Try.prog 11 #[.agg #[.slice x.ma x.ml x.mc, .int .i64 x.fr, .int .i64 x.tt, .int .i64 x.up], .agg #[.slice y.ma y.ml y.mc, .int .i64 y.fr, .int .i64 y.tt, .int .i64 y.up]] w fun e w' => e = .returned (.bool true) ∧ Below w.heap.size w w' := by
  obtain ⟨ma, ml, mc, ms, fr, tt, up⟩ := x
  obtain ⟨ma', ml', mc', ms', fr', tt', up'⟩ := y
  simp only [Del.pl, Prod.mk.injEq] at hxy
  obtain ⟨rfl, rfl, rfl, rfl⟩ := hxy
  simp only at hx hy ⊢
  obtain rfl : ml = ml' := by rw [← hx.1, ← hy.1]
  obtain ⟨w1, hw1⟩ : ∃ w1, w1 = w.alloc (.cells #[.slice ma ml mc, .int .i64 fr, .int .i64 tt, .int .i64 up] 34) := ⟨_, rfl⟩
  obtain ⟨w2, hw2⟩ : ∃ w2, w2 = w1.alloc (.cells #[.slice ma' ml mc', .int .i64 fr, .int .i64 tt, .int .i64 up] 34) := ⟨_, rfl⟩
  have b1 : Below w.heap.size w w1 := by rw [hw1]; exact (Below.refl _ w).alloc (Nat.le_refl _) _
  have b2 : Below w1.heap.size w1 w2 := by rw [hw2]; exact (Below.refl _ w1).alloc (Nat.le_refl _) _
  have s1 : w1.heap.size = w.heap.size + 1 := by rw [hw1]; simp
  have q1 : w2.heap[w.heap.size]? = some (.cells #[.slice ma ml mc, .int .i64 fr, .int .i64 tt, .int .i64 up] 34 (0, 0)) := by
    rw [b2.block _ (by omega), hw1]
    exact heap_alloc_new w _
  have q2 : w2.heap[w.heap.size + 1]? = some (.cells #[.slice ma' ml mc', .int .i64 fr, .int .i64 tt, .int .i64 up] 34 (0, 0)) := by
    rw [hw2, ← s1]
    exact heap_alloc_new w1 _
  have B2 := b1.trans (b2.mono b1.size)
  have HC := hidn (matEq_same ma ma' ml mc mc' ms w2 (hx.below B2) (hy.below B2))
  have HW : Hid ((w.alloc (.cells #[.slice ma ml mc, .int .i64 fr, .int .i64 tt, .int .i64 up] 34)).alloc (.cells #[.slice ma' ml mc', .int .i64 fr, .int .i64 tt, .int .i64 up] 34) = w2) := hidn (by rw [hw2, hw1])
  clear hw1 hw2 s1 b1 b2
  go_enter Try.func11, Try.ntmps11
  go_wp2_with fail
  rw [HW.out]
  refine HC.out.mono ?_
  rintro e w3 ⟨rfl, b3⟩
  have r1 := (b3.block _ (Array.getElem?_eq_some_iff.1 q1).1).trans q1
  have r2 := (b3.block _ (Array.getElem?_eq_some_iff.1 q2).1).trans q2
  have x1 : w3.cell? ⟨w.heap.size, 1, none⟩ = some (.int .i64 fr) := cell_of_row _ _ _ _ _ _ r1
  have x2 : w3.cell? ⟨w.heap.size, 2, none⟩ = some (.int .i64 tt) := cell_of_row _ _ _ _ _ _ r1
  have x3 : w3.cell? ⟨w.heap.size, 3, none⟩ = some (.int .i64 up) := cell_of_row _ _ _ _ _ _ r1
  have y1 : w3.cell? ⟨w.heap.size + 1, 1, none⟩ = some (.int .i64 fr) := cell_of_row _ _ _ _ _ _ r2
  have y2 : w3.cell? ⟨w.heap.size + 1, 2, none⟩ = some (.int .i64 tt) := cell_of_row _ _ _ _ _ _ r2
  have y3 : w3.cell? ⟨w.heap.size + 1, 3, none⟩ = some (.int .i64 up) := cell_of_row _ _ _ _ _ _ r2
  have B3 := B2.trans (b3.mono B2.size)
  clear r1 r2 q1 q2
  go_wp2_with fail
  exact bodyPost_ret (v := .bool true) (by simp [results, Try.results11, go_sem]) rfl ⟨rfl, B3⟩
set_option maxHeartbeats 4000000 in
set_option maxRecDepth 100000 in
theorem equalF (a b : Option Addr) (len cap cap' : Nat) (l l' : List Del) (w : World) (h : Dls w a len l) (h' : Dls w b len l') (hpl : l.map Del.pl = l'.map Del.pl) :
    Calls Try.prog 10 #[.slice a len cap, .slice b len cap', .func (.func 11) #[] #[]] w fun e w' => e = .returned (.bool true) ∧ Below w.heap.size w w' := by
  have hm := h.2.1
  unfold maxLen at hm
  have hl := hidn h.1
  have HP := hidn hpl
  clear hpl
  go_enter Try.func10, Try.ntmps10
  go_wp2_with fail
  go_loopw [17] (fun i wr => ∃ k : Nat, k ≤ len ∧ i = .int .i64 (k : Int) ∧ Below w.heap.size w wr) (fun i wr => len - (intOf i).toNat)
  case atStart => exact ⟨0, Nat.zero_le _, rfl, Below.refl _ _⟩
  case round =>
    obtain ⟨k, hk, rfl, hbl⟩ := hrel
    by_cases hlt : k < len
    · have hki : (k : Int) < (len : Int) := by omega
      obtain ⟨x, hx⟩ : ∃ x, l[k]? = some x := ⟨_, List.getElem?_eq_getElem (by rw [hl.out]; exact hlt)⟩
      obtain ⟨y, hy⟩ : ∃ y, l'[k]? = some y := ⟨_, List.getElem?_eq_getElem (by rw [h'.1]; exact hlt)⟩
      have HXY : Hid (x.pl = y.pl) := hidn (by
        have e := congrArg (fun t => t[k]?) HP.out
        simp only [List.getElem?_map, hx, hy, Option.map_some, Option.some.injEq] at e
        exact e)
      obtain ⟨ba, offa, rfl, hba, c0, c1, c2, c3, hmx, _⟩ := (h.below hbl).at hx
      obtain ⟨bb, offb, rfl, hbb, d0, d1, d2, d3, hmy, _⟩ := (h'.below hbl).at hy
      obtain ⟨w1, hw1⟩ : ∃ w1, w1 = wr.alloc (.cells #[.slice x.ma x.ml x.mc, .int .i64 x.fr, .int .i64 x.tt, .int .i64 x.up] 34) := ⟨_, rfl⟩
      obtain ⟨w2, hw2⟩ : ∃ w2, w2 = w1.alloc (.cells #[.slice y.ma y.ml y.mc, .int .i64 y.fr, .int .i64 y.tt, .int .i64 y.up] 34) := ⟨_, rfl⟩
      have b1 : Below wr.heap.size wr w1 := by rw [hw1]; exact (Below.refl _ wr).alloc (Nat.le_refl _) _
      have b2 : Below w1.heap.size w1 w2 := by rw [hw2]; exact (Below.refl _ w1).alloc (Nat.le_refl _) _
      have B2 := b1.trans (b2.mono b1.size)
      have HC := hidn (same1 x y HXY.out w2 (hmx.below B2) (hmy.below B2))
      have HW : Hid ((wr.alloc (.cells #[.slice x.ma x.ml x.mc, .int .i64 x.fr, .int .i64 x.tt, .int .i64 x.up] 34)).alloc (.cells #[.slice y.ma y.ml y.mc, .int .i64 y.fr, .int .i64 y.tt, .int .i64 y.up] 34) = w2) := hidn (by rw [hw2, hw1])
      have BB := hbl.trans (B2.mono hbl.size)
      clear hx hy hw1 hw2 b1 b2 hmx hmy HXY
      obtain ⟨ma, ml, mc, ms, fr, tt, up⟩ := x
      obtain ⟨ma', ml', mc', ms', fr', tt', up'⟩ := y
      simp only at c0 c1 c2 c3 d0 d1 d2 d3 HC HW
      go_wp2_with fail
      rw [HW.out]
      refine HC.out.mono ?_
      rintro e w3 ⟨rfl, b3⟩
      have B3 := BB.trans (b3.mono BB.size)
      go_wp2_with fail
      exact ⟨⟨k + 1, by omega, by simp, B3⟩, by simp [intOf]; omega⟩
    · obtain rfl : k = len := by omega
      go_wp2_with fail
      exact bodyPost_ret (v := .bool true) (by simp [results, Try.results10, go_sem]) rfl ⟨rfl, hbl⟩
set_option maxHeartbeats 4000000 in
set_option maxRecDepth 100000 in
theorem same_any (a b : Option Addr) (len cap len' cap' : Nat) (l l' : List Del) (w : World) (h : Dls w a len l) (h' : Dls w b len' l') (hpl : l.map Del.pl = l'.map Del.pl) :
    Calls Try.prog 5 #[.slice a len cap, .slice b len' cap'] w fun e w' => e = .returned (.bool true) ∧ Below w.heap.size w w' := by
  have e : l.length = l'.length := by simpa using congrArg List.length hpl
  obtain rfl : len = len' := by rw [← h.1, ← h'.1, e]
  go_enter Try.func5, Try.ntmps5
  go_wp2_with fail
  refine (equalF a b len cap cap' l l' w h h' hpl).mono ?_
  rintro e w1 ⟨rfl, b1⟩
  go_wp2_with fail
  exact bodyPost_ret (v := .bool true) (by simp [results, Try.results5, go_sem]) rfl ⟨rfl, b1⟩
end Go.Proofs.Ytdgkjiiegmnjfaa
