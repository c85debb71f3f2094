/- merge: Touches of the program. -/
import Derived.Test.YtkhihochfmgibaaGpA
namespace Go.Proofs.Ytkhihochfmgibaa
open Go.RowKit Go.Joins
set_option linter.unusedVariables false

set_option maxHeartbeats 2000000 in
set_option maxRecDepth 100000 in
theorem hit_any (bf bt : Nat) (f t frm to : Int) (w : World) (hf : w.cell? ⟨bf, 0, none⟩ = some (.int .i64 frm)) (ht : w.cell? ⟨bt, 0, none⟩ = some (.int .i64 to)) :
    Calls Try.prog 16 #[.agg #[.int .i64 f, .int .i64 t], .pointer (some ⟨bf, 0, none⟩), .pointer (some ⟨bt, 0, none⟩)] w fun e w' => e = .returned (.bool (hitB ⟨f, t⟩ frm to)) ∧ Below w.heap.size w w' := by
  obtain ⟨w1, hw1⟩ : ∃ w1, w1 = w.alloc (.cells #[.int .i64 f, .int .i64 t] 25) := ⟨_, rfl⟩
  have b1 : Below w.heap.size w w1 := by rw [hw1]; exact (Below.refl _ w).alloc (Nat.le_refl _) _
  have d0 : (w.alloc (.cells #[.int .i64 f, .int .i64 t] 25)).cell? ⟨bf, 0, none⟩ = some (.int .i64 frm) := Lib.cell?_alloc_some _ hf
  have d1 : (w.alloc (.cells #[.int .i64 f, .int .i64 t] 25)).cell? ⟨bt, 0, none⟩ = some (.int .i64 to) := Lib.cell?_alloc_some _ ht
  obtain ⟨x, hx⟩ : ∃ x, x = max f frm := ⟨_, rfl⟩
  obtain ⟨y, hy⟩ : ∃ y, y = min t to := ⟨_, rfl⟩
  have HH := hidn (hasTime_any x y w1)
  have HD : Hid (hitB ⟨f, t⟩ frm to = decide (x ≤ y)) := hidn (by rw [hx, hy]; rfl)
  have m1 : max f frm = x := hx.symm
  have m2 : min t to = y := hy.symm
  have m3 : (if f < frm then frm else f) = x := by rw [hx]; split <;> omega
  have m4 : (if to < t then to else t) = y := by rw [hy]; split <;> omega
  have HW1 := hidn hw1
  have HB1 := hidn b1
  clear hx hy hw1 b1
  go_enter Try.func16, Try.ntmps16
  go_wp2_with fail
  rw [← HW1.out]
  refine HH.out.mono ?_
  rintro e w2 ⟨rfl, b2⟩
  have HB2 := hidn (HB1.out.trans (b2.mono HB1.out.size))
  clear b2
  go_wp2_with fail
  go_ret
  exact ⟨by rw [HD.out]; rfl, HB2.out⟩

set_option maxHeartbeats 4000000 in
set_option maxRecDepth 100000 in
theorem indexHit (bf bt : Nat) (a : Option Addr) (len cap : Nat) (l : List Gp) (frm to : Int) (w : World) (hf : w.cell? ⟨bf, 0, none⟩ = some (.int .i64 frm)) (ht : w.cell? ⟨bt, 0, none⟩ = some (.int .i64 to)) (h : Gps w a len l) :
    Calls Try.prog 23 #[.slice a len cap, .func (.func 16) #[] #[.pointer (some ⟨bf, 0, none⟩), .pointer (some ⟨bt, 0, none⟩)]] w fun e w' => ∃ q : Int, e = .returned (.int .i64 q) ∧ decide (0 ≤ q) = touchB l frm to ∧ Below w.heap.size w w' := by
  have HL := hidn h.1
  have H := hidn h
  have HCF := hidn hf
  have HCT := hidn ht
  have hbf := block_lt_of_cell hf
  have hbt := block_lt_of_cell ht
  have hlm := h.2.1
  unfold maxLen at hlm
  clear h hf ht
  go_enter Try.func23, Try.ntmps23
  go_wp2_with fail
  go_loopw [8] (fun iv wr => ∃ k : Nat, k ≤ len ∧ iv = .int .i64 (k : Int) ∧ Hid (Below w.heap.size w wr) ∧ Hid (∀ i, i < k → hitB (gpD l i) frm to = false)) (fun iv _ => len - (intOf iv).toNat)
  case atStart => exact ⟨0, Nat.zero_le _, rfl, hidn (Below.refl _ _), hidn (fun i hi => by omega)⟩
  case round =>
    obtain ⟨k, hk, rfl, HB, HK⟩ := hrel
    obtain ⟨wo, hwo⟩ : ∃ wo, wo = wr := ⟨_, rfl⟩
    subst hwo
    by_cases hlt : k < len
    · have hlt2 : (k : Int) < (len : Int) := by omega
      obtain ⟨b, off, rfl, hb, hcl⟩ := H.out.pos (by omega)
      have c0 : wo.cell? ⟨b, off + k * 2, none⟩ = some (.int .i64 (gpD l k).f) := (HB.out.cell (p := ⟨b, off + k * 2, none⟩) hb).trans (hcl k hlt).1
      have c1 : wo.cell? ⟨b, off + k * 2 + 1, none⟩ = some (.int .i64 (gpD l k).t) := (HB.out.cell (p := ⟨b, off + k * 2 + 1, none⟩) hb).trans (hcl k hlt).2
      obtain ⟨gf, hgf⟩ : ∃ x, x = (gpD l k).f := ⟨_, rfl⟩
      obtain ⟨gt, hgt⟩ : ∃ x, x = (gpD l k).t := ⟨_, rfl⟩
      rw [← hgf] at c0
      rw [← hgt] at c1
      have HG : Hid (gpD l k = ⟨gf, gt⟩) := hidn (by rw [hgf, hgt])
      have HH := hidn (hit_any bf bt gf gt frm to wo ((HB.out.cell (p := ⟨bf, 0, none⟩) hbf).trans HCF.out) ((HB.out.cell (p := ⟨bt, 0, none⟩) hbt).trans HCT.out))
      clear hcl hgf hgt
      go_wp2_with fail
      refine HH.out.mono ?_
      rintro e w2 ⟨rfl, b2⟩
      have HB2 := hidn (HB.out.trans (b2.mono HB.out.size))
      clear b2 HH
      cases hh : hitB ⟨gf, gt⟩ frm to
      · have HK1 : Hid (∀ i, i < k + 1 → hitB (gpD l i) frm to = false) := hidn (fun i hi => by
          by_cases hik : i = k
          · subst hik
            rw [HG.out]; exact hh
          · exact HK.out i (by omega))
        clear hh
        go_wp2_with fail
        go_roundw
        case rel => exact ⟨k + 1, by omega, by first | rfl | simp, HB2, HK1⟩
        case measure => simp [intOf]; omega
      · have HC : Hid (touchB l frm to = true) := hidn (touch_yes k (by rw [HL.out]; exact hlt) (by rw [HG.out]; exact hh))
        clear hh
        go_wp2_with fail
        go_ret
        exact ⟨(k : Int), rfl, by rw [HC.out]; exact decide_eq_true (by omega), HB2.out⟩
    · have hlt2 : ¬ (k : Int) < (len : Int) := by omega
      have HC : Hid (touchB l frm to = false) := hidn (touch_no (fun i hi => HK.out i (by rw [HL.out] at hi; omega)))
      go_wp2_with fail
      go_ret
      exact ⟨-1, rfl, by rw [HC.out]; rfl, HB.out⟩

set_option maxHeartbeats 2000000 in
set_option maxRecDepth 100000 in
theorem touches_any (a : Option Addr) (len cap : Nat) (l : List Gp) (frm to : Int) (w : World) (h : Gps w a len l) :
    Calls Try.prog 7 #[.slice a len cap, .int .i64 frm, .int .i64 to] w fun e w' => e = .returned (.bool (touchB l frm to)) ∧ Below w.heap.size w w' := by
  obtain ⟨w1, hw1⟩ : ∃ w1, w1 = (w.alloc (.cells #[.int .i64 frm] 3)).alloc (.cells #[.int .i64 to] 3) := ⟨_, rfl⟩
  have b1 : Below w.heap.size w w1 := by rw [hw1]; exact ((Below.refl _ w).alloc (Nat.le_refl _) _).alloc (by simp) _
  have q0 : w1.heap[w.heap.size]? = some (.cells #[.int .i64 frm] 3 (0, 0)) := by rw [hw1]; exact heap_alloc2_old w _ _
  have q1 : w1.heap[w.heap.size + 1]? = some (.cells #[.int .i64 to] 3 (0, 0)) := by rw [hw1]; exact heap_alloc2_new w _ _
  have HI := hidn (indexHit w.heap.size (w.heap.size + 1) a len cap l frm to w1 (cell_of_row _ _ _ _ _ _ q0) (cell_of_row _ _ _ _ _ _ q1) (h.below b1))
  have HW1 := hidn hw1
  have HB1 := hidn b1
  clear hw1 b1 q0 q1 h
  have HC : Hid (Calls Try.prog 15 #[.slice a len cap, .func (.func 16) #[] #[.pointer (some ⟨w.heap.size, 0, none⟩), .pointer (some ⟨w.heap.size + 1, 0, none⟩)]] w1 fun e w' => e = .returned (.bool (touchB l frm to)) ∧ Below w1.heap.size w1 w') := hidn (by
    go_enter Try.func15, Try.ntmps15
    go_wp2_with fail
    refine HI.out.mono ?_
    rintro e w2 ⟨q, rfl, hq, b2⟩
    have HQ := hidn hq
    clear hq
    go_wp2_with fail
    go_ret
    exact ⟨by rw [← HQ.out]; rfl, b2⟩)
  clear HI
  go_enter Try.func7, Try.ntmps7
  go_wp2_with fail
  rw [← HW1.out]
  refine HC.out.mono ?_
  rintro e w2 ⟨rfl, b2⟩
  have HB2 := hidn (HB1.out.trans (b2.mono HB1.out.size))
  clear b2
  go_wp2_with fail
  go_ret
  exact ⟨rfl, HB2.out⟩
end Go.Proofs.Ytkhihochfmgibaa
