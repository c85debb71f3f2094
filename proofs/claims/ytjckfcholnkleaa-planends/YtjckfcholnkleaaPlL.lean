/- PlanEnds' closure, slices.IndexFunc with it. -/
import Derived.Test.YtjckfcholnkleaaPlE
import Derived.Test.YtjckfcholnkleaaPlK
import Derived.Deep.RegionWith
namespace Go.Proofs.Ytjckfcholnkleaa
open Go.RowKit Go.Joins
set_option linter.unusedVariables false

set_option maxHeartbeats 600000 in
set_option maxRecDepth 100000 in
theorem endClo (f : Fo) (B tb tf tl tc : Nat) (x0 : Int) (w : World) (hB : w.cell? ⟨B, 0, none⟩ = some (.slice (some ⟨tb, tf, none⟩) tl tc)) (ht : w.cell? ⟨tb, tf, none⟩ = some (.int .i64 x0)) (htl : 0 < tl) :
    Calls Try.prog 28 #[f.agg, .pointer (some ⟨B, 0, none⟩)] w fun e w' => e = .returned (.bool (f.nu == x0)) ∧ Below w.heap.size w w' := by
  obtain ⟨Z, hZ⟩ : ∃ Z, Z = (f.nu == x0) := ⟨_, rfl⟩
  rw [← hZ]
  have HZ := hidn hZ
  clear hZ
  obtain ⟨nu, ge, lv, rk, mn, mx, bt, pa, pl, pc, ps⟩ := f
  simp only [Fo.agg] at HZ ⊢
  have htl2 : (0 : Int) < (tl : Int) := by omega
  obtain ⟨wA, hwA⟩ : ∃ wA, wA = w.alloc (.cells #[.int .i64 nu, .int .i64 ge, .int .i64 lv, .int .i64 rk, .int .i64 mn, .int .i64 mx, .int .i64 bt, .slice pa pl pc] 32) := ⟨_, rfl⟩
  have bA : Below w.heap.size w wA := by rw [hwA]; exact (Below.refl _ w).alloc (Nat.le_refl _) _
  have qA : wA.heap[w.heap.size]? = some (.cells #[.int .i64 nu, .int .i64 ge, .int .i64 lv, .int .i64 rk, .int .i64 mn, .int .i64 mx, .int .i64 bt, .slice pa pl pc] 32 (0, 0)) := by rw [hwA]; exact heap_alloc_new w _
  have e0 : wA.cell? ⟨w.heap.size, 0, none⟩ = some (.int .i64 nu) := cell_of_row _ _ _ _ _ _ qA
  have eB : wA.cell? ⟨B, 0, none⟩ = some (.slice (some ⟨tb, tf, none⟩) tl tc) := (bA.cell (block_lt_of_cell hB)).trans hB
  have eT : wA.cell? ⟨tb, tf, none⟩ = some (.int .i64 x0) := (bA.cell (block_lt_of_cell ht)).trans ht
  have DA : Below w.heap.size w wA.drew := bA.drew
  have HWA := hidn hwA
  clear hwA qA hB ht
  cases hq : (nu == x0) with
  | true =>
    have HZ2 : Hid (Z = true) := hidn (by rw [HZ.out, hq])
    go_enter Try.func28, Try.ntmps28
    go_wp2_with fail
    rw [← HWA.out]
    go_region
    go_wp2_with fail
    exact bodyPost_ret (v := .bool true) (by simp [results, Try.results28, go_sem]) rfl ⟨by rw [HZ2.out], DA⟩
  | false =>
    have HZ2 : Hid (Z = false) := hidn (by rw [HZ.out, hq])
    go_enter Try.func28, Try.ntmps28
    go_wp2_with fail
    rw [← HWA.out]
    go_region
    go_wp2_with fail
    exact bodyPost_ret (v := .bool false) (by simp [results, Try.results28, go_sem]) rfl ⟨by rw [HZ2.out], DA⟩

set_option maxHeartbeats 600000 in
set_option maxRecDepth 100000 in
theorem endIdx (b off len cap : Nat) (l : List Fo) (B tb tf tl tc p : Nat) (x0 : Int) (w : World) (h : Fls w (some ⟨b, off, none⟩) len l) (hm : len ≤ 1000000) (hB : w.cell? ⟨B, 0, none⟩ = some (.slice (some ⟨tb, tf, none⟩) tl tc)) (ht : w.cell? ⟨tb, tf, none⟩ = some (.int .i64 x0)) (htl : 0 < tl)
    (hp : p < len) (hat : ∀ f, l[p]? = some f → (f.nu == x0) = true) (hbef : ∀ j f, j < p → l[j]? = some f → (f.nu == x0) = false) :
    Calls Try.prog 27 #[.slice (some ⟨b, off, none⟩) len cap, .func (.func 28) #[] #[.pointer (some ⟨B, 0, none⟩)]] w fun e w' => e = .returned (.int .i64 (p : Int)) ∧ Below w.heap.size w w' := by
  have hlen := hidn h.1
  have HAT := hidn hat
  have HBF := hidn hbef
  clear hat hbef
  go_enter Try.func27, Try.ntmps27
  go_wp2_with fail
  go_loopw [8] (fun iv wr => ∃ (k : Nat), k ≤ p ∧ iv = .int .i64 (k : Int) ∧ Below w.heap.size w wr) (fun iv _ => len - (intOf iv).toNat)
  case atStart => exact ⟨0, Nat.zero_le _, rfl, Below.refl _ _⟩
  case round =>
    obtain ⟨k, hk, rfl, hb⟩ := hrel
    have hlt : k < len := by omega
    have hlt2 : (k : Int) < (len : Int) := by omega
    obtain ⟨d, hd⟩ : ∃ d, l[k]? = some d := ⟨_, List.getElem?_eq_getElem (by rw [hlen.out]; exact hlt)⟩
    obtain ⟨b', off', e, hbk, c0, c1, c2, c3, c4, c5, c6, c7, -⟩ := (h.below hb).at hd
    cases e
    have HC := hidn (endClo d B tb tf tl tc x0 wr ((hb.cell (block_lt_of_cell hB)).trans hB) ((hb.cell (block_lt_of_cell ht)).trans ht) htl)
    simp only [Fo.agg] at HC
    by_cases hkp : k = p
    · have hq : (d.nu == x0) = true := HAT.out d (by rw [← hkp]; exact hd)
      rw [hq] at HC
      have HKP := hidn hkp
      clear hq hd hkp
      go_wp2_with fail
      refine HC.out.mono ?_
      rintro e w1 ⟨rfl, b1⟩
      have B1 := hb.trans (b1.mono hb.size)
      go_wp2_with fail
      exact bodyPost_ret (v := .int .i64 (k : Int)) (by simp [results, Try.results27, go_sem]) rfl ⟨by rw [HKP.out], B1⟩
    · have hq : (d.nu == x0) = false := HBF.out k d (by omega) hd
      rw [hq] at HC
      clear hq hd
      go_wp2_with fail
      refine HC.out.mono ?_
      rintro e w1 ⟨rfl, b1⟩
      have B1 := hb.trans (b1.mono hb.size)
      go_wp2_with fail
      exact ⟨⟨k + 1, by omega, by simp, B1⟩, by simp [intOf]; omega⟩

end Go.Proofs.Ytjckfcholnkleaa
