/- plan.canMerge, plan.Merge. -/
import Derived.Test.YtjckfcholnkleaaPlC
import Derived.Deep.RegionWith
namespace Go.Proofs.Ytjckfcholnkleaa
open Go.RowKit Go.Joins
set_option linter.unusedVariables false
def okLv (x : Int) (f : Fo) : Bool := decide (f.lv = x) && decide (f.lv < 3)
def canMergeL (l : List Fo) : Bool := match l with
  | [] => true
  | d :: t => (d :: t).all (okLv d.lv)
theorem canMergeL_of {l : List Fo} {d : Fo} (h : l[0]? = some d) : canMergeL l = l.all (okLv d.lv) := by
  cases l with
  | nil => simp at h
  | cons x t => simp at h; subst h; rfl
theorem all_take_false {l : List Fo} {p : Fo → Bool} {k : Nat} {d : Fo} (hd : l[k]? = some d) (h : p d = false) : l.all p = false := by
  rw [Bool.eq_false_iff]
  intro e
  have := List.all_eq_true.1 e d (List.mem_of_getElem? hd)
  rw [h] at this
  cases this
set_option maxHeartbeats 2000000 in
set_option maxRecDepth 100000 in
theorem canMerge_any (a : Option Addr) (len cap : Nat) (l : List Fo) (w : World) (h : Fls w a len l) (hm : len ≤ 1000000) :
    Calls Try.prog 35 #[.slice a len cap] w fun e w' => e = .returned (.bool (canMergeL l)) ∧ Below w.heap.size w w' := by
  have hlen := hidn h.1
  obtain ⟨Z, hZ⟩ : ∃ Z, Z = canMergeL l := ⟨_, rfl⟩
  rw [← hZ]
  have HZ := hidn hZ
  clear hZ
  go_enter Try.func35, Try.ntmps35
  go_wp2_with fail
  go_loopw [7] (fun iv wr => ∃ (k : Nat), k ≤ len ∧ iv = .int .i64 (k : Int) ∧ Hid (∀ d, l[0]? = some d → (l.take k).all (okLv d.lv) = true) ∧ Below w.heap.size w wr) (fun iv _ => len - (intOf iv).toNat)
  case atStart => exact ⟨0, Nat.zero_le _, rfl, hidn (fun d hd => rfl), Below.refl _ _⟩
  case round =>
    obtain ⟨k, hk, rfl, hO, hb⟩ := hrel
    by_cases hlt : k < len
    · have hlt2 : (k : Int) < (len : Int) := by omega
      have hl0 : (0 : Int) < (len : Int) := by omega
      obtain ⟨d, hd⟩ : ∃ d, l[k]? = some d := ⟨_, List.getElem?_eq_getElem (by rw [hlen.out]; exact hlt)⟩
      obtain ⟨x, hx⟩ : ∃ d, l[0]? = some d := ⟨_, List.getElem?_eq_getElem (by rw [hlen.out]; omega)⟩
      obtain ⟨b, off, rfl, hbk, c0, c1, c2, c3, c4, c5, c6, c7, hms⟩ := (h.below hb).at hd
      obtain ⟨b', off', e, _, _, _, x2, _⟩ := (h.below hb).at hx
      cases e
      have HT : Hid (l.take (k + 1) = l.take k ++ [d]) := hidn (by rw [List.take_add_one, hd]; rfl)
      have HF : Hid (okLv x.lv d = false → Z = false) := hidn (fun e => by rw [HZ.out, canMergeL_of hx]; exact all_take_false hd e)
      have HK : Hid (okLv x.lv d = true → ∀ d, l[0]? = some d → (l.take (k + 1)).all (okLv d.lv) = true) := hidn (fun e y hy => by
        rw [hx] at hy
        cases hy
        rw [HT.out, List.all_append, hO.out x hx]
        simp [e])
      clear hd hx
      obtain ⟨nu, ge, lv, rk, mn, mx, bt, pa, pl, pc, ps⟩ := d
      obtain ⟨nu', ge', lv', rk', mn', mx', bt', pa', pl', pc', ps'⟩ := x
      simp only at c0 c1 c2 c3 c4 c5 c6 c7 hms x2 HF HK
      obtain ⟨wA, hwA⟩ : ∃ wA, wA = wr.alloc (.cells #[.int .i64 nu, .int .i64 ge, .int .i64 lv, .int .i64 rk, .int .i64 mn, .int .i64 mx, .int .i64 bt, .slice pa pl pc] 32) := ⟨_, rfl⟩
      have bA : Below wr.heap.size wr wA := by rw [hwA]; exact (Below.refl _ wr).alloc (Nat.le_refl _) _
      have BA := hb.trans (bA.mono hb.size)
      have qA : wA.heap[wr.heap.size]? = some (.cells #[.int .i64 nu, .int .i64 ge, .int .i64 lv, .int .i64 rk, .int .i64 mn, .int .i64 mx, .int .i64 bt, .slice pa pl pc] 32 (0, 0)) := by rw [hwA]; exact heap_alloc_new wr _
      have e2 : wA.cell? ⟨wr.heap.size, 2, none⟩ = some (.int .i64 lv) := cell_of_row _ _ _ _ _ _ qA
      simp only [Nat.zero_mul, Nat.add_zero] at x2
      have y2 : wA.cell? ⟨b, off + 2, none⟩ = some (.int .i64 lv') := (bA.cell hbk).trans x2
      have BD : Below w.heap.size w wA.drew := BA.drew
      by_cases hl : lv = lv'
      · have hl1 : (lv != lv') = false := by simp [hl]
        by_cases h3 : lv < 3
        · have h3' : ¬ (3 ≤ lv) := by omega
          have HK2 := hidn (HK.out (by simp [okLv, hl]; omega))
          have HWA := hidn hwA
          clear hwA hl HF HK
          go_wp2_with fail
          rw [← HWA.out]
          go_region
          go_wp2_with fail
          exact ⟨⟨k + 1, by omega, by simp, HK2, BD⟩, by simp [intOf]; omega⟩
        · have h3' : 3 ≤ lv := by omega
          have HK2 := hidn (HF.out (by simp [okLv, h3]))
          have HWA := hidn hwA
          clear hwA hl HF HK
          go_wp2_with fail
          rw [← HWA.out]
          go_region
          go_wp2_with fail
          exact bodyPost_ret (v := .bool false) (by simp [results, Try.results35, go_sem]) rfl ⟨by rw [HK2.out], BD⟩
      · have hl1 : (lv != lv') = true := by simp [hl]
        have HK2 := hidn (HF.out (by simp [okLv, hl]))
        have HWA := hidn hwA
        clear hwA hl HF HK
        go_wp2_with fail
        rw [← HWA.out]
        go_region
        go_wp2_with fail
        exact bodyPost_ret (v := .bool false) (by simp [results, Try.results35, go_sem]) rfl ⟨by rw [HK2.out], BD⟩
    · have hlt2 : ¬ (k : Int) < (len : Int) := by omega
      have HN : Hid (Z = true) := hidn (by
        rw [HZ.out]
        cases hl : l with
        | nil => rfl
        | cons x t =>
          have := hO.out x (by rw [hl]; rfl)
          rw [List.take_of_length_le (by rw [hlen.out]; omega), hl] at this
          exact this)
      go_wp2_with fail
      exact bodyPost_ret (v := .bool true) (by simp [results, Try.results35, go_sem]) rfl ⟨by rw [HN.out], hb⟩
end Go.Proofs.Ytjckfcholnkleaa
