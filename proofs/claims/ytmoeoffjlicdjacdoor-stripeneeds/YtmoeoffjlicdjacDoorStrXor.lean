/- Slots of a stripe: their xor. -/
import Derived.Test.YtmoeoffjlicdjacDoorStrSlot
import Derived.Test.YtmoeoffjlicdjacDoorDiskRot
namespace Go.Proofs.YtmoeoffjlicdjacDoor
open Go.RowKit Go.Maps
set_option linter.unusedVariables false

def xorL (X Y : List Nat) : List Nat := List.zipWith (· ^^^ ·) X Y
def xorTo (X Y : List Nat) (k : Nat) : List Nat := (xorL X Y).take k ++ X.drop k
theorem xorL_length {X Y : List Nat} (hx : X.length = 106) (hy : Y.length = 106) : (xorL X Y).length = 106 := by simp [xorL, hx, hy]
theorem xorTo_length {X Y : List Nat} (hx : X.length = 106) (hy : Y.length = 106) (k : Nat) (hk : k ≤ 106) : (xorTo X Y k).length = 106 := by
  simp [xorTo, xorL_length hx hy, hx]; omega
theorem xorTo_zero (X Y : List Nat) : xorTo X Y 0 = X := by simp [xorTo]
theorem xorTo_all {X Y : List Nat} (hx : X.length = 106) (hy : Y.length = 106) : xorTo X Y 106 = xorL X Y := by
  simp [xorTo, List.take_of_length_le (Nat.le_of_eq (xorL_length hx hy)), List.drop_of_length_le (Nat.le_of_eq hx)]
theorem xorTo_at {X Y : List Nat} (hx : X.length = 106) (hy : Y.length = 106) (k : Nat) (hk : k < 106) : (xorTo X Y k).getD k 0 = X.getD k 0 := by
  unfold xorTo
  rw [List.getD_eq_getElem?_getD, List.getElem?_append_right (by rw [List.length_take, xorL_length hx hy]; omega), List.length_take, xorL_length hx hy, Nat.min_eq_left (by omega), Nat.sub_self, List.getElem?_drop]
  simp
theorem xorTo_step {X Y : List Nat} (hx : X.length = 106) (hy : Y.length = 106) (k : Nat) (hk : k < 106) : (xorTo X Y k).set k (X.getD k 0 ^^^ Y.getD k 0) = xorTo X Y (k + 1) := by
  unfold xorTo
  have hl := xorL_length hx hy
  rw [List.set_append_right _ _ (by rw [List.length_take, hl]; omega), List.length_take, hl, Nat.min_eq_left (by omega), Nat.sub_self, List.drop_eq_getElem_cons (by omega), List.set_cons_zero, List.take_succ_eq_append_getElem (by omega), List.append_assoc]
  congr 2
  simp [xorL, List.getD_eq_getElem?_getD, hx, hy, hk]
theorem xorL_lt {X Y : List Nat} (hx : ∀ x ∈ X, x < 256) (hy : ∀ x ∈ Y, x < 256) : ∀ x ∈ xorL X Y, x < 256 := by
  intro x h
  obtain ⟨i, hi, rfl⟩ := List.mem_iff_getElem.1 h
  simp only [xorL, List.getElem_zipWith]
  exact Nat.xor_lt_two_pow (n := 8) (hx _ (List.getElem_mem _)) (hy _ (List.getElem_mem _))
theorem vb_set' (l : List Nat) (k x : Nat) : (vb l).set k (.int .u8 (x : Int)) = vb (l.set k x) := by simp [vb, List.map_set]
theorem slot_index (g k : Nat) (hk : k < 106) (wx : World) : (Instr.indexAt 89 (.pointer (some ⟨g, 0, none⟩)) (.int .i64 (k : Int))).run Tryd.prog wx = .ok (.pointer (some ⟨g, k, none⟩)) wx := by
  rw [run_indexAt_array (P := Tryd.prog) wx 89 ⟨g, 0, none⟩ .i64 (k : Int) (by kernel_rfl)]
  have h1 : Tryd.prog.arrayLen 89 = 106 := by kernel_rfl
  have h2 : (sizeOf (Tryd.prog.elem 89)).run Tryd.prog wx = .ok 1 wx := by kernel_rfl
  rw [h1, if_pos ⟨by omega, by omega⟩, h2]
  simp [Result.andThen, add_none]
theorem load_cell {w : World} {p : Addr} {v : Int} (h : w.cell? p = some (.int .u8 v)) : (Instr.loadAt 5 (.pointer (some p))).run Tryd.prog w = .ok (.int .u8 v) w := by go_simp
theorem store_cell {w : World} {p : Addr} {v x : Int} (h : w.cell? p = some (.int .u8 v)) (hf : w.frozen? p = false) : (Instr.storeAt 5 (.pointer (some p)) (.int .u8 x)).run Tryd.prog w = .ok () (w.setCell p (.int .u8 x)) := by go_simp

set_option maxHeartbeats 2000000 in
theorem xor_any (w : World) (X Y : List Nat) (hx : X.length = 106) (hy : Y.length = 106) (hxb : ∀ x ∈ X, x < 256) (hyb : ∀ x ∈ Y, x < 256) (L : List Nat) (HL : Hid (L = xorL X Y)) :
    Calls Tryd.prog 63 #[.agg (vb X).toArray, .agg (vb Y).toArray] w fun e w' => e = .returned (.agg (vb L).toArray) ∧ Below w.heap.size w w' := by
  obtain ⟨hz, hzs⟩ := zero_of_info Tryd.infoSlot
  obtain ⟨c0, hc0⟩ : ∃ c0, c0 = List.replicate 106 0 := ⟨_, rfl⟩
  rw [← hc0] at hz
  have l0 : (vb c0).toArray.size = 106 := by rw [hc0]; rfl
  have lL : L.length = 106 := by rw [HL.out]; exact xorL_length hx hy
  have HSZ : Hid ((Tryd.prog.info? 89).map (·.size) = some (vb L).toArray.size) := hidn (by rw [hzs]; simp [length_vb, lL])
  have HSL : Hid ((Tryd.prog.info? 89).map (·.size) = some (vb L).length) := hidn (by rw [hzs, length_vb, lL])
  have HOLD : Hid ((vb c0).toArray.size = (vb L).toArray.size) := hidn (by rw [l0]; simp [length_vb, lL])
  have HX := hidn hx
  have HY := hidn hy
  have HXB := hidn hxb
  have HYB := hidn hyb
  obtain ⟨w3, hw3⟩ : ∃ w3, w3 = ((w.alloc (.cells (vb X).toArray 89)).alloc (.cells (vb Y).toArray 89)).alloc (.cells (vb c0).toArray 89) := ⟨_, rfl⟩
  have hA3 : w3.heap[w.heap.size]? = some (.cells (vb X).toArray 89 (0, 0)) := by
    rw [hw3, Below.heap_alloc _ _ _ (by simp; omega), Below.heap_alloc _ _ _ (by simp)]; exact heap_alloc_new _ _
  have hB3 : w3.heap[w.heap.size + 1]? = some (.cells (vb Y).toArray 89 (0, 0)) := by
    rw [hw3, Below.heap_alloc _ _ _ (by simp)]
    have := heap_alloc_new (w.alloc (.cells (vb X).toArray 89)) (.cells (vb Y).toArray 89)
    simpa using this
  have hC3 : w3.heap[w.heap.size + 1 + 1]? = some (.cells (vb c0).toArray 89 (0, 0)) := by
    rw [hw3]
    have := heap_alloc_new ((w.alloc (.cells (vb X).toArray 89)).alloc (.cells (vb Y).toArray 89)) (.cells (vb c0).toArray 89)
    simpa using this
  have hb3 : Below w.heap.size w w3 := by rw [hw3]; exact (((Below.refl _ _).alloc (Nat.le_refl _) _).alloc (by simp) _).alloc (by simp; omega) _
  have HA3 := hidn hA3
  have HB3 := hidn hB3
  have HC3 := hidn hC3
  have HW3 := hidn hw3
  clear hx hy hxb hyb hA3 hB3 hC3 hw3 hc0 l0 lL hzs
  go_enter Tryd.func63, Tryd.ntmps63
  go_wp2_with fail
  rw [← HW3.out]
  go_loopw [6] (fun iv wr => ∃ k : Nat, k ≤ 106 ∧ iv = .int .i64 k ∧ Hid (wr.heap[w.heap.size]? = some (.cells (vb (xorTo X Y k)).toArray 89 (0, 0))) ∧ Hid (wr.heap[w.heap.size + 1]? = some (.cells (vb Y).toArray 89 (0, 0))) ∧ Hid (wr.heap[w.heap.size + 1 + 1]? = some (.cells (vb c0).toArray 89 (0, 0))) ∧ Below w.heap.size w wr) (fun iv _ => 106 - (intOf iv).toNat)
  case atStart =>
    refine ⟨0, by omega, rfl, ?_, HB3, HC3, hb3⟩
    rw [xorTo_zero]
    exact HA3
  case round =>
    obtain ⟨k, hk, rfl, HA, HB, HC, hbk⟩ := hrel
    by_cases hlt : k < 106
    · have hlt' : decide (k < 106) = true := by simpa using hlt
      have hlt2 : decide ((k : Int) < 106) = true := decide_eq_true (by omega)
      obtain ⟨x, hxx⟩ : ∃ x, x = X.getD k 0 := ⟨_, rfl⟩
      obtain ⟨y, hyy⟩ : ∃ y, y = Y.getD k 0 := ⟨_, rfl⟩
      have hx8 : x < 256 := by rw [hxx]; exact getD_b (by rw [HX.out]; exact hlt) HXB.out
      have hy8 : y < 256 := by rw [hyy]; exact getD_b (by rw [HY.out]; exact hlt) HYB.out
      have hxo := xor8 x y hx8 hy8
      obtain ⟨z, hzz⟩ : ∃ z, z = x ^^^ y := ⟨_, rfl⟩
      rw [← hzz] at hxo
      have hcx : wr.drew.cell? ⟨w.heap.size, k, none⟩ = some (.int .u8 (x : Int)) := by
        have h1 : wr.drew.heap[w.heap.size]? = some (.cells (vb (xorTo X Y k)).toArray 89 (0, 0)) := HA.out
        rw [cell_of_row _ _ _ _ _ _ h1, List.getElem?_toArray, vb_getD _ _ (by rw [xorTo_length HX.out HY.out k hk]; exact hlt), xorTo_at HX.out HY.out k hlt, hxx]
      have hcy : wr.drew.cell? ⟨w.heap.size + 1, k, none⟩ = some (.int .u8 (y : Int)) := by
        have h1 : wr.drew.heap[w.heap.size + 1]? = some (.cells (vb Y).toArray 89 (0, 0)) := HB.out
        rw [cell_of_row _ _ _ _ _ _ h1, List.getElem?_toArray, vb_getD _ _ (by rw [HY.out]; exact hlt), hyy]
      have hfx : wr.drew.frozen? ⟨w.heap.size, k, none⟩ = false := frozen_of_row wr.drew _ k _ _ (show wr.drew.heap[w.heap.size]? = some (.cells (vb (xorTo X Y k)).toArray 89 (0, 0)) from HA.out)
      obtain ⟨wd, hwd⟩ : ∃ wd, wd = wr.drew := ⟨_, rfl⟩
      rw [← hwd] at hcx hcy hfx
      have E1 := hidn (load_cell hcx)
      have E2 := hidn (store_cell (x := (z : Int)) hcx hfx)
      obtain ⟨w7, hw7⟩ : ∃ w7, w7 = wd.setCell ⟨w.heap.size, k, none⟩ (.int .u8 (z : Int)) := ⟨_, rfl⟩
      rw [← hw7] at E2
      have hAd : wd.heap[w.heap.size]? = some (.cells (vb (xorTo X Y k)).toArray 89 (0, 0)) := by rw [hwd]; exact HA.out
      have HA7 : Hid (w7.heap[w.heap.size]? = some (.cells (vb (xorTo X Y (k + 1))).toArray 89 (0, 0))) := hidn (by
        rw [hw7, setCell_eq_setRow _ _ _ _ _ _ _ hAd, List.setIfInBounds_toArray, vb_set', hzz, hxx, hyy, xorTo_step HX.out HY.out k hlt]
        exact setRow_heap _ _ _ _ _ _ hAd)
      have HB7 : Hid (w7.heap[w.heap.size + 1]? = some (.cells (vb Y).toArray 89 (0, 0))) := hidn (by rw [hw7, heap_setCell_other _ _ _ _ (by show w.heap.size + 1 ≠ w.heap.size; omega), hwd]; exact HB.out)
      have HC7 : Hid (w7.heap[w.heap.size + 1 + 1]? = some (.cells (vb c0).toArray 89 (0, 0))) := hidn (by rw [hw7, heap_setCell_other _ _ _ _ (by show w.heap.size + 1 + 1 ≠ w.heap.size; omega), hwd]; exact HC.out)
      have hb7 : Below w.heap.size w w7 := by rw [hw7, hwd]; exact hbk.drew.setCell (p := ⟨w.heap.size, k, none⟩) (Nat.le_refl _) _
      have HCY7 : Hid (w7.cell? ⟨w.heap.size + 1, k, none⟩ = some (.int .u8 (y : Int))) := hidn (by rw [cell_of_row _ _ _ _ _ _ HB7.out, List.getElem?_toArray, vb_getD _ _ (by rw [HY.out]; exact hlt), hyy])
      have HIX := hidn (fun (g : Nat) (wx : World) => slot_index g k hlt wx)
      have HWD := hidn hwd
      have HCY := hidn hcy
      clear hxx hyy hzz hcx hfx hwd hw7 hAd hcy
      go_wp2_with fail
      refine wp_region_noPanic ?_
      refine wp_region_held_drew (S := fun w' => w'.cell? ⟨w.heap.size + 1, k, none⟩ = some (.int .u8 (y : Int))) (by kernel_rfl) (HWD.out ▸ HCY.out) (fun hHeld => ?_)
      rw [← HWD.out]
      rw [← HWD.out] at hHeld
      refine drawn_take (i := 0) (v := .int .i64 (k : Int)) (some 9) rfl rfl (by kernel_rfl) (by kernel_rfl) (by kernel_rfl) (fun _ _ _ h => h) (Or.inl ⟨by kernel_rfl, fun w hw => by go_simp⟩) hHeld ?_
      simp only [Act.put, List.setIfInBounds_toArray, List.set_cons_succ, List.set_cons_zero]
      refine drawn_take (i := 1) (v := .pointer (some ⟨w.heap.size, k, none⟩)) (some 10) rfl rfl (by kernel_rfl) (by kernel_rfl) (by kernel_rfl) (fun _ _ _ h => h) (Or.inl ⟨by kernel_rfl, fun wq hw => idx_run (x := .tmp 2) (y := .tmp 9) (vx := .pointer (some ⟨w.heap.size, 0, none⟩)) (vy := .int .i64 (k : Int)) (by kernel_rfl) (by kernel_rfl) (by kernel_rfl) (HIX.out (w.heap.size) wq)⟩) hHeld ?_
      refine drawn_take (i := 3) (v := .int .i64 (k : Int)) (some 12) rfl rfl (by kernel_rfl) (by kernel_rfl) (by kernel_rfl) (fun _ _ _ h => h) (Or.inl ⟨by kernel_rfl, fun w hw => by go_simp⟩) hHeld ?_
      simp only [Act.put, List.setIfInBounds_toArray, List.set_cons_succ, List.set_cons_zero]
      refine drawn_take (i := 4) (v := .pointer (some ⟨w.heap.size + 1, k, none⟩)) (some 13) rfl rfl (by kernel_rfl) (by kernel_rfl) (by kernel_rfl) (fun _ _ _ h => h) (Or.inl ⟨by kernel_rfl, fun wq hw => idx_run (x := .tmp 3) (y := .tmp 12) (vx := .pointer (some ⟨w.heap.size + 1, 0, none⟩)) (vy := .int .i64 (k : Int)) (by kernel_rfl) (by kernel_rfl) (by kernel_rfl) (HIX.out (w.heap.size + 1) wq)⟩) hHeld ?_
      simp only [Act.put, List.setIfInBounds_toArray, List.set_cons_succ, List.set_cons_zero]
      refine drawn_take (i := 5) (v := .int .u8 (y : Int)) (some 14) rfl rfl (by kernel_rfl) (by kernel_rfl) (by kernel_rfl) (fun _ _ _ h => h) (Or.inl ⟨by kernel_rfl, fun wq hw => load_run (x := .tmp 13) (vx := .pointer (some ⟨w.heap.size + 1, k, none⟩)) (by kernel_rfl) (by kernel_rfl) (load_cell hw)⟩) hHeld ?_
      simp only [Act.put, List.setIfInBounds_toArray, List.set_cons_succ, List.set_cons_zero]
      refine wpAnyH_ready (rs := [2]) (by kernel_rfl) (by simp) ?_
      refine rdy_val (i := 2) rfl rfl (some 11) rfl (.int .u8 (x : Int)) wd (load_run (x := .tmp 10) (vx := .pointer (some ⟨w.heap.size, k, none⟩)) (by kernel_rfl) (by kernel_rfl) E1.out) HCY.out (fun hHeld => ?_) rdy_nil
      simp only [Act.put, List.setIfInBounds_toArray, List.set_cons_succ, List.set_cons_zero]
      refine drawn_take (i := 6) (v := .int .u8 (z : Int)) (some 15) rfl rfl (by kernel_rfl) (by kernel_rfl) (by kernel_rfl) (fun _ _ _ h => h) (Or.inl ⟨by kernel_rfl, fun w hw => by go_simp⟩) hHeld ?_
      simp only [Act.put, List.setIfInBounds_toArray, List.set_cons_succ, List.set_cons_zero]
      refine drawn_take (i := 7) (v := .pointer (some ⟨w.heap.size, k, none⟩)) (some 16) rfl rfl (by kernel_rfl) (by kernel_rfl) (by kernel_rfl) (fun _ _ _ h => h) (Or.inl ⟨by kernel_rfl, fun wq hw => idx_run (x := .tmp 2) (y := .tmp 9) (vx := .pointer (some ⟨w.heap.size, 0, none⟩)) (vy := .int .i64 (k : Int)) (by kernel_rfl) (by kernel_rfl) (by kernel_rfl) (HIX.out (w.heap.size) wq)⟩) hHeld ?_
      simp only [Act.put, List.setIfInBounds_toArray, List.set_cons_succ, List.set_cons_zero]
      refine wpAnyH_ready (rs := [8]) (by kernel_rfl) (by simp) ?_
      refine rdy_unit (i := 8) rfl rfl none rfl w7 (store_run (ty := 5) (x := .tmp 16) (y := .tmp 15) (vx := .pointer (some ⟨w.heap.size, k, none⟩)) (vy := .int .u8 (z : Int)) (by kernel_rfl) (by kernel_rfl) (by kernel_rfl) E2.out) HCY7.out (fun hHeld => ?_) rdy_nil
      refine wpAnyH_done (by kernel_rfl) ?_ _
      refine NoPanic.normal ?_
      simp only [Act.put]
      clear hHeld
      go_wp2
      go_roundw
      case rel => exact ⟨k + 1, hlt, by go_num, HA7, HB7, HC7, hb7⟩
      case measure => simp [intOf]; omega
    · obtain rfl : k = 106 := by omega
      rw [xorTo_all HX.out HY.out, ← HL.out] at HA
      have HRR := hidn (row_range HA.out)
      simp only [show ((106 : Nat) : Int) = 106 from rfl]
      repeat (first
        | (with_reducible refine wpList_load_mid (by rfl) 89 (.tmp 2) (by rfl) (w.heap.size) 0 (by kernel_rfl) (vb L) _ HRR.out Tryd.underlying89 (by rfl) HSL.out ?_)
        | (with_reducible refine wpList_store_row (by rfl) 89 (.tmp 4) (.tmp 18) (by rfl) (w.heap.size + 1 + 1) (vb L).toArray (by kernel_rfl) (by kernel_rfl) 89 (vb c0).toArray HC.out HSZ.out HOLD.out image_all ?_)
        | go_values | go_skip | go_guarded | go_step | go_upon)
      exact bodyPost_ret (v := .agg (vb L).toArray) (results_cell_row rfl _ _ (w.heap.size + 1 + 1) 89 _ (0, 0) _ rfl (setRow_heap _ _ _ _ _ _ HC.out) Tryd.underlying89 rfl HSZ.out) rfl ⟨rfl, below_setRow hbk (by omega) _⟩
end Go.Proofs.YtmoeoffjlicdjacDoor
