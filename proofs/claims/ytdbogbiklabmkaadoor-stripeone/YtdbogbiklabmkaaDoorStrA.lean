import Derived.Test.YtdbogbiklabmkaaDoorPairBase
import Derived.Test.YtdbogbiklabmkaaDoorDiskRot
import Derived.Test.YtdbogbiklabmkaaDoorArrEq
/- Slots of a stripe: a part's slot. -/
namespace Go.Proofs.YtdbogbiklabmkaaDoor
open Go.RowKit Go.Maps
set_option linter.unusedVariables false

theorem Tryd.infoSlot : (Tryd.prog.info? 65).map (fun i => (i.zero, i.size)) = some (some (.agg (vb (List.replicate 106 0)).toArray), 106) := by kernel_rfl
/-- A part's slot: its length, the part, noughts. -/
def slotB (p : List Nat) : List Nat := p.length :: (p ++ List.replicate (105 - p.length) 0)
theorem slotB_length (p : List Nat) (h : p.length ≤ 105) : (slotB p).length = 106 := by simp [slotB]; omega
theorem slotB_lt (p : List Nat) (h : p.length ≤ 105) (hp : ∀ x ∈ p, x < 256) : ∀ x ∈ slotB p, x < 256 := by
  intro x hx
  simp only [slotB, List.mem_cons, List.mem_append, List.mem_replicate] at hx
  rcases hx with rfl | hx | ⟨_, rfl⟩
  · omega
  · exact hp x hx
  · omega
theorem row_range {w : World} {b t : Nat} {L : List Nat} (h : w.heap[b]? = some (.cells (vb L).toArray t (0, 0))) : w.rangeAt b 0 (vb L) := by
  intro j v hj
  rw [Nat.zero_add, cell_of_row _ _ _ _ _ _ h]
  simpa using hj
theorem conv_u8 {n : Nat} (h : n < 256) : IntKind.u8.wrap (n : Int) = (n : Int) := by rw [IntKind.wrap_u8]; omega

theorem slot_row (p : List Nat) (len : Nat) (hpl : p.length = len) (hl : len ≤ 105) :
    ((vb (List.replicate 106 0)).toArray.setIfInBounds 0 (.int .u8 (len : Int))).toList.take 1 ++ vb p ++ ((vb (List.replicate 106 0)).toArray.setIfInBounds 0 (.int .u8 (len : Int))).toList.drop (1 + len) = vb (slotB p) := by
  have e : ((vb (List.replicate 106 0)).toArray.setIfInBounds 0 (.int .u8 (len : Int))).toList = Value.int .u8 (len : Int) :: List.replicate 105 (Value.int .u8 0) := by
    rw [List.setIfInBounds_toArray, List.toList_toArray, show (106 : Nat) = 105 + 1 from rfl, List.replicate_succ]
    simp [vb]
  rw [e, Nat.add_comm 1 len, List.drop_succ_cons, List.drop_replicate]
  simp [slotB, vb, hpl]

set_option maxHeartbeats 2000000 in
theorem partSlot_any (w : World) (a : Option Addr) (len cap : Nat) (p : List Nat) (hB : Bs w a len p) (hl : len ≤ 105) (L : List Nat) (HL : Hid (L = slotB p)) :
    Calls Tryd.prog 33 #[.slice a len cap] w fun e w' => e = .returned (.agg (vb L).toArray) ∧ Below w.heap.size w w' := by
  obtain ⟨hz, hzs⟩ := zero_of_info Tryd.infoSlot
  obtain ⟨c0, hc0⟩ : ∃ c0, c0 = List.replicate 106 0 := ⟨_, rfl⟩
  rw [← hc0] at hz
  have l0 : (vb c0).toArray.size = 106 := by rw [hc0]; rfl
  have hpl := hB.1
  have lL : L.length = 106 := by rw [HL.out]; exact slotB_length p (by omega)
  have HSZ : Hid ((Tryd.prog.info? 65).map (·.size) = some (vb L).toArray.size) := hidn (by rw [hzs]; simp [length_vb, lL])
  have HSL : Hid ((Tryd.prog.info? 65).map (·.size) = some (vb L).length) := hidn (by rw [hzs, length_vb, lL])
  have HOLD : Hid ((vb c0).toArray.size = (vb L).toArray.size) := hidn (by rw [l0]; simp [length_vb, lL])
  -- the worlds
  have hv0 : (vb c0)[0]? = some (.int .u8 0) := by rw [hc0]; rfl
  obtain ⟨r, hr⟩ : ∃ r, r = w.heap.size := ⟨_, rfl⟩
  obtain ⟨b, hb⟩ : ∃ b, b = w.heap.size + 1 := ⟨_, rfl⟩
  have hs1 : (w.alloc (.cells (vb c0).toArray 65)).heap.size = b := by rw [hb]; simp
  obtain ⟨w3, hw3⟩ : ∃ w3, w3 = (w.alloc (.cells (vb c0).toArray 65)).alloc (.cells ((vb c0).set 0 (.int .u8 (len : Int))).toArray 65) := ⟨_, rfl⟩
  have hR3 : w3.heap[r]? = some (.cells (vb c0).toArray 65 (0, 0)) := by
    rw [hw3, hr, Below.heap_alloc _ _ _ (by simp)]; exact heap_alloc_new _ _
  have hB3 : w3.heap[b]? = some (.cells ((vb c0).toArray.setIfInBounds 0 (.int .u8 (len : Int))) 65 (0, 0)) := by rw [hw3, ← hs1, List.setIfInBounds_toArray]; exact heap_alloc_new _ _
  have hbel3 : Below w.heap.size w w3 := by rw [hw3]; exact ((Below.refl _ _).alloc (Nat.le_refl _) _).alloc (by simp) _
  have hinfo : (Tryd.prog.info? 5).map (·.size) = some 1 := by kernel_rfl
  obtain ⟨w4, hcp, hB4, hR4, hbel4⟩ : ∃ w4, (∀ ty, (Builtin.copy_ #[22, 22] ty #[.slice (some ⟨b, 1, none⟩) 105 105, .slice a len cap]).run Tryd.prog w3 = .ok (.int .i64 (len : Int)) w4) ∧ w4.heap[b]? = some (.cells (vb L).toArray 65 (0, 0)) ∧ w4.heap[r]? = some (.cells (vb c0).toArray 65 (0, 0)) ∧ Below w.heap.size w w4 := by
    have hrow : ((vb c0).toArray.setIfInBounds 0 (.int .u8 (len : Int))).toList.take 1 ++ vb p ++ ((vb c0).toArray.setIfInBounds 0 (.int .u8 (len : Int))).toList.drop (1 + (vb p).length) = vb L := by
      rw [HL.out, hc0, length_vb, hpl]
      exact slot_row p len hpl hl
    by_cases h0 : len = 0
    · subst h0
      have hp0 : p = [] := List.length_eq_zero_iff.1 hpl
      refine ⟨w3, fun ty => run_copy_none (P := Tryd.prog) w3 _ _ ty 5 _ a 105 105 0 cap Tryd.underlying22 hinfo (by simp), ?_, hR3, hbel3⟩
      rw [hB3]
      rw [hp0, show vb [] = [] from rfl, List.append_nil, show 1 + ([] : List Value).length = 1 from rfl, List.take_append_drop] at hrow
      rw [← hrow, Array.toArray_toList]
    · obtain ⟨ab, ao, rfl, _, hac⟩ := hB.pos (by omega)
      have hB3b := (hB.below hbel3)
      refine ⟨w3.setRow b (vb L).toArray, fun ty => ?_, setRow_heap _ _ _ _ _ _ hB3, ?_, below_setRow hbel3 (by omega) _⟩
      · have := run_copy_row (P := Tryd.prog) w3 22 22 ty 5 b 1 105 105 ⟨ab, ao, none⟩ len cap _ 65 (vb p) Tryd.underlying22 hinfo hB3 (by rw [length_vb, hpl]; show len = min len 105; omega) (fun j v hj => by rw [add_none]; exact bs_range hB3b j v hj) (by rw [length_vb, hpl]; simp [length_vb, hc0]; omega) (fun v hv => one_vb _ v hv)
        rw [hrow, length_vb, hpl] at this
        exact this
      · rw [setRow_other _ _ _ _ (by omega)]
        exact hR3
  rw [hw3, hb] at hcp
  rw [hr] at hR4
  rw [hb] at hB4
  have HR4 := hidn hR4
  have HB4 := hidn (row_range hB4)
  have HBE := hidn hbel4
  have hwl := conv_u8 (n := len) (by omega)
  clear hc0 l0 hpl lL hB3 hR3 hbel3 hB4 hR4 hbel4 hw3 hs1 hzs hb hr hinfo hB
  go_enter Tryd.func33, Tryd.ntmps33
  repeat (first
    | (with_reducible refine wpList_load_mid (by rfl) 65 (.tmp 3) (by rfl) (w.heap.size + 1) 0 (by kernel_rfl) (vb L) _ HB4.out Tryd.underlying65 (by rfl) HSL.out ?_)
    | (with_reducible refine wpList_store_row (by rfl) 65 (.tmp 2) (.tmp 11) (by rfl) w.heap.size (vb L).toArray (by kernel_rfl) (by kernel_rfl) 65 (vb c0).toArray HR4.out HSZ.out HOLD.out image_all ?_)
    | go_values | go_skip | go_guarded | go_step | go_upon)
  exact bodyPost_ret (v := .agg (vb L).toArray) (results_cell_row rfl _ _ w.heap.size 65 _ (0, 0) _ rfl (setRow_heap _ _ _ _ _ _ HR4.out) Tryd.underlying65 rfl HSZ.out) rfl ⟨rfl, below_setRow HBE.out (Nat.le_refl _) _⟩
end Go.Proofs.YtdbogbiklabmkaaDoor

/- Slots of a stripe: their xor. -/
namespace Go.Proofs.YtdbogbiklabmkaaDoor
open Go.RowKit Go.Maps
set_option linter.unusedVariables false

def xorL (X Y : List Nat) : List Nat := List.zipWith (· ^^^ ·) X Y
def xorTo (X Y : List Nat) (k : Nat) : List Nat := (xorL X Y).take k ++ X.drop k
theorem xorL_length {X Y : List Nat} (hx : X.length = 106) (hy : Y.length = 106) : (xorL X Y).length = 106 := by simp [xorL, hx, hy]
theorem xorTo_length {X Y : List Nat} (hx : X.length = 106) (hy : Y.length = 106) (k : Nat) (hk : k ≤ 106) : (xorTo X Y k).length = 106 := by
  simp [xorTo, xorL_length hx hy, hx]; omega
theorem xorTo_zero (X Y : List Nat) : xorTo X Y 0 = X := by simp [xorTo]
theorem xorTo_all {X Y : List Nat} (hx : X.length = 106) (hy : Y.length = 106) : xorTo X Y 106 = xorL X Y := by
  simp [xorTo, List.take_of_length_le (Nat.le_of_eq (xorL_length hx hy)), List.drop_of_length_le (Nat.le_of_eq hx)]
theorem xorTo_at {X Y : List Nat} (hx : X.length = 106) (hy : Y.length = 106) (k : Nat) (hk : k < 106) : (xorTo X Y k).getD k 0 = X.getD k 0 := by
  unfold xorTo
  rw [List.getD_eq_getElem?_getD, List.getElem?_append_right (by rw [List.length_take, xorL_length hx hy]; omega), List.length_take, xorL_length hx hy, Nat.min_eq_left (by omega), Nat.sub_self, List.getElem?_drop]
  simp
theorem xorTo_step {X Y : List Nat} (hx : X.length = 106) (hy : Y.length = 106) (k : Nat) (hk : k < 106) : (xorTo X Y k).set k (X.getD k 0 ^^^ Y.getD k 0) = xorTo X Y (k + 1) := by
  unfold xorTo
  have hl := xorL_length hx hy
  rw [List.set_append_right _ _ (by rw [List.length_take, hl]; omega), List.length_take, hl, Nat.min_eq_left (by omega), Nat.sub_self, List.drop_eq_getElem_cons (by omega), List.set_cons_zero, List.take_succ_eq_append_getElem (by omega), List.append_assoc]
  congr 2
  simp [xorL, List.getD_eq_getElem?_getD, hx, hy, hk]
theorem xorL_lt {X Y : List Nat} (hx : ∀ x ∈ X, x < 256) (hy : ∀ x ∈ Y, x < 256) : ∀ x ∈ xorL X Y, x < 256 := by
  intro x h
  obtain ⟨i, hi, rfl⟩ := List.mem_iff_getElem.1 h
  simp only [xorL, List.getElem_zipWith]
  exact Nat.xor_lt_two_pow (n := 8) (hx _ (List.getElem_mem _)) (hy _ (List.getElem_mem _))
theorem vb_set' (l : List Nat) (k x : Nat) : (vb l).set k (.int .u8 (x : Int)) = vb (l.set k x) := by simp [vb, List.map_set]
theorem slot_index (g k : Nat) (hk : k < 106) (wx : World) : (Instr.indexAt 65 (.pointer (some ⟨g, 0, none⟩)) (.int .i64 (k : Int))).run Tryd.prog wx = .ok (.pointer (some ⟨g, k, none⟩)) wx := by
  rw [run_indexAt_array (P := Tryd.prog) wx 65 ⟨g, 0, none⟩ .i64 (k : Int) (by kernel_rfl)]
  have h1 : Tryd.prog.arrayLen 65 = 106 := by kernel_rfl
  have h2 : (sizeOf (Tryd.prog.elem 65)).run Tryd.prog wx = .ok 1 wx := by kernel_rfl
  rw [h1, if_pos ⟨by omega, by omega⟩, h2]
  simp [Result.andThen, add_none]
theorem load_cell {w : World} {p : Addr} {v : Int} (h : w.cell? p = some (.int .u8 v)) : (Instr.loadAt 5 (.pointer (some p))).run Tryd.prog w = .ok (.int .u8 v) w := by go_simp
theorem store_cell {w : World} {p : Addr} {v x : Int} (h : w.cell? p = some (.int .u8 v)) (hf : w.frozen? p = false) : (Instr.storeAt 5 (.pointer (some p)) (.int .u8 x)).run Tryd.prog w = .ok () (w.setCell p (.int .u8 x)) := by go_simp

set_option maxHeartbeats 2000000 in
theorem xor_any (w : World) (X Y : List Nat) (hx : X.length = 106) (hy : Y.length = 106) (hxb : ∀ x ∈ X, x < 256) (hyb : ∀ x ∈ Y, x < 256) (L : List Nat) (HL : Hid (L = xorL X Y)) :
    Calls Tryd.prog 32 #[.agg (vb X).toArray, .agg (vb Y).toArray] w fun e w' => e = .returned (.agg (vb L).toArray) ∧ Below w.heap.size w w' := by
  obtain ⟨hz, hzs⟩ := zero_of_info Tryd.infoSlot
  obtain ⟨c0, hc0⟩ : ∃ c0, c0 = List.replicate 106 0 := ⟨_, rfl⟩
  rw [← hc0] at hz
  have l0 : (vb c0).toArray.size = 106 := by rw [hc0]; rfl
  have lL : L.length = 106 := by rw [HL.out]; exact xorL_length hx hy
  have HSZ : Hid ((Tryd.prog.info? 65).map (·.size) = some (vb L).toArray.size) := hidn (by rw [hzs]; simp [length_vb, lL])
  have HSL : Hid ((Tryd.prog.info? 65).map (·.size) = some (vb L).length) := hidn (by rw [hzs, length_vb, lL])
  have HOLD : Hid ((vb c0).toArray.size = (vb L).toArray.size) := hidn (by rw [l0]; simp [length_vb, lL])
  have HX := hidn hx
  have HY := hidn hy
  have HXB := hidn hxb
  have HYB := hidn hyb
  obtain ⟨w3, hw3⟩ : ∃ w3, w3 = ((w.alloc (.cells (vb X).toArray 65)).alloc (.cells (vb Y).toArray 65)).alloc (.cells (vb c0).toArray 65) := ⟨_, rfl⟩
  have hA3 : w3.heap[w.heap.size]? = some (.cells (vb X).toArray 65 (0, 0)) := by
    rw [hw3, Below.heap_alloc _ _ _ (by simp; omega), Below.heap_alloc _ _ _ (by simp)]; exact heap_alloc_new _ _
  have hB3 : w3.heap[w.heap.size + 1]? = some (.cells (vb Y).toArray 65 (0, 0)) := by
    rw [hw3, Below.heap_alloc _ _ _ (by simp)]
    have := heap_alloc_new (w.alloc (.cells (vb X).toArray 65)) (.cells (vb Y).toArray 65)
    simpa using this
  have hC3 : w3.heap[w.heap.size + 1 + 1]? = some (.cells (vb c0).toArray 65 (0, 0)) := by
    rw [hw3]
    have := heap_alloc_new ((w.alloc (.cells (vb X).toArray 65)).alloc (.cells (vb Y).toArray 65)) (.cells (vb c0).toArray 65)
    simpa using this
  have hb3 : Below w.heap.size w w3 := by rw [hw3]; exact (((Below.refl _ _).alloc (Nat.le_refl _) _).alloc (by simp) _).alloc (by simp; omega) _
  have HA3 := hidn hA3
  have HB3 := hidn hB3
  have HC3 := hidn hC3
  have HW3 := hidn hw3
  clear hx hy hxb hyb hA3 hB3 hC3 hw3 hc0 l0 lL hzs
  go_enter Tryd.func32, Tryd.ntmps32
  go_wp2_with fail
  rw [← HW3.out]
  go_loopw [6] (fun iv wr => ∃ k : Nat, k ≤ 106 ∧ iv = .int .i64 k ∧ Hid (wr.heap[w.heap.size]? = some (.cells (vb (xorTo X Y k)).toArray 65 (0, 0))) ∧ Hid (wr.heap[w.heap.size + 1]? = some (.cells (vb Y).toArray 65 (0, 0))) ∧ Hid (wr.heap[w.heap.size + 1 + 1]? = some (.cells (vb c0).toArray 65 (0, 0))) ∧ Below w.heap.size w wr) (fun iv _ => 106 - (intOf iv).toNat)
  case atStart =>
    refine ⟨0, by omega, rfl, ?_, HB3, HC3, hb3⟩
    rw [xorTo_zero]
    exact HA3
  case round =>
    obtain ⟨k, hk, rfl, HA, HB, HC, hbk⟩ := hrel
    by_cases hlt : k < 106
    · have hlt' : decide (k < 106) = true := by simpa using hlt
      have hlt2 : decide ((k : Int) < 106) = true := decide_eq_true (by omega)
      obtain ⟨x, hxx⟩ : ∃ x, x = X.getD k 0 := ⟨_, rfl⟩
      obtain ⟨y, hyy⟩ : ∃ y, y = Y.getD k 0 := ⟨_, rfl⟩
      have hx8 : x < 256 := by rw [hxx]; exact getD_b (by rw [HX.out]; exact hlt) HXB.out
      have hy8 : y < 256 := by rw [hyy]; exact getD_b (by rw [HY.out]; exact hlt) HYB.out
      have hxo := xor8 x y hx8 hy8
      obtain ⟨z, hzz⟩ : ∃ z, z = x ^^^ y := ⟨_, rfl⟩
      rw [← hzz] at hxo
      have hcx : wr.drew.cell? ⟨w.heap.size, k, none⟩ = some (.int .u8 (x : Int)) := by
        have h1 : wr.drew.heap[w.heap.size]? = some (.cells (vb (xorTo X Y k)).toArray 65 (0, 0)) := HA.out
        rw [cell_of_row _ _ _ _ _ _ h1, List.getElem?_toArray, vb_getD _ _ (by rw [xorTo_length HX.out HY.out k hk]; exact hlt), xorTo_at HX.out HY.out k hlt, hxx]
      have hcy : wr.drew.cell? ⟨w.heap.size + 1, k, none⟩ = some (.int .u8 (y : Int)) := by
        have h1 : wr.drew.heap[w.heap.size + 1]? = some (.cells (vb Y).toArray 65 (0, 0)) := HB.out
        rw [cell_of_row _ _ _ _ _ _ h1, List.getElem?_toArray, vb_getD _ _ (by rw [HY.out]; exact hlt), hyy]
      have hfx : wr.drew.frozen? ⟨w.heap.size, k, none⟩ = false := frozen_of_row wr.drew _ k _ _ (show wr.drew.heap[w.heap.size]? = some (.cells (vb (xorTo X Y k)).toArray 65 (0, 0)) from HA.out)
      obtain ⟨wd, hwd⟩ : ∃ wd, wd = wr.drew := ⟨_, rfl⟩
      rw [← hwd] at hcx hcy hfx
      have E1 := hidn (load_cell hcx)
      have E2 := hidn (store_cell (x := (z : Int)) hcx hfx)
      obtain ⟨w7, hw7⟩ : ∃ w7, w7 = wd.setCell ⟨w.heap.size, k, none⟩ (.int .u8 (z : Int)) := ⟨_, rfl⟩
      rw [← hw7] at E2
      have hAd : wd.heap[w.heap.size]? = some (.cells (vb (xorTo X Y k)).toArray 65 (0, 0)) := by rw [hwd]; exact HA.out
      have HA7 : Hid (w7.heap[w.heap.size]? = some (.cells (vb (xorTo X Y (k + 1))).toArray 65 (0, 0))) := hidn (by
        rw [hw7, setCell_eq_setRow _ _ _ _ _ _ _ hAd, List.setIfInBounds_toArray, vb_set', hzz, hxx, hyy, xorTo_step HX.out HY.out k hlt]
        exact setRow_heap _ _ _ _ _ _ hAd)
      have HB7 : Hid (w7.heap[w.heap.size + 1]? = some (.cells (vb Y).toArray 65 (0, 0))) := hidn (by rw [hw7, heap_setCell_other _ _ _ _ (by show w.heap.size + 1 ≠ w.heap.size; omega), hwd]; exact HB.out)
      have HC7 : Hid (w7.heap[w.heap.size + 1 + 1]? = some (.cells (vb c0).toArray 65 (0, 0))) := hidn (by rw [hw7, heap_setCell_other _ _ _ _ (by show w.heap.size + 1 + 1 ≠ w.heap.size; omega), hwd]; exact HC.out)
      have hb7 : Below w.heap.size w w7 := by rw [hw7, hwd]; exact hbk.drew.setCell (p := ⟨w.heap.size, k, none⟩) (Nat.le_refl _) _
      have HCY7 : Hid (w7.cell? ⟨w.heap.size + 1, k, none⟩ = some (.int .u8 (y : Int))) := hidn (by rw [cell_of_row _ _ _ _ _ _ HB7.out, List.getElem?_toArray, vb_getD _ _ (by rw [HY.out]; exact hlt), hyy])
      have HIX := hidn (fun (g : Nat) (wx : World) => slot_index g k hlt wx)
      have HWD := hidn hwd
      have HCY := hidn hcy
      clear hxx hyy hzz hcx hfx hwd hw7 hAd hcy
      go_wp2_with fail
      refine wp_region_noPanic ?_
      refine wp_region_held_drew (S := fun w' => w'.cell? ⟨w.heap.size + 1, k, none⟩ = some (.int .u8 (y : Int))) (by kernel_rfl) (HWD.out ▸ HCY.out) (fun hHeld => ?_)
      rw [← HWD.out]
      rw [← HWD.out] at hHeld
      refine drawn_take (i := 0) (v := .int .i64 (k : Int)) (some 9) rfl rfl (by kernel_rfl) (by kernel_rfl) (by kernel_rfl) (fun _ _ _ h => h) (Or.inl ⟨by kernel_rfl, fun w hw => by go_simp⟩) hHeld ?_
      simp only [Act.put, List.setIfInBounds_toArray, List.set_cons_succ, List.set_cons_zero]
      refine drawn_take (i := 1) (v := .pointer (some ⟨w.heap.size, k, none⟩)) (some 10) rfl rfl (by kernel_rfl) (by kernel_rfl) (by kernel_rfl) (fun _ _ _ h => h) (Or.inl ⟨by kernel_rfl, fun wq hw => idx_run (x := .tmp 2) (y := .tmp 9) (vx := .pointer (some ⟨w.heap.size, 0, none⟩)) (vy := .int .i64 (k : Int)) (by kernel_rfl) (by kernel_rfl) (by kernel_rfl) (HIX.out (w.heap.size) wq)⟩) hHeld ?_
      refine drawn_take (i := 3) (v := .int .i64 (k : Int)) (some 12) rfl rfl (by kernel_rfl) (by kernel_rfl) (by kernel_rfl) (fun _ _ _ h => h) (Or.inl ⟨by kernel_rfl, fun w hw => by go_simp⟩) hHeld ?_
      simp only [Act.put, List.setIfInBounds_toArray, List.set_cons_succ, List.set_cons_zero]
      refine drawn_take (i := 4) (v := .pointer (some ⟨w.heap.size + 1, k, none⟩)) (some 13) rfl rfl (by kernel_rfl) (by kernel_rfl) (by kernel_rfl) (fun _ _ _ h => h) (Or.inl ⟨by kernel_rfl, fun wq hw => idx_run (x := .tmp 3) (y := .tmp 12) (vx := .pointer (some ⟨w.heap.size + 1, 0, none⟩)) (vy := .int .i64 (k : Int)) (by kernel_rfl) (by kernel_rfl) (by kernel_rfl) (HIX.out (w.heap.size + 1) wq)⟩) hHeld ?_
      simp only [Act.put, List.setIfInBounds_toArray, List.set_cons_succ, List.set_cons_zero]
      refine drawn_take (i := 5) (v := .int .u8 (y : Int)) (some 14) rfl rfl (by kernel_rfl) (by kernel_rfl) (by kernel_rfl) (fun _ _ _ h => h) (Or.inl ⟨by kernel_rfl, fun wq hw => load_run (x := .tmp 13) (vx := .pointer (some ⟨w.heap.size + 1, k, none⟩)) (by kernel_rfl) (by kernel_rfl) (load_cell hw)⟩) hHeld ?_
      simp only [Act.put, List.setIfInBounds_toArray, List.set_cons_succ, List.set_cons_zero]
      refine wpAnyH_ready (rs := [2]) (by kernel_rfl) (by simp) ?_
      refine rdy_val (i := 2) rfl rfl (some 11) rfl (.int .u8 (x : Int)) wd (load_run (x := .tmp 10) (vx := .pointer (some ⟨w.heap.size, k, none⟩)) (by kernel_rfl) (by kernel_rfl) E1.out) HCY.out (fun hHeld => ?_) rdy_nil
      simp only [Act.put, List.setIfInBounds_toArray, List.set_cons_succ, List.set_cons_zero]
      refine drawn_take (i := 6) (v := .int .u8 (z : Int)) (some 15) rfl rfl (by kernel_rfl) (by kernel_rfl) (by kernel_rfl) (fun _ _ _ h => h) (Or.inl ⟨by kernel_rfl, fun w hw => by go_simp⟩) hHeld ?_
      simp only [Act.put, List.setIfInBounds_toArray, List.set_cons_succ, List.set_cons_zero]
      refine drawn_take (i := 7) (v := .pointer (some ⟨w.heap.size, k, none⟩)) (some 16) rfl rfl (by kernel_rfl) (by kernel_rfl) (by kernel_rfl) (fun _ _ _ h => h) (Or.inl ⟨by kernel_rfl, fun wq hw => idx_run (x := .tmp 2) (y := .tmp 9) (vx := .pointer (some ⟨w.heap.size, 0, none⟩)) (vy := .int .i64 (k : Int)) (by kernel_rfl) (by kernel_rfl) (by kernel_rfl) (HIX.out (w.heap.size) wq)⟩) hHeld ?_
      simp only [Act.put, List.setIfInBounds_toArray, List.set_cons_succ, List.set_cons_zero]
      refine wpAnyH_ready (rs := [8]) (by kernel_rfl) (by simp) ?_
      refine rdy_unit (i := 8) rfl rfl none rfl w7 (store_run (ty := 5) (x := .tmp 16) (y := .tmp 15) (vx := .pointer (some ⟨w.heap.size, k, none⟩)) (vy := .int .u8 (z : Int)) (by kernel_rfl) (by kernel_rfl) (by kernel_rfl) E2.out) HCY7.out (fun hHeld => ?_) rdy_nil
      refine wpAnyH_done (by kernel_rfl) ?_ _
      refine NoPanic.normal ?_
      simp only [Act.put]
      clear hHeld
      go_wp2
      go_roundw
      case rel => exact ⟨k + 1, hlt, by go_num, HA7, HB7, HC7, hb7⟩
      case measure => simp [intOf]; omega
    · obtain rfl : k = 106 := by omega
      rw [xorTo_all HX.out HY.out, ← HL.out] at HA
      have HRR := hidn (row_range HA.out)
      simp only [show ((106 : Nat) : Int) = 106 from rfl]
      repeat (first
        | (with_reducible refine wpList_load_mid (by rfl) 65 (.tmp 2) (by rfl) (w.heap.size) 0 (by kernel_rfl) (vb L) _ HRR.out Tryd.underlying65 (by rfl) HSL.out ?_)
        | (with_reducible refine wpList_store_row (by rfl) 65 (.tmp 4) (.tmp 18) (by rfl) (w.heap.size + 1 + 1) (vb L).toArray (by kernel_rfl) (by kernel_rfl) 65 (vb c0).toArray HC.out HSZ.out HOLD.out image_all ?_)
        | go_values | go_skip | go_guarded | go_step | go_upon)
      exact bodyPost_ret (v := .agg (vb L).toArray) (results_cell_row rfl _ _ (w.heap.size + 1 + 1) 65 _ (0, 0) _ rfl (setRow_heap _ _ _ _ _ _ HC.out) Tryd.underlying65 rfl HSZ.out) rfl ⟨rfl, below_setRow hbk (by omega) _⟩
end Go.Proofs.YtdbogbiklabmkaaDoor

/- Slots of a stripe: what a file's extent has of one. -/
namespace Go.Proofs.YtdbogbiklabmkaaDoor
open Go.RowKit Go.Maps
set_option linter.unusedVariables false

section
variable {P : Program} {md : Region.Mode} {ops : Array Oper} {Q : Exit → Act → World → Prop} {S : World → Prop} {fuel : Nat} {listed : Array Bool} {a : Act} {w : World} {i : Nat} {o : Oper} {rs : List Nat}
/-- A call that is guarded, and wanted. -/
theorem rdy_callw (ho : ops[i]? = some o) (hw : Region.wanted o (yielded ops a.tmps) = true) (dst : Option Nat) (hd : o.dst = dst) (f : FuncId) (args : Array Value) (hrun : (execOp a.eval o).run P w = .ok (.enter f args) w) (R : Value → World → Prop)
    (hc : Calls P f args w fun e w' => ∃ v, e = .returned v ∧ R v w')
    (h : ∀ v w', R v w' → S w' ∧ (S w' → wpAnyH P md ops Q S fuel (listed.setIfInBounds i true) (a.put dst v) w')) (hs : AllReadyH P md ops Q S fuel listed a w rs) : AllReadyH P md ops Q S fuel listed a w (i :: rs) := by
  subst hd
  refine AllReadyH.cons ho (fun K hK => ?_) hs
  rw [if_pos hw]
  unfold Oper.wp
  rw [hrun, Oper.upon_enter]
  refine hc.mono fun e w' hh => ?_
  obtain ⟨v, rfl, hR⟩ := hh
  exact hK _ _ (h v w' hR).1 (h v w' hR).2
end
theorem neq_slot (w : World) (xs ys : List Nat) (hx : xs.length = 106) (hy : ys.length = 106) :
    (binOp .neq 65 (.agg (vb xs).toArray) (.agg (vb ys).toArray)).run Tryd.prog w = .ok (.bool (!decide (xs = ys))) w := by
  obtain ⟨i0, hi, hz0, hz1, hz2⟩ := info_parts Tryd.info5
  have hc : Tryd.prog.cellsOf 5 = 1 := by kernel_rfl
  rw [run_neq_struct, run_equalIn_array w 9999 _ _ Tryd.underlying65 hi, hc, eqItems_vb w 9998 xs ys _ (fun i hi => by simp at hi; omega), all_getD xs ys 106 hx hy]
  rfl
theorem part_call_run {o : Oper} {a : Act} {w : World} {x : Nat} {vx : Value} (ho : o.op = Op.call { callee := Callee.value (Operand.func 33), args := #[.tmp x], argTypes := #[22] }) (hx : a.eval (.tmp x) = vx) : (execOp a.eval o).run Tryd.prog w = .ok (.enter 33 #[vx]) w := by
  simp [go_sem, execOp, ho, resolve, invoke]
  simpa [Act.eval] using hx
theorem slotB_get (p : List Nat) (j : Nat) (hj : j < p.length) : (slotB p).getD (1 + j) 0 = p.getD j 0 := by
  rw [Nat.add_comm]
  simp [slotB, List.getD_eq_getElem?_getD, List.getElem?_append_left hj]
theorem slotB_drop (p : List Nat) : ((slotB p).drop 1).take p.length = p := by simp [slotB]

set_option maxHeartbeats 1000000 in
theorem payload_par (w : World) (L : List Nat) (hl : L.length = 106) (hb : ∀ x ∈ L, x < 256) :
    Calls Tryd.prog 23 #[.agg (vb L).toArray, .int .i64 3] w fun e w' => ∃ b, e = .returned (.tuple #[.slice (some ⟨b, 0, none⟩) 106 106, .bool true]) ∧ w.heap.size ≤ b ∧ Bs w' (some ⟨b, 0, none⟩) 106 L ∧ Below w.heap.size w w' := by
  have hB : Bs (w.alloc (.cells (vb L).toArray 65)) (some ⟨w.heap.size, 0, none⟩) 106 L := by
    have := bs_of_block (heap_alloc_new w (.cells (vb L).toArray 65)) (by rw [hl]; decide) hb
    rwa [hl] at this
  have HB := hidn hB
  clear hB hl hb
  go_enter Tryd.func23, Tryd.ntmps23
  go_wp2
  go_ret2
  exact ⟨_, rfl, Nat.le_refl _, HB.out, (Below.refl _ _).alloc (Nat.le_refl _) _⟩

set_option maxHeartbeats 2000000 in
theorem payload_part (w : World) (p L : List Nat) (f len : Nat) (hf : f < 3) (HL : Hid (L = slotB p)) (hpl : p.length = len) (hl : len ≤ 105) (hpb : ∀ x ∈ p, x < 256) :
    Calls Tryd.prog 23 #[.agg (vb L).toArray, .int .i64 f] w fun e w' => ∃ b, e = .returned (.tuple #[.slice (some ⟨b, 1, none⟩) len 105, .bool true]) ∧ w.heap.size ≤ b ∧ Bs w' (some ⟨b, 1, none⟩) len p ∧ Below w.heap.size w w' := by
  have hf3 : ((f : Int) == 3) = false := beq_eq_false_iff_ne.2 (by omega)
  have lL : L.length = 106 := by rw [HL.out]; exact slotB_length p (by omega)
  have hLb : ∀ x ∈ L, x < 256 := by rw [HL.out]; exact slotB_lt p (by omega) hpb
  have hv0 : (vb L)[0]? = some (.int .u8 (len : Int)) := by rw [HL.out]; simp [vb, slotB, hpl]
  have hw1 : IntKind.i64.wrap (len : Int) = (len : Int) := by rw [IntKind.wrap_i64]; omega
  have hw2 : IntKind.i64.wrap (1 + (len : Int)) = ((len + 1 : Nat) : Int) := by rw [IntKind.wrap_i64]; omega
  have hgt : decide ((105 : Int) < (len : Int)) = false := decide_eq_false (by omega)
  have hgt2 : decide (105 < len) = false := decide_eq_false (by omega)
  obtain ⟨q, hq⟩ : ∃ q, q = len + 1 := ⟨_, rfl⟩
  rw [← hq] at hw2
  have hq1 : (1 : Int) ≤ (q : Int) := by omega
  have hq2 : (q : Int) ≤ 106 := by omega
  have hq3 : q - 1 = len := by omega
  obtain ⟨wa, hwa⟩ : ∃ wa, wa = w.alloc (.cells (vb L).toArray 65) := ⟨_, rfl⟩
  have hrow : wa.heap[w.heap.size]? = some (.cells (vb L).toArray 65 (0, 0)) := by rw [hwa]; exact heap_alloc_new _ _
  have hba : Below w.heap.size w wa := by rw [hwa]; exact (Below.refl _ _).alloc (Nat.le_refl _) _
  have hbd : Below wa.heap.size wa wa.drew := (Below.refl _ _).drew
  have hrowd : wa.drew.heap[w.heap.size]? = some (.cells (vb L).toArray 65 (0, 0)) := hrow
  have hbs : ∀ wx : World, wx.heap[w.heap.size]? = some (.cells (vb L).toArray 65 (0, 0)) → Bs wx (some ⟨w.heap.size, 1, none⟩) len p := by
    intro wx hx
    have h1 := bs_of_block hx (by rw [lL]; decide) hLb
    obtain ⟨a', hsl, hB', _⟩ := slice_part h1 (Nat.le_refl _) 1 (1 + len) (by omega) (by omega)
    refine ⟨hpl, by unfold maxLen; omega, hpb, (fun h => by simp at h), fun x hx' j hj => ?_⟩
    cases hx'
    have h2 := h1.2.2.2.2 ⟨w.heap.size, 0, none⟩ rfl (1 + j) (by omega)
    rw [add_none] at h2 ⊢
    rw [Nat.zero_add] at h2
    rw [h2, HL.out, slotB_get p j (by rw [hpl]; exact hj)]
  have HBS := hidn (hbs _ hrowd)
  have HBF := hidn hbs
  have hneq := fun wx => neq_slot wx L L lL lL
  rw [decide_eq_true (rfl : L = L)] at hneq
  have HSL : Hid ((Tryd.prog.info? 65).map (·.size) = some (vb L).length) := hidn (by rw [(zero_of_info Tryd.infoSlot).2, length_vb, lL])
  have HRG := hidn (row_range hrowd)
  have HRD := hidn hrowd
  have HWA := hidn hwa
  have HBD := hidn hbd
  have HBA := hidn hba
  have hlt0 : w.heap.size < wa.heap.size := (Array.getElem?_eq_some_iff.1 hrow).1
  clear lL hLb hrow hba hbd hrowd hbs hwa hpb hq hpl
  go_enter Tryd.func23, Tryd.ntmps23
  go_wp2_with fail
  rw [← HWA.out]
  refine wp_region_noPanic ?_
  refine wp_region_held_drew (S := fun w' => w'.rangeAt w.heap.size 0 (vb L)) (by kernel_rfl) HRG.out (fun hHeld => ?_)
  refine drawn_take (i := 0) (v := .int .i64 (len : Int)) (some 13) rfl rfl (by kernel_rfl) (by kernel_rfl) (by kernel_rfl) (fun _ _ _ h => h) (Or.inl ⟨by kernel_rfl, fun w hw => by go_simp⟩) hHeld ?_
  simp only [Act.put, List.setIfInBounds_toArray, List.set_cons_succ, List.set_cons_zero]
  refine drawn_take (i := 1) (v := .bool false) (some 14) rfl rfl (by kernel_rfl) (by kernel_rfl) (by kernel_rfl) (fun _ _ _ h => h) (Or.inl ⟨by kernel_rfl, fun w hw => by go_simp⟩) hHeld ?_
  simp only [Act.put, List.setIfInBounds_toArray, List.set_cons_succ, List.set_cons_zero]
  refine drawn_take (i := 2) (v := .bool false) (some 15) rfl rfl (by kernel_rfl) (by kernel_rfl) (by kernel_rfl) (fun _ _ _ h => h) (Or.inl ⟨by kernel_rfl, fun w hw => by go_simp⟩) hHeld ?_
  simp only [Act.put, List.setIfInBounds_toArray, List.set_cons_succ, List.set_cons_zero]
  refine drawn_take (i := 3) (v := .int .i64 (len : Int)) (some 16) rfl rfl (by kernel_rfl) (by kernel_rfl) (by kernel_rfl) (fun _ _ _ h => h) (Or.inl ⟨by kernel_rfl, fun w hw => by go_simp⟩) hHeld ?_
  simp only [Act.put, List.setIfInBounds_toArray, List.set_cons_succ, List.set_cons_zero]
  refine drawn_take (i := 4) (v := .int .i64 (q : Int)) (some 17) rfl rfl (by kernel_rfl) (by kernel_rfl) (by kernel_rfl) (fun _ _ _ h => h) (Or.inl ⟨by kernel_rfl, fun w hw => by go_simp⟩) hHeld ?_
  simp only [Act.put, List.setIfInBounds_toArray, List.set_cons_succ, List.set_cons_zero]
  refine drawn_take (i := 5) (v := .slice (some ⟨w.heap.size, 1, none⟩) len 105) (some 18) rfl rfl (by kernel_rfl) (by kernel_rfl) (by kernel_rfl) (fun _ _ _ h => h) (Or.inl ⟨by kernel_rfl, fun wq hw => by go_simp⟩) hHeld ?_
  simp only [Act.put, List.setIfInBounds_toArray, List.set_cons_succ, List.set_cons_zero]
  refine drawn_take (i := 7) (v := .agg (vb L).toArray) (some 20) rfl rfl (by kernel_rfl) (by kernel_rfl) (by kernel_rfl) (fun _ _ _ h => h) (yieldsIf_load_mid (by kernel_rfl) 65 (.tmp 2) (by kernel_rfl) w.heap.size 0 (by kernel_rfl) (vb L) _ (fun w h => h) Tryd.underlying65 rfl HSL.out) hHeld ?_
  simp only [Act.put, List.setIfInBounds_toArray, List.set_cons_succ, List.set_cons_zero]
  refine wpAnyH_ready (rs := [6]) (by kernel_rfl) (by simp) ?_
  refine rdy_callw (i := 6) rfl (by kernel_rfl) (some 19) rfl 33 #[.slice (some ⟨w.heap.size, 1, none⟩) len 105] (part_call_run (x := 18) (by kernel_rfl) (by kernel_rfl)) (fun v w' => v = .agg (vb L).toArray ∧ Below wa.drew.heap.size wa.drew w') ((partSlot_any _ (some ⟨w.heap.size, 1, none⟩) len 105 p HBS.out hl L HL).mono fun e w' h => ⟨_, h.1, rfl, h.2⟩) (fun v w5 hR => ?_) rdy_nil
  obtain ⟨rfl, hb5⟩ := hR
  have hrow5 : w5.heap[w.heap.size]? = some (.cells (vb L).toArray 65 (0, 0)) := (hb5.block _ hlt0).trans HRD.out
  refine ⟨row_range hrow5, fun hHeld => ?_⟩
  simp only [Act.put, List.setIfInBounds_toArray, List.set_cons_succ, List.set_cons_zero]
  refine drawn_take (i := 8) (v := .bool false) (some 21) rfl rfl (by kernel_rfl) (by kernel_rfl) (by kernel_rfl) (fun _ _ _ h => h) (Or.inl ⟨by kernel_rfl, fun w hw => by go_simp⟩) hHeld ?_
  simp only [Act.put, List.setIfInBounds_toArray, List.set_cons_succ, List.set_cons_zero]
  refine drawn_take (i := 9) (v := .bool false) (some 22) rfl rfl (by kernel_rfl) (by kernel_rfl) (by kernel_rfl) (fun _ _ _ h => h) (Or.inl ⟨by kernel_rfl, fun w hw => by go_simp⟩) hHeld ?_
  simp only [Act.put, List.setIfInBounds_toArray, List.set_cons_succ, List.set_cons_zero]
  refine wpAnyH_done (by kernel_rfl) ?_ _
  refine NoPanic.normal ?_
  have HB5 := hidn (HBF.out _ hrow5)
  have HBL : Hid (Below w.heap.size w w5) := hidn (HBA.out.trans ((HBD.out.mono HBA.out.size).trans (hb5.mono HBA.out.size)))
  clear hHeld hneq hrow5 hb5
  go_wp2
  go_ret2
  exact ⟨_, rfl, Nat.le_refl _, HB5.out, HBL.out⟩
end Go.Proofs.YtdbogbiklabmkaaDoor

/- The slot that a text has in a file's extent. -/
namespace Go.Proofs.YtdbogbiklabmkaaDoor
open Go.RowKit Go.Maps
set_option linter.unusedVariables false

/-- A data file's part of a text. -/
def partS (zs : List Nat) (f i : Nat) : List Nat := (zs.drop (min ((i * 3 + f) * 105) zs.length)).take (min (min ((i * 3 + f) * 105) zs.length + 105) zs.length - min ((i * 3 + f) * 105) zs.length)
theorem partS_le (zs : List Nat) (f i : Nat) : (partS zs f i).length ≤ 105 := by unfold partS; rw [List.length_take]; omega
theorem partS_mem {zs : List Nat} (h : ∀ x ∈ zs, x < 256) (f i : Nat) : ∀ x ∈ partS zs f i, x < 256 := fun x hx => h x (List.mem_of_mem_drop (List.mem_of_mem_take hx))
def accS (zs : List Nat) (i k : Nat) : List Nat := (List.range k).foldl (fun s j => xorL s (slotB (partS zs j i))) (List.replicate 106 0)
theorem accS_succ (zs : List Nat) (i k : Nat) : accS zs i (k + 1) = xorL (accS zs i k) (slotB (partS zs k i)) := by simp [accS, List.range_succ]
theorem accS_ok {zs : List Nat} (h : ∀ x ∈ zs, x < 256) (i k : Nat) : (accS zs i k).length = 106 ∧ ∀ x ∈ accS zs i k, x < 256 := by
  induction k with
  | zero => exact ⟨by simp [accS], fun x hx => by simp [accS] at hx; omega⟩
  | succ k ih =>
    rw [accS_succ]
    exact ⟨xorL_length ih.1 (slotB_length _ (partS_le _ _ _)), xorL_lt ih.2 (slotB_lt _ (partS_le _ _ _) (partS_mem h _ _))⟩
/-- What a file's extent has of a text. -/
def slotF (zs : List Nat) (f i : Nat) : List Nat := if f < 3 then slotB (partS zs f i) else accS zs i 3

set_option maxHeartbeats 2000000 in
theorem slotOf_data (w : World) (a : Option Addr) (len cap : Nat) (zs : List Nat) (hB : Bs w a len zs) (hcap : len ≤ cap) (hlen : len ≤ 100000) (f i : Nat) (hf : f < 3) (hi : i ≤ 1000000) (L : List Nat) (HL : Hid (L = slotB (partS zs f i))) :
    Calls Tryd.prog 30 #[.slice a len cap, .int .i64 f, .int .i64 i] w fun e w' => e = .returned (.agg (vb L).toArray) ∧ Below w.heap.size w w' := by
  obtain ⟨hz, hzs⟩ := zero_of_info Tryd.infoSlot
  obtain ⟨c0, hc0⟩ : ∃ c0, c0 = List.replicate 106 0 := ⟨_, rfl⟩
  rw [← hc0] at hz
  have l0 : (vb c0).toArray.size = 106 := by rw [hc0]; rfl
  have lL : L.length = 106 := by rw [HL.out]; exact slotB_length _ (partS_le _ _ _)
  have HSZ : Hid ((Tryd.prog.info? 65).map (·.size) = some (vb L).toArray.size) := hidn (by rw [hzs]; simp [length_vb, lL])
  have HOLD : Hid ((vb c0).toArray.size = (vb L).toArray.size) := hidn (by rw [l0]; simp [length_vb, lL])
  have hf3 : decide (f < 3) = true := decide_eq_true hf
  have hf3' : decide ((f : Int) < 3) = true := decide_eq_true (by omega)
  obtain ⟨x, hx⟩ : ∃ x, x = (i * 3 + f) * 105 := ⟨_, rfl⟩
  obtain ⟨lo, hlo⟩ : ∃ lo, lo = min x len := ⟨_, rfl⟩
  obtain ⟨hi', hhi⟩ : ∃ h, h = min (lo + 105) len := ⟨_, rfl⟩
  have hw1 : IntKind.i64.wrap ((i : Int) * 3) = ((i * 3 : Nat) : Int) := by rw [IntKind.wrap_i64]; omega
  have hw2 : IntKind.i64.wrap (((i * 3 : Nat) : Int) + (f : Int)) = ((i * 3 + f : Nat) : Int) := by rw [IntKind.wrap_i64]; omega
  have hw3 : IntKind.i64.wrap (((i * 3 + f : Nat) : Int) * 105) = (x : Int) := by rw [IntKind.wrap_i64]; omega
  obtain ⟨x1, hx1⟩ : ∃ x1, x1 = i * 3 := ⟨_, rfl⟩
  obtain ⟨x2, hx2⟩ : ∃ x2, x2 = i * 3 + f := ⟨_, rfl⟩
  rw [← hx2] at hw2 hw3
  rw [← hx1] at hw1 hw2
  have hmn1 : (if len < x then (len : Int) else (x : Int)) = (lo : Int) := by split <;> omega
  obtain ⟨l5, hl5⟩ : ∃ l5, l5 = lo + 105 := ⟨_, rfl⟩
  have hw4 : IntKind.i64.wrap ((lo : Int) + 105) = (l5 : Int) := by rw [IntKind.wrap_i64]; omega
  have hmn2 : (if len < l5 then (len : Int) else (l5 : Int)) = (hi' : Int) := by split <;> omega
  have hbel1 : Below w.heap.size w (w.alloc (.cells (vb c0).toArray 65)) := (Below.refl _ _).alloc (Nat.le_refl _) _
  obtain ⟨w1, hw1'⟩ : ∃ w1, w1 = w.alloc (.cells (vb c0).toArray 65) := ⟨_, rfl⟩
  have hr1 : w1.heap[w.heap.size]? = some (.cells (vb c0).toArray 65 (0, 0)) := by rw [hw1']; exact heap_alloc_new _ _
  rw [← hw1'] at hbel1
  obtain ⟨a', hsl, hB', _⟩ := slice_part (hB.below hbel1) hcap lo hi' (by omega) (by omega)
  obtain ⟨m, hm⟩ : ∃ m, m = hi' - lo := ⟨_, rfl⟩
  rw [← hm] at hsl hB'
  have hB2 : Bs w1 a' m (partS zs f i) := by
    have e : partS zs f i = (zs.drop lo).take m := by unfold partS; rw [hm, hhi, hlo, hx, hB.1]
    rw [e]; exact hB'
  have HB2 := hidn hB2
  have HM : Hid (m ≤ 105) := hidn (by omega)
  have HR1 := hidn hr1
  have HW1 := hidn hw1'
  have HL1 := hidn hbel1
  have hlt1 : w.heap.size < w1.heap.size := (Array.getElem?_eq_some_iff.1 hr1).1
  clear hc0 l0 lL hzs hx hlo hhi hx1 hx2 hl5 hm hB2 hB' hr1 hw1' hbel1 hB
  go_enter Tryd.func30, Tryd.ntmps30
  go_wp2_with fail
  rw [← HW1.out]
  clear hsl
  refine (partSlot_any _ a' m (cap - lo) (partS zs f i) HB2.out HM.out L HL).mono ?_
  rintro e w2 ⟨rfl, hb2⟩
  have HR2 := hidn ((hb2.block _ hlt1).trans HR1.out)
  have HL2 := hidn (HL1.out.trans (hb2.mono HL1.out.size))
  clear hb2
  repeat (first
    | (with_reducible refine wpList_store_row (by rfl) 65 (.tmp 6) (.tmp 28) (by rfl) w.heap.size (vb L).toArray (by kernel_rfl) (by kernel_rfl) 65 (vb c0).toArray HR2.out HSZ.out HOLD.out image_all ?_)
    | go_values | go_skip | go_guarded | go_step | go_upon | (simp only []))
  exact bodyPost_ret (v := .agg (vb L).toArray) (results_cell_row rfl _ _ w.heap.size 65 _ (0, 0) _ rfl (setRow_heap _ _ _ _ _ _ HR2.out) Tryd.underlying65 rfl HSZ.out) rfl ⟨rfl, below_setRow HL2.out (Nat.le_refl _) _⟩
end Go.Proofs.YtdbogbiklabmkaaDoor

/- The slot that a text has in the parity file's extent. -/
namespace Go.Proofs.YtdbogbiklabmkaaDoor
open Go.RowKit Go.Maps
set_option linter.unusedVariables false

theorem run_storeAt_row {P : Program} (w : World) (ty : TypeId) (g : Nat) (cells : Array Value) (t : TypeId) (old : Array Value) (hg : w.heap[g]? = some (.cells old t (0, 0))) (hi : (P.info? ty).map (·.size) = some cells.size) (hold : old.size = cells.size) (h1 : cells.all (·.oneCell') = true) :
    (Instr.storeAt ty (.pointer (some ⟨g, 0, none⟩)) (.agg cells)).run P w = .ok () (w.setRow g cells) := by
  have h := run_storeVar_row (P := P) w g t ty old cells hg hi hold h1
  simp only [Instr.storeAt, Instr.sureAddr, Sem.run_bind, Sem.run_pure, Result.andThen_ok, h]
theorem slot_call_run {o : Oper} {a : Act} {w : World} {x y z : Nat} {vx vy vz : Value} (ho : o.op = Op.call { callee := Callee.value (Operand.func 30), args := #[.tmp x, .tmp y, .tmp z], argTypes := #[22, 3, 3] }) (hx : a.eval (.tmp x) = vx) (hy : a.eval (.tmp y) = vy) (hz : a.eval (.tmp z) = vz) : (execOp a.eval o).run Tryd.prog w = .ok (.enter 30 #[vx, vy, vz]) w := by
  simp [go_sem, execOp, ho, resolve, invoke]
  exact ⟨by simpa [Act.eval] using hx, by simpa [Act.eval] using hy, by simpa [Act.eval] using hz⟩
theorem xor_call_run {o : Oper} {a : Act} {w : World} {x y : Nat} {vx vy : Value} (ho : o.op = Op.call { callee := Callee.value (Operand.func 32), args := #[.tmp x, .tmp y], argTypes := #[65, 65] }) (hx : a.eval (.tmp x) = vx) (hy : a.eval (.tmp y) = vy) : (execOp a.eval o).run Tryd.prog w = .ok (.enter 32 #[vx, vy]) w := by
  simp [go_sem, execOp, ho, resolve, invoke]
  exact ⟨by simpa [Act.eval] using hx, by simpa [Act.eval] using hy⟩

set_option maxHeartbeats 4000000 in
theorem slotOf_par (w : World) (a : Option Addr) (len cap : Nat) (zs : List Nat) (hB : Bs w a len zs) (hcap : len ≤ cap) (hlen : len ≤ 100000) (i : Nat) (hi : i ≤ 1000000) (L : List Nat) (HL : Hid (L = accS zs i 3)) :
    Calls Tryd.prog 30 #[.slice a len cap, .int .i64 3, .int .i64 i] w fun e w' => e = .returned (.agg (vb L).toArray) ∧ Below w.heap.size w w' := by
  obtain ⟨hz, hzs⟩ := zero_of_info Tryd.infoSlot
  obtain ⟨c0, hc0⟩ : ∃ c0, c0 = List.replicate 106 0 := ⟨_, rfl⟩
  rw [← hc0] at hz
  have l0 : (vb c0).toArray.size = 106 := by rw [hc0]; rfl
  have lL : L.length = 106 := by rw [HL.out]; exact (accS_ok hB.2.2.1 i 3).1
  have HSZ : Hid ((Tryd.prog.info? 65).map (·.size) = some (vb L).toArray.size) := hidn (by rw [hzs]; simp [length_vb, lL])
  have HSL : Hid ((Tryd.prog.info? 65).map (·.size) = some (vb L).length) := hidn (by rw [hzs, length_vb, lL])
  have HOLD : Hid ((vb c0).toArray.size = (vb L).toArray.size) := hidn (by rw [l0]; simp [length_vb, lL])
  have HINF := hidn hzs
  have HB := hidn hB
  have HC0 := hidn hc0
  obtain ⟨w2, hw2⟩ : ∃ w2, w2 = (w.alloc (.cells (vb c0).toArray 65)).alloc (.cells (vb c0).toArray 65) := ⟨_, rfl⟩
  have HR2 : Hid (w2.heap[w.heap.size]? = some (.cells (vb c0).toArray 65 (0, 0))) := hidn (by rw [hw2, Below.heap_alloc _ _ _ (by simp)]; exact heap_alloc_new _ _)
  have HS2' : Hid (w2.heap[w.heap.size + 1]? = some (.cells (vb c0).toArray 65 (0, 0))) := hidn (by
    rw [hw2]
    have := heap_alloc_new (w.alloc (.cells (vb c0).toArray 65)) (.cells (vb c0).toArray 65)
    simpa using this)
  have hb2 : Below w.heap.size w w2 := by rw [hw2]; exact ((Below.refl _ _).alloc (Nat.le_refl _) _).alloc (by simp) _
  have HW2 := hidn hw2
  clear hc0 l0 lL hzs hB hw2
  go_enter Tryd.func30, Tryd.ntmps30
  go_wp2_with fail
  rw [← HW2.out]
  go_loopw [29] (fun iv wr => ∃ k : Nat, k ≤ 3 ∧ iv = .int .i64 k ∧ Hid (wr.heap[w.heap.size + 1]? = some (.cells (vb (accS zs i k)).toArray 65 (0, 0))) ∧ Hid (wr.heap[w.heap.size]? = some (.cells (vb c0).toArray 65 (0, 0))) ∧ Below w.heap.size w wr) (fun iv _ => 3 - (intOf iv).toNat)
  case atStart =>
    refine ⟨0, by omega, rfl, ?_, HR2, hb2⟩
    rw [show accS zs i 0 = c0 from HC0.out.symm]
    exact HS2'
  case round =>
    obtain ⟨k, hk, rfl, HS, HR, hbk⟩ := hrel
    by_cases hlt : k < 3
    · have hlt' : decide (k < 3) = true := decide_eq_true hlt
      have hlt2 : decide ((k : Int) < 3) = true := decide_eq_true (by omega)
      obtain ⟨A, hA⟩ : ∃ A, A = accS zs i k := ⟨_, rfl⟩
      obtain ⟨D, hD⟩ : ∃ D, D = slotB (partS zs k i) := ⟨_, rfl⟩
      obtain ⟨A2, hA2⟩ : ∃ A2, A2 = xorL A D := ⟨_, rfl⟩
      have HAO : Hid (A.length = 106 ∧ ∀ x ∈ A, x < 256) := hidn (by rw [hA]; exact accS_ok HB.out.2.2.1 i k)
      have HDO : Hid (D.length = 106 ∧ ∀ x ∈ D, x < 256) := hidn (by rw [hD]; exact ⟨slotB_length _ (partS_le _ _ _), slotB_lt _ (partS_le _ _ _) (partS_mem HB.out.2.2.1 _ _)⟩)
      rw [← hA] at HS
      have HA := hidn hA
      have HD := hidn hD
      have HA2 := hidn hA2
      have hl2 : A2.length = 106 := by rw [hA2]; exact xorL_length HAO.out.1 HDO.out.1
      have HS2 : Hid ((Tryd.prog.info? 65).map (·.size) = some (vb A2).toArray.size) := hidn (by rw [HINF.out]; simp [length_vb, hl2])
      have HOA : Hid ((vb A).toArray.size = (vb A2).toArray.size) := hidn (by simp [length_vb, hl2, HAO.out.1])
      have HSA : Hid ((Tryd.prog.info? 65).map (·.size) = some (vb A).length) := hidn (by rw [HINF.out, length_vb, HAO.out.1])
      have hld : ∀ wx : World, wx.heap[w.heap.size + 1]? = some (.cells (vb A).toArray 65 (0, 0)) → (Instr.loadAt 65 (.pointer (some ⟨w.heap.size + 1, 0, none⟩))).run Tryd.prog wx = .ok (.agg (vb A).toArray) wx := fun wx hx => run_loadAt_mid (P := Tryd.prog) wx (w.heap.size + 1) 0 65 (vb A) _ (row_range hx) Tryd.underlying65 rfl HSA.out
      have HLD := hidn hld
      clear hA hD hA2 hl2 hld
      go_wp2_with fail
      have hbd : Below wr.heap.size wr wr.drew := (Below.refl _ _).drew
      have hSd : wr.drew.heap[w.heap.size + 1]? = some (.cells (vb A).toArray 65 (0, 0)) := HS.out
      have hRd : wr.drew.heap[w.heap.size]? = some (.cells (vb c0).toArray 65 (0, 0)) := HR.out
      have hbkd : Below w.heap.size w wr.drew := hbk.drew
      obtain ⟨wd, hwd⟩ : ∃ wd, wd = wr.drew := ⟨_, rfl⟩
      have hltd : w.heap.size + 1 < wr.drew.heap.size := (Array.getElem?_eq_some_iff.1 hSd).1
      rw [← hwd] at hSd hRd hbkd hltd
      have HWD := hidn hwd
      clear hbd hwd
      refine wp_region_noPanic ?_
      refine wp_region_held_drew (S := fun w' => True) (by kernel_rfl) trivial (fun hHeld => ?_)
      rw [← HWD.out]
      refine drawn_take (i := 1) (v := .slice a len cap) (some 33) rfl rfl (by kernel_rfl) (by kernel_rfl) (by kernel_rfl) (fun _ _ _ h => h) (Or.inl ⟨by kernel_rfl, fun w hw => by go_simp⟩) hHeld ?_
      refine drawn_take (i := 2) (v := .int .i64 (k : Int)) (some 34) rfl rfl (by kernel_rfl) (by kernel_rfl) (by kernel_rfl) (fun _ _ _ h => h) (Or.inl ⟨by kernel_rfl, fun w hw => by go_simp⟩) hHeld ?_
      refine drawn_take (i := 3) (v := .int .i64 (i : Int)) (some 35) rfl rfl (by kernel_rfl) (by kernel_rfl) (by kernel_rfl) (fun _ _ _ h => h) (Or.inl ⟨by kernel_rfl, fun w hw => by go_simp⟩) hHeld ?_
      simp only [Act.put, List.setIfInBounds_toArray, List.set_cons_succ, List.set_cons_zero]
      refine wpAnyH_ready (rs := [0, 4]) (by kernel_rfl) (by simp) ?_
      refine rdy_val (i := 0) rfl rfl (some 32) rfl (.agg (vb A).toArray) wd (load_run (x := .tmp 8) (vx := .pointer (some ⟨w.heap.size + 1, 0, none⟩)) (by kernel_rfl) (by kernel_rfl) (HLD.out _ hSd)) trivial (fun hHeld => ?_) ?_
      · simp only [Act.put, List.setIfInBounds_toArray, List.set_cons_succ, List.set_cons_zero]
        refine wpAnyH_ready (rs := [4]) (by kernel_rfl) (by simp) ?_
        refine rdy_call (i := 4) rfl rfl (some 36) rfl 30 #[.slice a len cap, .int .i64 (k : Int), .int .i64 (i : Int)] (slot_call_run (x := 33) (y := 34) (z := 35) (by kernel_rfl) (by kernel_rfl) (by kernel_rfl) (by kernel_rfl)) (fun v w' => v = .agg (vb D).toArray ∧ Below wd.heap.size wd w') ((slotOf_data _ a len cap zs (HB.out.below hbkd) hcap hlen k i hlt hi D HD).mono fun e w' h => ⟨_, h.1, rfl, h.2⟩) (fun v w5 hR => ?_) rdy_nil
        obtain ⟨rfl, hb5⟩ := hR
        have hS5 : w5.heap[w.heap.size + 1]? = some (.cells (vb A).toArray 65 (0, 0)) := (hb5.block _ hltd).trans hSd
        have hR5 : w5.heap[w.heap.size]? = some (.cells (vb c0).toArray 65 (0, 0)) := (hb5.block _ (Nat.lt_of_succ_lt hltd)).trans hRd
        have hb55 : Below w.heap.size w w5 := hbkd.trans (hb5.mono hbkd.size)
        have hlt5 : w.heap.size + 1 < w5.heap.size := Nat.lt_of_lt_of_le hltd hb5.size
        refine ⟨trivial, fun hHeld => ?_⟩
        simp only [Act.put, List.setIfInBounds_toArray, List.set_cons_succ, List.set_cons_zero]
        clear hb5
        refine wpAnyH_ready (rs := [5]) (by kernel_rfl) (by simp) ?_
        refine rdy_call (i := 5) rfl rfl (some 37) rfl 32 #[.agg (vb A).toArray, .agg (vb D).toArray] (xor_call_run (x := 32) (y := 36) (by kernel_rfl) (by kernel_rfl) (by kernel_rfl)) (fun v w' => v = .agg (vb A2).toArray ∧ Below w5.heap.size w5 w') ((xor_any _ A D HAO.out.1 HDO.out.1 HAO.out.2 HDO.out.2 A2 HA2).mono fun e w' h => ⟨_, h.1, rfl, h.2⟩) (fun v w6 hR => ?_) rdy_nil
        obtain ⟨rfl, hb6⟩ := hR
        refine ⟨trivial, fun hHeld => ?_⟩
        simp only [Act.put, List.setIfInBounds_toArray, List.set_cons_succ, List.set_cons_zero]
        have hS6 : w6.heap[w.heap.size + 1]? = some (.cells (vb A).toArray 65 (0, 0)) := (hb6.block _ hlt5).trans hS5
        have hR6 : w6.heap[w.heap.size]? = some (.cells (vb c0).toArray 65 (0, 0)) := (hb6.block _ (Nat.lt_of_succ_lt hlt5)).trans hR5
        have hb66 : Below w.heap.size w w6 := hb55.trans (hb6.mono hb55.size)
        have e6 : (Instr.storeAt 65 (.pointer (some ⟨w.heap.size + 1, 0, none⟩)) (.agg (vb A2).toArray)).run Tryd.prog w6 = .ok () (w6.setRow (w.heap.size + 1) (vb A2).toArray) := run_storeAt_row (P := Tryd.prog) w6 65 (w.heap.size + 1) (vb A2).toArray 65 (vb A).toArray hS6 HS2.out HOA.out image_all
        obtain ⟨w7, hw7⟩ : ∃ w7, w7 = w6.setRow (w.heap.size + 1) (vb A2).toArray := ⟨_, rfl⟩
        rw [← hw7] at e6
        have HS7 : Hid (w7.heap[w.heap.size + 1]? = some (.cells (vb A2).toArray 65 (0, 0))) := hidn (by rw [hw7]; exact setRow_heap _ _ _ _ _ _ hS6)
        have HR7 : Hid (w7.heap[w.heap.size]? = some (.cells (vb c0).toArray 65 (0, 0))) := hidn (by rw [hw7, setRow_other _ _ _ _ (by omega)]; exact hR6)
        have hb7 : Below w.heap.size w w7 := by rw [hw7]; exact below_setRow hb66 (by omega) _
        refine wpAnyH_ready (rs := [6]) (by kernel_rfl) (by simp) ?_
        refine rdy_unit (i := 6) rfl rfl none rfl w7 (store_run (ty := 65) (x := .tmp 8) (y := .tmp 37) (vx := .pointer (some ⟨w.heap.size + 1, 0, none⟩)) (vy := .agg (vb A2).toArray) (by kernel_rfl) (by kernel_rfl) (by kernel_rfl) e6) trivial (fun hHeld => ?_) rdy_nil
        refine wpAnyH_done (by kernel_rfl) ?_ _
        refine NoPanic.normal ?_
        simp only [Act.put]
        clear hHeld hb6 hS6 hR6 hb66 e6 hw7 hS5 hR5 hb55 hlt5
        go_wp2
        go_roundw
        case rel =>
          refine ⟨k + 1, hlt, by go_num, ?_, HR7, hb7⟩
          rw [accS_succ, ← HA.out, ← HD.out, ← HA2.out]
          exact HS7
        case measure => simp [intOf]; omega
      · refine rdy_call (i := 4) rfl rfl (some 36) rfl 30 #[.slice a len cap, .int .i64 (k : Int), .int .i64 (i : Int)] (slot_call_run (x := 33) (y := 34) (z := 35) (by kernel_rfl) (by kernel_rfl) (by kernel_rfl) (by kernel_rfl)) (fun v w' => v = .agg (vb D).toArray ∧ Below wd.heap.size wd w') ((slotOf_data _ a len cap zs (HB.out.below hbkd) hcap hlen k i hlt hi D HD).mono fun e w' h => ⟨_, h.1, rfl, h.2⟩) (fun v w5 hR => ?_) rdy_nil
        obtain ⟨rfl, hb5⟩ := hR
        have hS5 : w5.heap[w.heap.size + 1]? = some (.cells (vb A).toArray 65 (0, 0)) := (hb5.block _ hltd).trans hSd
        have hR5 : w5.heap[w.heap.size]? = some (.cells (vb c0).toArray 65 (0, 0)) := (hb5.block _ (Nat.lt_of_succ_lt hltd)).trans hRd
        have hb55 : Below w.heap.size w w5 := hbkd.trans (hb5.mono hbkd.size)
        have hlt5 : w.heap.size + 1 < w5.heap.size := Nat.lt_of_lt_of_le hltd hb5.size
        refine ⟨trivial, fun hHeld => ?_⟩
        simp only [Act.put, List.setIfInBounds_toArray, List.set_cons_succ, List.set_cons_zero]
        clear hb5
        refine wpAnyH_ready (rs := [0]) (by kernel_rfl) (by simp) ?_
        refine rdy_val (i := 0) rfl rfl (some 32) rfl (.agg (vb A).toArray) w5 (load_run (x := .tmp 8) (vx := .pointer (some ⟨w.heap.size + 1, 0, none⟩)) (by kernel_rfl) (by kernel_rfl) (HLD.out _ hS5)) trivial (fun hHeld => ?_) rdy_nil
        simp only [Act.put, List.setIfInBounds_toArray, List.set_cons_succ, List.set_cons_zero]
        refine wpAnyH_ready (rs := [5]) (by kernel_rfl) (by simp) ?_
        refine rdy_call (i := 5) rfl rfl (some 37) rfl 32 #[.agg (vb A).toArray, .agg (vb D).toArray] (xor_call_run (x := 32) (y := 36) (by kernel_rfl) (by kernel_rfl) (by kernel_rfl)) (fun v w' => v = .agg (vb A2).toArray ∧ Below w5.heap.size w5 w') ((xor_any _ A D HAO.out.1 HDO.out.1 HAO.out.2 HDO.out.2 A2 HA2).mono fun e w' h => ⟨_, h.1, rfl, h.2⟩) (fun v w6 hR => ?_) rdy_nil
        obtain ⟨rfl, hb6⟩ := hR
        refine ⟨trivial, fun hHeld => ?_⟩
        simp only [Act.put, List.setIfInBounds_toArray, List.set_cons_succ, List.set_cons_zero]
        have hS6 : w6.heap[w.heap.size + 1]? = some (.cells (vb A).toArray 65 (0, 0)) := (hb6.block _ hlt5).trans hS5
        have hR6 : w6.heap[w.heap.size]? = some (.cells (vb c0).toArray 65 (0, 0)) := (hb6.block _ (Nat.lt_of_succ_lt hlt5)).trans hR5
        have hb66 : Below w.heap.size w w6 := hb55.trans (hb6.mono hb55.size)
        have e6 : (Instr.storeAt 65 (.pointer (some ⟨w.heap.size + 1, 0, none⟩)) (.agg (vb A2).toArray)).run Tryd.prog w6 = .ok () (w6.setRow (w.heap.size + 1) (vb A2).toArray) := run_storeAt_row (P := Tryd.prog) w6 65 (w.heap.size + 1) (vb A2).toArray 65 (vb A).toArray hS6 HS2.out HOA.out image_all
        obtain ⟨w7, hw7⟩ : ∃ w7, w7 = w6.setRow (w.heap.size + 1) (vb A2).toArray := ⟨_, rfl⟩
        rw [← hw7] at e6
        have HS7 : Hid (w7.heap[w.heap.size + 1]? = some (.cells (vb A2).toArray 65 (0, 0))) := hidn (by rw [hw7]; exact setRow_heap _ _ _ _ _ _ hS6)
        have HR7 : Hid (w7.heap[w.heap.size]? = some (.cells (vb c0).toArray 65 (0, 0))) := hidn (by rw [hw7, setRow_other _ _ _ _ (by omega)]; exact hR6)
        have hb7 : Below w.heap.size w w7 := by rw [hw7]; exact below_setRow hb66 (by omega) _
        refine wpAnyH_ready (rs := [6]) (by kernel_rfl) (by simp) ?_
        refine rdy_unit (i := 6) rfl rfl none rfl w7 (store_run (ty := 65) (x := .tmp 8) (y := .tmp 37) (vx := .pointer (some ⟨w.heap.size + 1, 0, none⟩)) (vy := .agg (vb A2).toArray) (by kernel_rfl) (by kernel_rfl) (by kernel_rfl) e6) trivial (fun hHeld => ?_) rdy_nil
        refine wpAnyH_done (by kernel_rfl) ?_ _
        refine NoPanic.normal ?_
        simp only [Act.put]
        clear hHeld hb6 hS6 hR6 hb66 e6 hw7 hS5 hR5 hb55 hlt5
        go_wp2
        go_roundw
        case rel =>
          refine ⟨k + 1, hlt, by go_num, ?_, HR7, hb7⟩
          rw [accS_succ, ← HA.out, ← HD.out, ← HA2.out]
          exact HS7
        case measure => simp [intOf]; omega
    · obtain rfl : k = 3 := by omega
      rw [← HL.out] at HS
      have HRR := hidn (row_range HS.out)
      simp only [show ((3 : Nat) : Int) = 3 from rfl]
      repeat (first
        | (with_reducible refine wpList_load_mid (by rfl) 65 (.tmp 8) (by rfl) (w.heap.size + 1) 0 (by kernel_rfl) (vb L) _ HRR.out Tryd.underlying65 (by rfl) HSL.out ?_)
        | (with_reducible refine wpList_store_row (by rfl) 65 (.tmp 6) (.tmp 39) (by rfl) w.heap.size (vb L).toArray (by kernel_rfl) (by kernel_rfl) 65 (vb c0).toArray HR.out HSZ.out HOLD.out image_all ?_)
        | go_values | go_skip | go_guarded | go_step | go_upon)
      exact bodyPost_ret (v := .agg (vb L).toArray) (results_cell_row rfl _ _ w.heap.size 65 _ (0, 0) _ rfl (setRow_heap _ _ _ _ _ _ HR.out) Tryd.underlying65 rfl HSZ.out) rfl ⟨rfl, below_setRow hbk (Nat.le_refl _) _⟩
end Go.Proofs.YtdbogbiklabmkaaDoor

/- Stripes: the small ones. -/
namespace Go.Proofs.YtdbogbiklabmkaaDoor
open Go.RowKit Go.Maps
set_option linter.unusedVariables false

set_option maxHeartbeats 1000000 in
theorem stripeMade (w : World) (d : Nat) (F : Nat → Prop) (N : Nat) (M : List UInt8 → List Ext) (free fuse : Int) (h : DiskOf w d F N M free fuse) (hM0 : M [] = []) :
    Calls Tryd.prog 14 #[.pointer (some ⟨d, 0, none⟩)] w fun e w' => e = .returned (.bool true) ∧ Below w.heap.size w w' := by
  have hn : Hid ((0 : Nat) = (M (ByteArray.mk #[]).data.toList).length) := hidn (by show 0 = (M []).length; rw [hM0]; rfl)
  clear hM0
  go_enter Tryd.func14, Tryd.ntmps14
  go_wp2_with fail
  refine (diskRead_none _ d F N M free fuse h ⟨#[]⟩ (by decide) 0 0 hn (Or.inr (by omega))).mono ?_
  rintro e w1 ⟨rfl, hb⟩
  go_wp2
  go_ret
  exact ⟨rfl, hb⟩

/-- A stripe's files. -/
def sf0 (s : ByteArray) : ByteArray := s ++ ⟨#[46, 48]⟩
def sf1 (s : ByteArray) : ByteArray := s ++ ⟨#[46, 49]⟩
def sf2 (s : ByteArray) : ByteArray := s ++ ⟨#[46, 50]⟩
def sf3 (s : ByteArray) : ByteArray := s ++ ⟨#[46, 112]⟩

set_option maxHeartbeats 1000000 in
theorem files_any (w : World) (s : ByteArray) (hs : s.size ≤ 1000) :
    Calls Tryd.prog 16 #[.string s] w fun e w' => e = .returned (.agg #[.string (sf0 s), .string (sf1 s), .string (sf2 s), .string (sf3 s)]) ∧ Below w.heap.size w w' := by
  have ha : s ++ ⟨#[46, 48]⟩ = sf0 s := rfl
  have hb : s ++ ⟨#[46, 49]⟩ = sf1 s := rfl
  have hc : s ++ ⟨#[46, 50]⟩ = sf2 s := rfl
  have hd : s ++ ⟨#[46, 112]⟩ = sf3 s := rfl
  have h1 : s.size + 2 ≤ 1002 := by omega
  go_enter Tryd.func16, Tryd.ntmps16
  go_wp2
  exact bodyPost_ret (v := .agg #[.string (sf0 s), .string (sf1 s), .string (sf2 s), .string (sf3 s)]) (results_cell_row rfl _ _ w.heap.size 48 _ (0, 0) _ rfl (heap_alloc_new _ _) Tryd.underlying48 rfl (by kernel_rfl)) rfl ⟨rfl, (Below.refl _ _).alloc (Nat.le_refl _) _⟩

/-- How many groups a text has. -/
def grpB (len : Nat) : Nat := if len = 0 then 1 else (len - 1) / 315 + 1

set_option maxHeartbeats 1000000 in
theorem groups_any (w : World) (len : Int) (hl : len ≤ 9223372036854775807) :
    Calls Tryd.prog 7 #[.int .i64 len] w fun e w' => e = .returned (.int .i64 (grpB len.toNat : Nat)) ∧ w' = w := by
  by_cases h0 : len ≤ 0
  · have e : grpB len.toNat = 1 := by unfold grpB; rw [if_pos (by omega)]
    rw [e]
    clear e
    go_enter Tryd.func7, Tryd.ntmps7
    go_wp2
    go_ret
    exact ⟨rfl, rfl⟩
  · obtain ⟨m, hm⟩ : ∃ m : Nat, len = (m : Int) + 1 := ⟨(len - 1).toNat, by omega⟩
    have e : grpB len.toNat = m / 315 + 1 := by unfold grpB; rw [if_neg (by omega), hm]; simp
    have E := hidn e
    have h1 : decide (len ≤ 0) = false := by simpa using h0
    have hw1 : IntKind.i64.wrap (len - 1) = (m : Int) := by rw [IntKind.wrap_i64]; omega
    have hw2 : (m : Int).tdiv 315 = ((m / 315 : Nat) : Int) := by rw [Int.tdiv_eq_ediv_of_nonneg (by omega)]; simp
    have hw3 : IntKind.i64.wrap (((m / 315 : Nat) : Int)) = ((m / 315 : Nat) : Int) := by rw [IntKind.wrap_i64]; omega
    have hw4 : IntKind.i64.wrap (((m / 315 : Nat) : Int) + 1) = ((m / 315 : Nat) : Int) + 1 := by rw [IntKind.wrap_i64]; omega
    clear e hm
    generalize m / 315 = q at *
    go_enter Tryd.func7, Tryd.ntmps7
    go_wp2
    go_ret
    rw [E.out]
    exact ⟨rfl, rfl⟩

set_option maxHeartbeats 1000000 in
theorem sdrop_none (w : World) (d : Nat) (F : Nat → Prop) (N : Nat) (M : List UInt8 → List Ext) (free fuse : Int) (h : DiskOf w d F N M free fuse) (hM0 : M [] = []) (s f0 f1 f2 f3 : ByteArray) (hs : s.size ≤ 1000) (e0 : Hid (f0 = sf0 s)) (e1 : Hid (f1 = sf1 s)) (e2 : Hid (f2 = sf2 s)) (e3 : Hid (f3 = sf3 s))
    (H0 : Hid (M f0.data.toList = [])) (H1 : Hid (M f1.data.toList = [])) (H2 : Hid (M f2.data.toList = [])) (H3 : Hid (M f3.data.toList = [])) (h0s : f0.size ≤ maxLen) (h1s : f1.size ≤ maxLen) (h2s : f2.size ≤ maxLen) (h3s : f3.size ≤ maxLen) :
    Calls Tryd.prog 15 #[.pointer (some ⟨d, 0, none⟩), .string s] w fun e w' => e = .returned (.int .i64 0) ∧ Below w.heap.size w w' := by
  have hHv := fun wx => files_any wx s hs
  rw [← e0.out, ← e1.out, ← e2.out, ← e3.out] at hHv
  go_enter Tryd.func15, Tryd.ntmps15
  go_wp2_with fail
  refine (stripeMade _ d F N M free fuse h hM0).mono ?_
  rintro e w1 ⟨rfl, hb1⟩
  go_wp2_with fail
  refine (hHv _).mono ?_
  rintro e w2 ⟨rfl, hb2⟩
  have hb12 : Below w.heap.size w w2 := hb1.trans (hb2.mono hb1.size)
  have hD2 := hidn (h.below hb12)
  clear h hb1 hb2 hHv
  have hi0 : ∀ wx : World, (Instr.index 48 (.agg #[.string f0, .string f1, .string f2, .string f3]) (.int .i64 0)).run Tryd.prog wx = .ok (.string f0) wx := fun wx => by kernel_rfl
  have hi1 : ∀ wx : World, (Instr.index 48 (.agg #[.string f0, .string f1, .string f2, .string f3]) (.int .i64 1)).run Tryd.prog wx = .ok (.string f1) wx := fun wx => by kernel_rfl
  have hi2 : ∀ wx : World, (Instr.index 48 (.agg #[.string f0, .string f1, .string f2, .string f3]) (.int .i64 2)).run Tryd.prog wx = .ok (.string f2) wx := fun wx => by kernel_rfl
  have hi3 : ∀ wx : World, (Instr.index 48 (.agg #[.string f0, .string f1, .string f2, .string f3]) (.int .i64 3)).run Tryd.prog wx = .ok (.string f3) wx := fun wx => by kernel_rfl
  go_wp2_with fail
  go_loopw [13] (fun iv wr => ∃ k : Nat, k ≤ 4 ∧ iv = .int .i64 k ∧ wr = w2) (fun iv _ => 4 - (intOf iv).toNat)
  case atStart => exact ⟨0, by omega, rfl, rfl⟩
  case round =>
    obtain ⟨k, hk, rfl, rfl⟩ := hrel
    match k, hk with
    | 0, _ =>
      go_wp2_with fail
      refine (remove_none _ d F N M free fuse hD2.out f0 h0s H0.out).mono ?_
      rintro e w3 ⟨rfl, rfl⟩
      go_wp2
      go_roundw
      case rel => exact ⟨1, by omega, by first | rfl | go_num | simp, by first | rfl | trivial⟩
      case measure => simp [intOf]
    | 1, _ =>
      go_wp2_with fail
      refine (remove_none _ d F N M free fuse hD2.out f1 h1s H1.out).mono ?_
      rintro e w3 ⟨rfl, rfl⟩
      go_wp2
      go_roundw
      case rel => exact ⟨2, by omega, by first | rfl | go_num | simp, by first | rfl | trivial⟩
      case measure => simp [intOf]
    | 2, _ =>
      go_wp2_with fail
      refine (remove_none _ d F N M free fuse hD2.out f2 h2s H2.out).mono ?_
      rintro e w3 ⟨rfl, rfl⟩
      go_wp2
      go_roundw
      case rel => exact ⟨3, by omega, by first | rfl | go_num | simp, by first | rfl | trivial⟩
      case measure => simp [intOf]
    | 3, _ =>
      go_wp2_with fail
      refine (remove_none _ d F N M free fuse hD2.out f3 h3s H3.out).mono ?_
      rintro e w3 ⟨rfl, rfl⟩
      go_wp2
      go_roundw
      case rel => exact ⟨4, by omega, by first | rfl | go_num | simp, by first | rfl | trivial⟩
      case measure => simp [intOf]
    | 4, _ =>
      go_wp2
      go_ret
      exact ⟨rfl, hb12⟩
end Go.Proofs.YtdbogbiklabmkaaDoor
