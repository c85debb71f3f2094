/- The slot that a text has in the parity file's extent. -/
import Derived.Test.YtmoeoffjlicdjacDoorStrOf
namespace Go.Proofs.YtmoeoffjlicdjacDoor
open Go.RowKit Go.Maps
set_option linter.unusedVariables false

theorem run_storeAt_row {P : Program} (w : World) (ty : TypeId) (g : Nat) (cells : Array Value) (t : TypeId) (old : Array Value) (hg : w.heap[g]? = some (.cells old t (0, 0))) (hi : (P.info? ty).map (·.size) = some cells.size) (hold : old.size = cells.size) (h1 : cells.all (·.oneCell') = true) :
    (Instr.storeAt ty (.pointer (some ⟨g, 0, none⟩)) (.agg cells)).run P w = .ok () (w.setRow g cells) := by
  have h := run_storeVar_row (P := P) w g t ty old cells hg hi hold h1
  simp only [Instr.storeAt, Instr.sureAddr, Sem.run_bind, Sem.run_pure, Result.andThen_ok, h]
theorem slot_call_run {o : Oper} {a : Act} {w : World} {x y z : Nat} {vx vy vz : Value} (ho : o.op = Op.call { callee := Callee.value (Operand.func 61), args := #[.tmp x, .tmp y, .tmp z], argTypes := #[22, 3, 3] }) (hx : a.eval (.tmp x) = vx) (hy : a.eval (.tmp y) = vy) (hz : a.eval (.tmp z) = vz) : (execOp a.eval o).run Tryd.prog w = .ok (.enter 61 #[vx, vy, vz]) w := by
  simp [go_sem, execOp, ho, resolve, invoke]
  exact ⟨by simpa [Act.eval] using hx, by simpa [Act.eval] using hy, by simpa [Act.eval] using hz⟩
theorem xor_call_run {o : Oper} {a : Act} {w : World} {x y : Nat} {vx vy : Value} (ho : o.op = Op.call { callee := Callee.value (Operand.func 63), args := #[.tmp x, .tmp y], argTypes := #[89, 89] }) (hx : a.eval (.tmp x) = vx) (hy : a.eval (.tmp y) = vy) : (execOp a.eval o).run Tryd.prog w = .ok (.enter 63 #[vx, vy]) w := by
  simp [go_sem, execOp, ho, resolve, invoke]
  exact ⟨by simpa [Act.eval] using hx, by simpa [Act.eval] using hy⟩

set_option maxHeartbeats 4000000 in
theorem slotOf_par (w : World) (a : Option Addr) (len cap : Nat) (zs : List Nat) (hB : Bs w a len zs) (hcap : len ≤ cap) (hlen : len ≤ 100000) (i : Nat) (hi : i ≤ 1000000) (L : List Nat) (HL : Hid (L = accS zs i 3)) :
    Calls Tryd.prog 61 #[.slice a len cap, .int .i64 3, .int .i64 i] w fun e w' => e = .returned (.agg (vb L).toArray) ∧ Below w.heap.size w w' := by
  obtain ⟨hz, hzs⟩ := zero_of_info Tryd.infoSlot
  obtain ⟨c0, hc0⟩ : ∃ c0, c0 = List.replicate 106 0 := ⟨_, rfl⟩
  rw [← hc0] at hz
  have l0 : (vb c0).toArray.size = 106 := by rw [hc0]; rfl
  have lL : L.length = 106 := by rw [HL.out]; exact (accS_ok hB.2.2.1 i 3).1
  have HSZ : Hid ((Tryd.prog.info? 89).map (·.size) = some (vb L).toArray.size) := hidn (by rw [hzs]; simp [length_vb, lL])
  have HSL : Hid ((Tryd.prog.info? 89).map (·.size) = some (vb L).length) := hidn (by rw [hzs, length_vb, lL])
  have HOLD : Hid ((vb c0).toArray.size = (vb L).toArray.size) := hidn (by rw [l0]; simp [length_vb, lL])
  have HINF := hidn hzs
  have HB := hidn hB
  have HC0 := hidn hc0
  obtain ⟨w2, hw2⟩ : ∃ w2, w2 = (w.alloc (.cells (vb c0).toArray 89)).alloc (.cells (vb c0).toArray 89) := ⟨_, rfl⟩
  have HR2 : Hid (w2.heap[w.heap.size]? = some (.cells (vb c0).toArray 89 (0, 0))) := hidn (by rw [hw2, Below.heap_alloc _ _ _ (by simp)]; exact heap_alloc_new _ _)
  have HS2' : Hid (w2.heap[w.heap.size + 1]? = some (.cells (vb c0).toArray 89 (0, 0))) := hidn (by
    rw [hw2]
    have := heap_alloc_new (w.alloc (.cells (vb c0).toArray 89)) (.cells (vb c0).toArray 89)
    simpa using this)
  have hb2 : Below w.heap.size w w2 := by rw [hw2]; exact ((Below.refl _ _).alloc (Nat.le_refl _) _).alloc (by simp) _
  have HW2 := hidn hw2
  clear hc0 l0 lL hzs hB hw2
  go_enter Tryd.func61, Tryd.ntmps61
  go_wp2_with fail
  rw [← HW2.out]
  go_loopw [29] (fun iv wr => ∃ k : Nat, k ≤ 3 ∧ iv = .int .i64 k ∧ Hid (wr.heap[w.heap.size + 1]? = some (.cells (vb (accS zs i k)).toArray 89 (0, 0))) ∧ Hid (wr.heap[w.heap.size]? = some (.cells (vb c0).toArray 89 (0, 0))) ∧ Below w.heap.size w wr) (fun iv _ => 3 - (intOf iv).toNat)
  case atStart =>
    refine ⟨0, by omega, rfl, ?_, HR2, hb2⟩
    rw [show accS zs i 0 = c0 from HC0.out.symm]
    exact HS2'
  case round =>
    obtain ⟨k, hk, rfl, HS, HR, hbk⟩ := hrel
    by_cases hlt : k < 3
    · have hlt' : decide (k < 3) = true := decide_eq_true hlt
      have hlt2 : decide ((k : Int) < 3) = true := decide_eq_true (by omega)
      obtain ⟨A, hA⟩ : ∃ A, A = accS zs i k := ⟨_, rfl⟩
      obtain ⟨D, hD⟩ : ∃ D, D = slotB (partS zs k i) := ⟨_, rfl⟩
      obtain ⟨A2, hA2⟩ : ∃ A2, A2 = xorL A D := ⟨_, rfl⟩
      have HAO : Hid (A.length = 106 ∧ ∀ x ∈ A, x < 256) := hidn (by rw [hA]; exact accS_ok HB.out.2.2.1 i k)
      have HDO : Hid (D.length = 106 ∧ ∀ x ∈ D, x < 256) := hidn (by rw [hD]; exact ⟨slotB_length _ (partS_le _ _ _), slotB_lt _ (partS_le _ _ _) (partS_mem HB.out.2.2.1 _ _)⟩)
      rw [← hA] at HS
      have HA := hidn hA
      have HD := hidn hD
      have HA2 := hidn hA2
      have hl2 : A2.length = 106 := by rw [hA2]; exact xorL_length HAO.out.1 HDO.out.1
      have HS2 : Hid ((Tryd.prog.info? 89).map (·.size) = some (vb A2).toArray.size) := hidn (by rw [HINF.out]; simp [length_vb, hl2])
      have HOA : Hid ((vb A).toArray.size = (vb A2).toArray.size) := hidn (by simp [length_vb, hl2, HAO.out.1])
      have HSA : Hid ((Tryd.prog.info? 89).map (·.size) = some (vb A).length) := hidn (by rw [HINF.out, length_vb, HAO.out.1])
      have hld : ∀ wx : World, wx.heap[w.heap.size + 1]? = some (.cells (vb A).toArray 89 (0, 0)) → (Instr.loadAt 89 (.pointer (some ⟨w.heap.size + 1, 0, none⟩))).run Tryd.prog wx = .ok (.agg (vb A).toArray) wx := fun wx hx => run_loadAt_mid (P := Tryd.prog) wx (w.heap.size + 1) 0 89 (vb A) _ (row_range hx) Tryd.underlying89 rfl HSA.out
      have HLD := hidn hld
      clear hA hD hA2 hl2 hld
      go_wp2_with fail
      have hbd : Below wr.heap.size wr wr.drew := (Below.refl _ _).drew
      have hSd : wr.drew.heap[w.heap.size + 1]? = some (.cells (vb A).toArray 89 (0, 0)) := HS.out
      have hRd : wr.drew.heap[w.heap.size]? = some (.cells (vb c0).toArray 89 (0, 0)) := HR.out
      have hbkd : Below w.heap.size w wr.drew := hbk.drew
      obtain ⟨wd, hwd⟩ : ∃ wd, wd = wr.drew := ⟨_, rfl⟩
      have hltd : w.heap.size + 1 < wr.drew.heap.size := (Array.getElem?_eq_some_iff.1 hSd).1
      rw [← hwd] at hSd hRd hbkd hltd
      have HWD := hidn hwd
      clear hbd hwd
      refine wp_region_noPanic ?_
      refine wp_region_held_drew (S := fun w' => True) (by kernel_rfl) trivial (fun hHeld => ?_)
      rw [← HWD.out]
      refine drawn_take (i := 1) (v := .slice a len cap) (some 33) rfl rfl (by kernel_rfl) (by kernel_rfl) (by kernel_rfl) (fun _ _ _ h => h) (Or.inl ⟨by kernel_rfl, fun w hw => by go_simp⟩) hHeld ?_
      refine drawn_take (i := 2) (v := .int .i64 (k : Int)) (some 34) rfl rfl (by kernel_rfl) (by kernel_rfl) (by kernel_rfl) (fun _ _ _ h => h) (Or.inl ⟨by kernel_rfl, fun w hw => by go_simp⟩) hHeld ?_
      refine drawn_take (i := 3) (v := .int .i64 (i : Int)) (some 35) rfl rfl (by kernel_rfl) (by kernel_rfl) (by kernel_rfl) (fun _ _ _ h => h) (Or.inl ⟨by kernel_rfl, fun w hw => by go_simp⟩) hHeld ?_
      simp only [Act.put, List.setIfInBounds_toArray, List.set_cons_succ, List.set_cons_zero]
      refine wpAnyH_ready (rs := [0, 4]) (by kernel_rfl) (by simp) ?_
      refine rdy_val (i := 0) rfl rfl (some 32) rfl (.agg (vb A).toArray) wd (load_run (x := .tmp 8) (vx := .pointer (some ⟨w.heap.size + 1, 0, none⟩)) (by kernel_rfl) (by kernel_rfl) (HLD.out _ hSd)) trivial (fun hHeld => ?_) ?_
      · simp only [Act.put, List.setIfInBounds_toArray, List.set_cons_succ, List.set_cons_zero]
        refine wpAnyH_ready (rs := [4]) (by kernel_rfl) (by simp) ?_
        refine rdy_call (i := 4) rfl rfl (some 36) rfl 61 #[.slice a len cap, .int .i64 (k : Int), .int .i64 (i : Int)] (slot_call_run (x := 33) (y := 34) (z := 35) (by kernel_rfl) (by kernel_rfl) (by kernel_rfl) (by kernel_rfl)) (fun v w' => v = .agg (vb D).toArray ∧ Below wd.heap.size wd w') ((slotOf_data _ a len cap zs (HB.out.below hbkd) hcap hlen k i hlt hi D HD).mono fun e w' h => ⟨_, h.1, rfl, h.2⟩) (fun v w5 hR => ?_) rdy_nil
        obtain ⟨rfl, hb5⟩ := hR
        have hS5 : w5.heap[w.heap.size + 1]? = some (.cells (vb A).toArray 89 (0, 0)) := (hb5.block _ hltd).trans hSd
        have hR5 : w5.heap[w.heap.size]? = some (.cells (vb c0).toArray 89 (0, 0)) := (hb5.block _ (Nat.lt_of_succ_lt hltd)).trans hRd
        have hb55 : Below w.heap.size w w5 := hbkd.trans (hb5.mono hbkd.size)
        have hlt5 : w.heap.size + 1 < w5.heap.size := Nat.lt_of_lt_of_le hltd hb5.size
        refine ⟨trivial, fun hHeld => ?_⟩
        simp only [Act.put, List.setIfInBounds_toArray, List.set_cons_succ, List.set_cons_zero]
        clear hb5
        refine wpAnyH_ready (rs := [5]) (by kernel_rfl) (by simp) ?_
        refine rdy_call (i := 5) rfl rfl (some 37) rfl 63 #[.agg (vb A).toArray, .agg (vb D).toArray] (xor_call_run (x := 32) (y := 36) (by kernel_rfl) (by kernel_rfl) (by kernel_rfl)) (fun v w' => v = .agg (vb A2).toArray ∧ Below w5.heap.size w5 w') ((xor_any _ A D HAO.out.1 HDO.out.1 HAO.out.2 HDO.out.2 A2 HA2).mono fun e w' h => ⟨_, h.1, rfl, h.2⟩) (fun v w6 hR => ?_) rdy_nil
        obtain ⟨rfl, hb6⟩ := hR
        refine ⟨trivial, fun hHeld => ?_⟩
        simp only [Act.put, List.setIfInBounds_toArray, List.set_cons_succ, List.set_cons_zero]
        have hS6 : w6.heap[w.heap.size + 1]? = some (.cells (vb A).toArray 89 (0, 0)) := (hb6.block _ hlt5).trans hS5
        have hR6 : w6.heap[w.heap.size]? = some (.cells (vb c0).toArray 89 (0, 0)) := (hb6.block _ (Nat.lt_of_succ_lt hlt5)).trans hR5
        have hb66 : Below w.heap.size w w6 := hb55.trans (hb6.mono hb55.size)
        have e6 : (Instr.storeAt 89 (.pointer (some ⟨w.heap.size + 1, 0, none⟩)) (.agg (vb A2).toArray)).run Tryd.prog w6 = .ok () (w6.setRow (w.heap.size + 1) (vb A2).toArray) := run_storeAt_row (P := Tryd.prog) w6 89 (w.heap.size + 1) (vb A2).toArray 89 (vb A).toArray hS6 HS2.out HOA.out image_all
        obtain ⟨w7, hw7⟩ : ∃ w7, w7 = w6.setRow (w.heap.size + 1) (vb A2).toArray := ⟨_, rfl⟩
        rw [← hw7] at e6
        have HS7 : Hid (w7.heap[w.heap.size + 1]? = some (.cells (vb A2).toArray 89 (0, 0))) := hidn (by rw [hw7]; exact setRow_heap _ _ _ _ _ _ hS6)
        have HR7 : Hid (w7.heap[w.heap.size]? = some (.cells (vb c0).toArray 89 (0, 0))) := hidn (by rw [hw7, setRow_other _ _ _ _ (by omega)]; exact hR6)
        have hb7 : Below w.heap.size w w7 := by rw [hw7]; exact below_setRow hb66 (by omega) _
        refine wpAnyH_ready (rs := [6]) (by kernel_rfl) (by simp) ?_
        refine rdy_unit (i := 6) rfl rfl none rfl w7 (store_run (ty := 89) (x := .tmp 8) (y := .tmp 37) (vx := .pointer (some ⟨w.heap.size + 1, 0, none⟩)) (vy := .agg (vb A2).toArray) (by kernel_rfl) (by kernel_rfl) (by kernel_rfl) e6) trivial (fun hHeld => ?_) rdy_nil
        refine wpAnyH_done (by kernel_rfl) ?_ _
        refine NoPanic.normal ?_
        simp only [Act.put]
        clear hHeld hb6 hS6 hR6 hb66 e6 hw7 hS5 hR5 hb55 hlt5
        go_wp2
        go_roundw
        case rel =>
          refine ⟨k + 1, hlt, by go_num, ?_, HR7, hb7⟩
          rw [accS_succ, ← HA.out, ← HD.out, ← HA2.out]
          exact HS7
        case measure => simp [intOf]; omega
      · refine rdy_call (i := 4) rfl rfl (some 36) rfl 61 #[.slice a len cap, .int .i64 (k : Int), .int .i64 (i : Int)] (slot_call_run (x := 33) (y := 34) (z := 35) (by kernel_rfl) (by kernel_rfl) (by kernel_rfl) (by kernel_rfl)) (fun v w' => v = .agg (vb D).toArray ∧ Below wd.heap.size wd w') ((slotOf_data _ a len cap zs (HB.out.below hbkd) hcap hlen k i hlt hi D HD).mono fun e w' h => ⟨_, h.1, rfl, h.2⟩) (fun v w5 hR => ?_) rdy_nil
        obtain ⟨rfl, hb5⟩ := hR
        have hS5 : w5.heap[w.heap.size + 1]? = some (.cells (vb A).toArray 89 (0, 0)) := (hb5.block _ hltd).trans hSd
        have hR5 : w5.heap[w.heap.size]? = some (.cells (vb c0).toArray 89 (0, 0)) := (hb5.block _ (Nat.lt_of_succ_lt hltd)).trans hRd
        have hb55 : Below w.heap.size w w5 := hbkd.trans (hb5.mono hbkd.size)
        have hlt5 : w.heap.size + 1 < w5.heap.size := Nat.lt_of_lt_of_le hltd hb5.size
        refine ⟨trivial, fun hHeld => ?_⟩
        simp only [Act.put, List.setIfInBounds_toArray, List.set_cons_succ, List.set_cons_zero]
        clear hb5
        refine wpAnyH_ready (rs := [0]) (by kernel_rfl) (by simp) ?_
        refine rdy_val (i := 0) rfl rfl (some 32) rfl (.agg (vb A).toArray) w5 (load_run (x := .tmp 8) (vx := .pointer (some ⟨w.heap.size + 1, 0, none⟩)) (by kernel_rfl) (by kernel_rfl) (HLD.out _ hS5)) trivial (fun hHeld => ?_) rdy_nil
        simp only [Act.put, List.setIfInBounds_toArray, List.set_cons_succ, List.set_cons_zero]
        refine wpAnyH_ready (rs := [5]) (by kernel_rfl) (by simp) ?_
        refine rdy_call (i := 5) rfl rfl (some 37) rfl 63 #[.agg (vb A).toArray, .agg (vb D).toArray] (xor_call_run (x := 32) (y := 36) (by kernel_rfl) (by kernel_rfl) (by kernel_rfl)) (fun v w' => v = .agg (vb A2).toArray ∧ Below w5.heap.size w5 w') ((xor_any _ A D HAO.out.1 HDO.out.1 HAO.out.2 HDO.out.2 A2 HA2).mono fun e w' h => ⟨_, h.1, rfl, h.2⟩) (fun v w6 hR => ?_) rdy_nil
        obtain ⟨rfl, hb6⟩ := hR
        refine ⟨trivial, fun hHeld => ?_⟩
        simp only [Act.put, List.setIfInBounds_toArray, List.set_cons_succ, List.set_cons_zero]
        have hS6 : w6.heap[w.heap.size + 1]? = some (.cells (vb A).toArray 89 (0, 0)) := (hb6.block _ hlt5).trans hS5
        have hR6 : w6.heap[w.heap.size]? = some (.cells (vb c0).toArray 89 (0, 0)) := (hb6.block _ (Nat.lt_of_succ_lt hlt5)).trans hR5
        have hb66 : Below w.heap.size w w6 := hb55.trans (hb6.mono hb55.size)
        have e6 : (Instr.storeAt 89 (.pointer (some ⟨w.heap.size + 1, 0, none⟩)) (.agg (vb A2).toArray)).run Tryd.prog w6 = .ok () (w6.setRow (w.heap.size + 1) (vb A2).toArray) := run_storeAt_row (P := Tryd.prog) w6 89 (w.heap.size + 1) (vb A2).toArray 89 (vb A).toArray hS6 HS2.out HOA.out image_all
        obtain ⟨w7, hw7⟩ : ∃ w7, w7 = w6.setRow (w.heap.size + 1) (vb A2).toArray := ⟨_, rfl⟩
        rw [← hw7] at e6
        have HS7 : Hid (w7.heap[w.heap.size + 1]? = some (.cells (vb A2).toArray 89 (0, 0))) := hidn (by rw [hw7]; exact setRow_heap _ _ _ _ _ _ hS6)
        have HR7 : Hid (w7.heap[w.heap.size]? = some (.cells (vb c0).toArray 89 (0, 0))) := hidn (by rw [hw7, setRow_other _ _ _ _ (by omega)]; exact hR6)
        have hb7 : Below w.heap.size w w7 := by rw [hw7]; exact below_setRow hb66 (by omega) _
        refine wpAnyH_ready (rs := [6]) (by kernel_rfl) (by simp) ?_
        refine rdy_unit (i := 6) rfl rfl none rfl w7 (store_run (ty := 89) (x := .tmp 8) (y := .tmp 37) (vx := .pointer (some ⟨w.heap.size + 1, 0, none⟩)) (vy := .agg (vb A2).toArray) (by kernel_rfl) (by kernel_rfl) (by kernel_rfl) e6) trivial (fun hHeld => ?_) rdy_nil
        refine wpAnyH_done (by kernel_rfl) ?_ _
        refine NoPanic.normal ?_
        simp only [Act.put]
        clear hHeld hb6 hS6 hR6 hb66 e6 hw7 hS5 hR5 hb55 hlt5
        go_wp2
        go_roundw
        case rel =>
          refine ⟨k + 1, hlt, by go_num, ?_, HR7, hb7⟩
          rw [accS_succ, ← HA.out, ← HD.out, ← HA2.out]
          exact HS7
        case measure => simp [intOf]; omega
    · obtain rfl : k = 3 := by omega
      rw [← HL.out] at HS
      have HRR := hidn (row_range HS.out)
      simp only [show ((3 : Nat) : Int) = 3 from rfl]
      repeat (first
        | (with_reducible refine wpList_load_mid (by rfl) 89 (.tmp 8) (by rfl) (w.heap.size + 1) 0 (by kernel_rfl) (vb L) _ HRR.out Tryd.underlying89 (by rfl) HSL.out ?_)
        | (with_reducible refine wpList_store_row (by rfl) 89 (.tmp 6) (.tmp 39) (by rfl) w.heap.size (vb L).toArray (by kernel_rfl) (by kernel_rfl) 89 (vb c0).toArray HR.out HSZ.out HOLD.out image_all ?_)
        | go_values | go_skip | go_guarded | go_step | go_upon)
      exact bodyPost_ret (v := .agg (vb L).toArray) (results_cell_row rfl _ _ w.heap.size 89 _ (0, 0) _ rfl (setRow_heap _ _ _ _ _ _ HR.out) Tryd.underlying89 rfl HSZ.out) rfl ⟨rfl, below_setRow hbk (Nat.le_refl _) _⟩
end Go.Proofs.YtmoeoffjlicdjacDoor
