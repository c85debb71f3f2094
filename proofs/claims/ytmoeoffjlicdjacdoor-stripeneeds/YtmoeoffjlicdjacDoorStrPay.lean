/- Slots of a stripe: what a file's extent has of one. -/
import Derived.Test.YtmoeoffjlicdjacDoorStrXor
import Derived.Test.YtmoeoffjlicdjacDoorArrEq
namespace Go.Proofs.YtmoeoffjlicdjacDoor
open Go.RowKit Go.Maps
set_option linter.unusedVariables false

section
variable {P : Program} {md : Region.Mode} {ops : Array Oper} {Q : Exit → Act → World → Prop} {S : World → Prop} {fuel : Nat} {listed : Array Bool} {a : Act} {w : World} {i : Nat} {o : Oper} {rs : List Nat}
/-- A call that is guarded, and wanted. -/
theorem rdy_callw (ho : ops[i]? = some o) (hw : Region.wanted o (yielded ops a.tmps) = true) (dst : Option Nat) (hd : o.dst = dst) (f : FuncId) (args : Array Value) (hrun : (execOp a.eval o).run P w = .ok (.enter f args) w) (R : Value → World → Prop)
    (hc : Calls P f args w fun e w' => ∃ v, e = .returned v ∧ R v w')
    (h : ∀ v w', R v w' → S w' ∧ (S w' → wpAnyH P md ops Q S fuel (listed.setIfInBounds i true) (a.put dst v) w')) (hs : AllReadyH P md ops Q S fuel listed a w rs) : AllReadyH P md ops Q S fuel listed a w (i :: rs) := by
  subst hd
  refine AllReadyH.cons ho (fun K hK => ?_) hs
  rw [if_pos hw]
  unfold Oper.wp
  rw [hrun, Oper.upon_enter]
  refine hc.mono fun e w' hh => ?_
  obtain ⟨v, rfl, hR⟩ := hh
  exact hK _ _ (h v w' hR).1 (h v w' hR).2
end
theorem neq_slot (w : World) (xs ys : List Nat) (hx : xs.length = 106) (hy : ys.length = 106) :
    (binOp .neq 89 (.agg (vb xs).toArray) (.agg (vb ys).toArray)).run Tryd.prog w = .ok (.bool (!decide (xs = ys))) w := by
  obtain ⟨i0, hi, hz0, hz1, hz2⟩ := info_parts Tryd.info5
  have hc : Tryd.prog.cellsOf 5 = 1 := by kernel_rfl
  rw [run_neq_struct, run_equalIn_array w 9999 _ _ Tryd.underlying89 hi, hc, eqItems_vb w 9998 xs ys _ (fun i hi => by simp at hi; omega), all_getD xs ys 106 hx hy]
  rfl
theorem part_call_run {o : Oper} {a : Act} {w : World} {x : Nat} {vx : Value} (ho : o.op = Op.call { callee := Callee.value (Operand.func 64), args := #[.tmp x], argTypes := #[22] }) (hx : a.eval (.tmp x) = vx) : (execOp a.eval o).run Tryd.prog w = .ok (.enter 64 #[vx]) w := by
  simp [go_sem, execOp, ho, resolve, invoke]
  simpa [Act.eval] using hx
theorem slotB_get (p : List Nat) (j : Nat) (hj : j < p.length) : (slotB p).getD (1 + j) 0 = p.getD j 0 := by
  rw [Nat.add_comm]
  simp [slotB, List.getD_eq_getElem?_getD, List.getElem?_append_left hj]
theorem slotB_drop (p : List Nat) : ((slotB p).drop 1).take p.length = p := by simp [slotB]

set_option maxHeartbeats 1000000 in
theorem payload_par (w : World) (L : List Nat) (hl : L.length = 106) (hb : ∀ x ∈ L, x < 256) :
    Calls Tryd.prog 48 #[.agg (vb L).toArray, .int .i64 3] w fun e w' => ∃ b, e = .returned (.tuple #[.slice (some ⟨b, 0, none⟩) 106 106, .bool true]) ∧ w.heap.size ≤ b ∧ Bs w' (some ⟨b, 0, none⟩) 106 L ∧ Below w.heap.size w w' := by
  have hB : Bs (w.alloc (.cells (vb L).toArray 89)) (some ⟨w.heap.size, 0, none⟩) 106 L := by
    have := bs_of_block (heap_alloc_new w (.cells (vb L).toArray 89)) (by rw [hl]; decide) hb
    rwa [hl] at this
  have HB := hidn hB
  clear hB hl hb
  go_enter Tryd.func48, Tryd.ntmps48
  go_wp2
  go_ret2
  exact ⟨_, rfl, Nat.le_refl _, HB.out, (Below.refl _ _).alloc (Nat.le_refl _) _⟩

set_option maxHeartbeats 2000000 in
theorem payload_part (w : World) (p L : List Nat) (f len : Nat) (hf : f < 3) (HL : Hid (L = slotB p)) (hpl : p.length = len) (hl : len ≤ 105) (hpb : ∀ x ∈ p, x < 256) :
    Calls Tryd.prog 48 #[.agg (vb L).toArray, .int .i64 f] w fun e w' => ∃ b, e = .returned (.tuple #[.slice (some ⟨b, 1, none⟩) len 105, .bool true]) ∧ w.heap.size ≤ b ∧ Bs w' (some ⟨b, 1, none⟩) len p ∧ Below w.heap.size w w' := by
  have hf3 : ((f : Int) == 3) = false := beq_eq_false_iff_ne.2 (by omega)
  have lL : L.length = 106 := by rw [HL.out]; exact slotB_length p (by omega)
  have hLb : ∀ x ∈ L, x < 256 := by rw [HL.out]; exact slotB_lt p (by omega) hpb
  have hv0 : (vb L)[0]? = some (.int .u8 (len : Int)) := by rw [HL.out]; simp [vb, slotB, hpl]
  have hw1 : IntKind.i64.wrap (len : Int) = (len : Int) := by rw [IntKind.wrap_i64]; omega
  have hw2 : IntKind.i64.wrap (1 + (len : Int)) = ((len + 1 : Nat) : Int) := by rw [IntKind.wrap_i64]; omega
  have hgt : decide ((105 : Int) < (len : Int)) = false := decide_eq_false (by omega)
  have hgt2 : decide (105 < len) = false := decide_eq_false (by omega)
  obtain ⟨q, hq⟩ : ∃ q, q = len + 1 := ⟨_, rfl⟩
  rw [← hq] at hw2
  have hq1 : (1 : Int) ≤ (q : Int) := by omega
  have hq2 : (q : Int) ≤ 106 := by omega
  have hq3 : q - 1 = len := by omega
  obtain ⟨wa, hwa⟩ : ∃ wa, wa = w.alloc (.cells (vb L).toArray 89) := ⟨_, rfl⟩
  have hrow : wa.heap[w.heap.size]? = some (.cells (vb L).toArray 89 (0, 0)) := by rw [hwa]; exact heap_alloc_new _ _
  have hba : Below w.heap.size w wa := by rw [hwa]; exact (Below.refl _ _).alloc (Nat.le_refl _) _
  have hbd : Below wa.heap.size wa wa.drew := (Below.refl _ _).drew
  have hrowd : wa.drew.heap[w.heap.size]? = some (.cells (vb L).toArray 89 (0, 0)) := hrow
  have hbs : ∀ wx : World, wx.heap[w.heap.size]? = some (.cells (vb L).toArray 89 (0, 0)) → Bs wx (some ⟨w.heap.size, 1, none⟩) len p := by
    intro wx hx
    have h1 := bs_of_block hx (by rw [lL]; decide) hLb
    obtain ⟨a', hsl, hB', _⟩ := slice_part h1 (Nat.le_refl _) 1 (1 + len) (by omega) (by omega)
    refine ⟨hpl, by unfold maxLen; omega, hpb, (fun h => by simp at h), fun x hx' j hj => ?_⟩
    cases hx'
    have h2 := h1.2.2.2.2 ⟨w.heap.size, 0, none⟩ rfl (1 + j) (by omega)
    rw [add_none] at h2 ⊢
    rw [Nat.zero_add] at h2
    rw [h2, HL.out, slotB_get p j (by rw [hpl]; exact hj)]
  have HBS := hidn (hbs _ hrowd)
  have HBF := hidn hbs
  have hneq := fun wx => neq_slot wx L L lL lL
  rw [decide_eq_true (rfl : L = L)] at hneq
  have HSL : Hid ((Tryd.prog.info? 89).map (·.size) = some (vb L).length) := hidn (by rw [(zero_of_info Tryd.infoSlot).2, length_vb, lL])
  have HRG := hidn (row_range hrowd)
  have HRD := hidn hrowd
  have HWA := hidn hwa
  have HBD := hidn hbd
  have HBA := hidn hba
  have hlt0 : w.heap.size < wa.heap.size := (Array.getElem?_eq_some_iff.1 hrow).1
  clear lL hLb hrow hba hbd hrowd hbs hwa hpb hq hpl
  go_enter Tryd.func48, Tryd.ntmps48
  go_wp2_with fail
  rw [← HWA.out]
  refine wp_region_noPanic ?_
  refine wp_region_held_drew (S := fun w' => w'.rangeAt w.heap.size 0 (vb L)) (by kernel_rfl) HRG.out (fun hHeld => ?_)
  refine drawn_take (i := 0) (v := .int .i64 (len : Int)) (some 13) rfl rfl (by kernel_rfl) (by kernel_rfl) (by kernel_rfl) (fun _ _ _ h => h) (Or.inl ⟨by kernel_rfl, fun w hw => by go_simp⟩) hHeld ?_
  simp only [Act.put, List.setIfInBounds_toArray, List.set_cons_succ, List.set_cons_zero]
  refine drawn_take (i := 1) (v := .bool false) (some 14) rfl rfl (by kernel_rfl) (by kernel_rfl) (by kernel_rfl) (fun _ _ _ h => h) (Or.inl ⟨by kernel_rfl, fun w hw => by go_simp⟩) hHeld ?_
  simp only [Act.put, List.setIfInBounds_toArray, List.set_cons_succ, List.set_cons_zero]
  refine drawn_take (i := 2) (v := .bool false) (some 15) rfl rfl (by kernel_rfl) (by kernel_rfl) (by kernel_rfl) (fun _ _ _ h => h) (Or.inl ⟨by kernel_rfl, fun w hw => by go_simp⟩) hHeld ?_
  simp only [Act.put, List.setIfInBounds_toArray, List.set_cons_succ, List.set_cons_zero]
  refine drawn_take (i := 3) (v := .int .i64 (len : Int)) (some 16) rfl rfl (by kernel_rfl) (by kernel_rfl) (by kernel_rfl) (fun _ _ _ h => h) (Or.inl ⟨by kernel_rfl, fun w hw => by go_simp⟩) hHeld ?_
  simp only [Act.put, List.setIfInBounds_toArray, List.set_cons_succ, List.set_cons_zero]
  refine drawn_take (i := 4) (v := .int .i64 (q : Int)) (some 17) rfl rfl (by kernel_rfl) (by kernel_rfl) (by kernel_rfl) (fun _ _ _ h => h) (Or.inl ⟨by kernel_rfl, fun w hw => by go_simp⟩) hHeld ?_
  simp only [Act.put, List.setIfInBounds_toArray, List.set_cons_succ, List.set_cons_zero]
  refine drawn_take (i := 5) (v := .slice (some ⟨w.heap.size, 1, none⟩) len 105) (some 18) rfl rfl (by kernel_rfl) (by kernel_rfl) (by kernel_rfl) (fun _ _ _ h => h) (Or.inl ⟨by kernel_rfl, fun wq hw => by go_simp⟩) hHeld ?_
  simp only [Act.put, List.setIfInBounds_toArray, List.set_cons_succ, List.set_cons_zero]
  refine drawn_take (i := 7) (v := .agg (vb L).toArray) (some 20) rfl rfl (by kernel_rfl) (by kernel_rfl) (by kernel_rfl) (fun _ _ _ h => h) (yieldsIf_load_mid (by kernel_rfl) 89 (.tmp 2) (by kernel_rfl) w.heap.size 0 (by kernel_rfl) (vb L) _ (fun w h => h) Tryd.underlying89 rfl HSL.out) hHeld ?_
  simp only [Act.put, List.setIfInBounds_toArray, List.set_cons_succ, List.set_cons_zero]
  refine wpAnyH_ready (rs := [6]) (by kernel_rfl) (by simp) ?_
  refine rdy_callw (i := 6) rfl (by kernel_rfl) (some 19) rfl 64 #[.slice (some ⟨w.heap.size, 1, none⟩) len 105] (part_call_run (x := 18) (by kernel_rfl) (by kernel_rfl)) (fun v w' => v = .agg (vb L).toArray ∧ Below wa.drew.heap.size wa.drew w') ((partSlot_any _ (some ⟨w.heap.size, 1, none⟩) len 105 p HBS.out hl L HL).mono fun e w' h => ⟨_, h.1, rfl, h.2⟩) (fun v w5 hR => ?_) rdy_nil
  obtain ⟨rfl, hb5⟩ := hR
  have hrow5 : w5.heap[w.heap.size]? = some (.cells (vb L).toArray 89 (0, 0)) := (hb5.block _ hlt0).trans HRD.out
  refine ⟨row_range hrow5, fun hHeld => ?_⟩
  simp only [Act.put, List.setIfInBounds_toArray, List.set_cons_succ, List.set_cons_zero]
  refine drawn_take (i := 8) (v := .bool false) (some 21) rfl rfl (by kernel_rfl) (by kernel_rfl) (by kernel_rfl) (fun _ _ _ h => h) (Or.inl ⟨by kernel_rfl, fun w hw => by go_simp⟩) hHeld ?_
  simp only [Act.put, List.setIfInBounds_toArray, List.set_cons_succ, List.set_cons_zero]
  refine drawn_take (i := 9) (v := .bool false) (some 22) rfl rfl (by kernel_rfl) (by kernel_rfl) (by kernel_rfl) (fun _ _ _ h => h) (Or.inl ⟨by kernel_rfl, fun w hw => by go_simp⟩) hHeld ?_
  simp only [Act.put, List.setIfInBounds_toArray, List.set_cons_succ, List.set_cons_zero]
  refine wpAnyH_done (by kernel_rfl) ?_ _
  refine NoPanic.normal ?_
  have HB5 := hidn (HBF.out _ hrow5)
  have HBL : Hid (Below w.heap.size w w5) := hidn (HBA.out.trans ((HBD.out.mono HBA.out.size).trans (hb5.mono HBA.out.size)))
  clear hHeld hneq hrow5 hb5
  go_wp2
  go_ret2
  exact ⟨_, rfl, Nat.le_refl _, HB5.out, HBL.out⟩
end Go.Proofs.YtmoeoffjlicdjacDoor
