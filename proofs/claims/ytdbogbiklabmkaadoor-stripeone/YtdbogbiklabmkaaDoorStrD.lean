/- Stripes: what can't be the slot of a part; the parity's slot is read; Mend of what is lost. -/
import Derived.Test.YtdbogbiklabmkaaDoorStrPartsX
namespace Go.Proofs.YtdbogbiklabmkaaDoor
open Go.RowKit Go.Maps
set_option linter.unusedVariables false

section
variable {P : Program} {md : Region.Mode} {ops : Array Oper} {Q : Exit → Act → World → Prop} {S : World → Prop} {fuel : Nat} {listed : Array Bool} {a : Act} {w : World} {i : Nat} {rs : List Nat} {o : Oper}
theorem rdy_skip (ho : ops[i]? = some o) (hw : Region.wanted o (yielded ops a.tmps) = false) (dst : Option Nat) (hd : o.dst = dst) (hS : S w)
    (h : S w → wpAnyH P md ops Q S fuel (listed.setIfInBounds i true) (a.put dst undef) w) (hs : AllReadyH P md ops Q S fuel listed a w rs) : AllReadyH P md ops Q S fuel listed a w (i :: rs) := by
  subst hd
  refine AllReadyH.cons ho (fun K hK => ?_) hs
  rw [if_neg (by rw [hw]; decide)]
  exact hK _ _ hS h
end

set_option maxHeartbeats 2000000 in
theorem payload_bad (w : World) (p L L2 : List Nat) (f len : Nat) (hf : f < 3) (lL : L.length = 106) (hLb : ∀ x ∈ L, x < 256) (hL0 : L.getD 0 0 = len) (hl : len ≤ 105) (HP : Hid (p = (L.drop 1).take len)) (HL : Hid (L2 = slotB p)) (hne : L2 ≠ L) :
    Calls Tryd.prog 23 #[.agg (vb L).toArray, .int .i64 f] w fun e w' => e = .returned (.tuple #[.slice none 0 0, .bool false]) ∧ Below w.heap.size w w' := by
  have hpl : p.length = len := by rw [HP.out, List.length_take, List.length_drop, lL]; omega
  have hpb : ∀ x ∈ p, x < 256 := fun x hx => by rw [HP.out] at hx; exact hLb x (List.mem_of_mem_drop (List.mem_of_mem_take hx))
  have lL2 : L2.length = 106 := by rw [HL.out]; exact slotB_length p (by omega)
  have hf3 : ((f : Int) == 3) = false := beq_eq_false_iff_ne.2 (by omega)
  have hv0 : (vb L)[0]? = some (.int .u8 (len : Int)) := by rw [vb_getD L 0 (by omega), hL0]
  have hw1 : IntKind.i64.wrap (len : Int) = (len : Int) := by rw [IntKind.wrap_i64]; omega
  have hw2 : IntKind.i64.wrap (1 + (len : Int)) = ((len + 1 : Nat) : Int) := by rw [IntKind.wrap_i64]; omega
  have hgt : decide ((105 : Int) < (len : Int)) = false := decide_eq_false (by omega)
  have hgt2 : decide (105 < len) = false := decide_eq_false (by omega)
  obtain ⟨q, hq⟩ : ∃ q, q = len + 1 := ⟨_, rfl⟩
  rw [← hq] at hw2
  have hq1 : (1 : Int) ≤ (q : Int) := by omega
  have hq2 : (q : Int) ≤ 106 := by omega
  have hq3 : q - 1 = len := by omega
  obtain ⟨wa, hwa⟩ : ∃ wa, wa = w.alloc (.cells (vb L).toArray 65) := ⟨_, rfl⟩
  have hrow : wa.heap[w.heap.size]? = some (.cells (vb L).toArray 65 (0, 0)) := by rw [hwa]; exact heap_alloc_new _ _
  have hba : Below w.heap.size w wa := by rw [hwa]; exact (Below.refl _ _).alloc (Nat.le_refl _) _
  have hbd : Below wa.heap.size wa wa.drew := (Below.refl _ _).drew
  have hrowd : wa.drew.heap[w.heap.size]? = some (.cells (vb L).toArray 65 (0, 0)) := hrow
  have hbs : ∀ wx : World, wx.heap[w.heap.size]? = some (.cells (vb L).toArray 65 (0, 0)) → Bs wx (some ⟨w.heap.size, 1, none⟩) len p := by
    intro wx hx
    have h1 := bs_of_block hx (by rw [lL]; decide) hLb
    obtain ⟨a', hsl, hB', _⟩ := slice_part h1 (Nat.le_refl _) 1 (1 + len) (by omega) (by omega)
    refine ⟨hpl, by unfold maxLen; omega, hpb, (fun h => by simp at h), fun x hx' j hj => ?_⟩
    cases hx'
    have h2 := h1.2.2.2.2 ⟨w.heap.size, 0, none⟩ rfl (1 + j) (by omega)
    rw [add_none] at h2 ⊢
    rw [Nat.zero_add] at h2
    rw [h2, HP.out]
    have e : ((L.drop 1).take len).getD j 0 = L.getD (1 + j) 0 := by rw [List.getD_eq_getElem?_getD, List.getD_eq_getElem?_getD, List.getElem?_take, if_pos hj, List.getElem?_drop]
    rw [e]
  have HBS := hidn (hbs _ hrowd)
  have HBF := hidn hbs
  have hneq := fun wx => neq_slot wx L2 L lL2 lL
  rw [decide_eq_false hne] at hneq
  have HSL : Hid ((Tryd.prog.info? 65).map (·.size) = some (vb L).length) := hidn (by rw [(zero_of_info Tryd.infoSlot).2, length_vb, lL])
  have HRG := hidn (row_range hrowd)
  have HRD := hidn hrowd
  have HWA := hidn hwa
  have HBD := hidn hbd
  have HBA := hidn hba
  have hlt0 : w.heap.size < wa.heap.size := (Array.getElem?_eq_some_iff.1 hrow).1
  clear lL hLb lL2 hne hL0 hrow hba hbd hrowd hbs hwa hpb hq hpl
  go_enter Tryd.func23, Tryd.ntmps23
  go_wp2_with fail
  rw [← HWA.out]
  refine wp_region_noPanic ?_
  refine wp_region_held_drew (S := fun w' => w'.rangeAt w.heap.size 0 (vb L)) (by kernel_rfl) HRG.out (fun hHeld => ?_)
  refine drawn_take (i := 0) (v := .int .i64 (len : Int)) (some 13) rfl rfl (by kernel_rfl) (by kernel_rfl) (by kernel_rfl) (fun _ _ _ h => h) (Or.inl ⟨by kernel_rfl, fun w hw => by go_simp⟩) hHeld ?_
  simp only [Act.put, List.setIfInBounds_toArray, List.set_cons_succ, List.set_cons_zero]
  refine drawn_take (i := 1) (v := .bool false) (some 14) rfl rfl (by kernel_rfl) (by kernel_rfl) (by kernel_rfl) (fun _ _ _ h => h) (Or.inl ⟨by kernel_rfl, fun w hw => by go_simp⟩) hHeld ?_
  simp only [Act.put, List.setIfInBounds_toArray, List.set_cons_succ, List.set_cons_zero]
  refine drawn_take (i := 2) (v := .bool false) (some 15) rfl rfl (by kernel_rfl) (by kernel_rfl) (by kernel_rfl) (fun _ _ _ h => h) (Or.inl ⟨by kernel_rfl, fun w hw => by go_simp⟩) hHeld ?_
  simp only [Act.put, List.setIfInBounds_toArray, List.set_cons_succ, List.set_cons_zero]
  refine drawn_take (i := 3) (v := .int .i64 (len : Int)) (some 16) rfl rfl (by kernel_rfl) (by kernel_rfl) (by kernel_rfl) (fun _ _ _ h => h) (Or.inl ⟨by kernel_rfl, fun w hw => by go_simp⟩) hHeld ?_
  simp only [Act.put, List.setIfInBounds_toArray, List.set_cons_succ, List.set_cons_zero]
  refine drawn_take (i := 4) (v := .int .i64 (q : Int)) (some 17) rfl rfl (by kernel_rfl) (by kernel_rfl) (by kernel_rfl) (fun _ _ _ h => h) (Or.inl ⟨by kernel_rfl, fun w hw => by go_simp⟩) hHeld ?_
  simp only [Act.put, List.setIfInBounds_toArray, List.set_cons_succ, List.set_cons_zero]
  refine drawn_take (i := 5) (v := .slice (some ⟨w.heap.size, 1, none⟩) len 105) (some 18) rfl rfl (by kernel_rfl) (by kernel_rfl) (by kernel_rfl) (fun _ _ _ h => h) (Or.inl ⟨by kernel_rfl, fun wq hw => by go_simp⟩) hHeld ?_
  simp only [Act.put, List.setIfInBounds_toArray, List.set_cons_succ, List.set_cons_zero]
  refine drawn_take (i := 7) (v := .agg (vb L).toArray) (some 20) rfl rfl (by kernel_rfl) (by kernel_rfl) (by kernel_rfl) (fun _ _ _ h => h) (yieldsIf_load_mid (by kernel_rfl) 65 (.tmp 2) (by kernel_rfl) w.heap.size 0 (by kernel_rfl) (vb L) _ (fun w h => h) Tryd.underlying65 rfl HSL.out) hHeld ?_
  simp only [Act.put, List.setIfInBounds_toArray, List.set_cons_succ, List.set_cons_zero]
  refine wpAnyH_ready (rs := [6]) (by kernel_rfl) (by simp) ?_
  refine rdy_callw (i := 6) rfl (by kernel_rfl) (some 19) rfl 33 #[.slice (some ⟨w.heap.size, 1, none⟩) len 105] (part_call_run (x := 18) (by kernel_rfl) (by kernel_rfl)) (fun v w' => v = .agg (vb L2).toArray ∧ Below wa.drew.heap.size wa.drew w') ((partSlot_any _ (some ⟨w.heap.size, 1, none⟩) len 105 p HBS.out hl L2 HL).mono fun e w' h => ⟨_, h.1, rfl, h.2⟩) (fun v w5 hR => ?_) rdy_nil
  obtain ⟨rfl, hb5⟩ := hR
  have hrow5 : w5.heap[w.heap.size]? = some (.cells (vb L).toArray 65 (0, 0)) := (hb5.block _ hlt0).trans HRD.out
  refine ⟨row_range hrow5, fun hHeld => ?_⟩
  simp only [Act.put, List.setIfInBounds_toArray, List.set_cons_succ, List.set_cons_zero]
  refine drawn_take (i := 8) (v := .bool true) (some 21) rfl rfl (by kernel_rfl) (by kernel_rfl) (by kernel_rfl) (fun _ _ _ h => h) (Or.inl ⟨by kernel_rfl, fun w hw => by go_simp⟩) hHeld ?_
  simp only [Act.put, List.setIfInBounds_toArray, List.set_cons_succ, List.set_cons_zero]
  refine drawn_take (i := 9) (v := .bool true) (some 22) rfl rfl (by kernel_rfl) (by kernel_rfl) (by kernel_rfl) (fun _ _ _ h => h) (Or.inl ⟨by kernel_rfl, fun w hw => by go_simp⟩) hHeld ?_
  simp only [Act.put, List.setIfInBounds_toArray, List.set_cons_succ, List.set_cons_zero]
  refine wpAnyH_done (by kernel_rfl) ?_ _
  refine NoPanic.normal ?_
  have HB5 := hidn (HBF.out _ hrow5)
  have HBL : Hid (Below w.heap.size w w5) := hidn (HBA.out.trans ((HBD.out.mono HBA.out.size).trans (hb5.mono HBA.out.size)))
  clear hHeld hneq hrow5 hb5
  go_wp2
  go_ret2
  exact ⟨rfl, HBL.out⟩
set_option maxHeartbeats 2000000 in
theorem payload_big (w : World) (L : List Nat) (f len : Nat) (hf : f < 3) (lL : L.length = 106) (hLb : ∀ x ∈ L, x < 256) (hL0 : L.getD 0 0 = len) (hl : 105 < len) :
    Calls Tryd.prog 23 #[.agg (vb L).toArray, .int .i64 f] w fun e w' => e = .returned (.tuple #[.slice none 0 0, .bool false]) ∧ Below w.heap.size w w' := by
  have hf3 : ((f : Int) == 3) = false := beq_eq_false_iff_ne.2 (by omega)
  have hv0 : (vb L)[0]? = some (.int .u8 (len : Int)) := by rw [vb_getD L 0 (by omega), hL0]
  have hgt : decide ((105 : Int) < (len : Int)) = true := decide_eq_true (by omega)
  have hgt2 : decide (105 < len) = true := decide_eq_true (by omega)
  have hlm : len < 256 := by rw [← hL0, List.getD_eq_getElem?_getD]; have : L[0]? = some L[0] := List.getElem?_eq_getElem (by omega); rw [this]; exact hLb _ (List.getElem_mem _)
  have hw1 : IntKind.i64.wrap (len : Int) = (len : Int) := by rw [IntKind.wrap_i64]; omega
  obtain ⟨wa, hwa⟩ : ∃ wa, wa = w.alloc (.cells (vb L).toArray 65) := ⟨_, rfl⟩
  have hrow : wa.heap[w.heap.size]? = some (.cells (vb L).toArray 65 (0, 0)) := by rw [hwa]; exact heap_alloc_new _ _
  have hba : Below w.heap.size w wa := by rw [hwa]; exact (Below.refl _ _).alloc (Nat.le_refl _) _
  have hbd : Below wa.heap.size wa wa.drew := (Below.refl _ _).drew
  have hrowd : wa.drew.heap[w.heap.size]? = some (.cells (vb L).toArray 65 (0, 0)) := hrow
  have HRG := hidn (row_range hrowd)
  have HRD := hidn hrowd
  have HWA := hidn hwa
  have HBD := hidn hbd
  have HBA := hidn hba
  have hlt0 : w.heap.size < wa.heap.size := (Array.getElem?_eq_some_iff.1 hrow).1
  clear lL hLb hL0 hrow hba hbd hrowd hwa
  go_enter Tryd.func23, Tryd.ntmps23
  go_wp2_with fail
  rw [← HWA.out]
  refine wp_region_noPanic ?_
  refine wp_region_held_drew (S := fun w' => w'.rangeAt w.heap.size 0 (vb L)) (by kernel_rfl) HRG.out (fun hHeld => ?_)
  refine drawn_take (i := 0) (v := .int .i64 (len : Int)) (some 13) rfl rfl (by kernel_rfl) (by kernel_rfl) (by kernel_rfl) (fun _ _ _ h => h) (Or.inl ⟨by kernel_rfl, fun wq hw => by go_simp⟩) hHeld ?_
  simp only [Act.put, List.setIfInBounds_toArray, List.set_cons_succ, List.set_cons_zero]
  refine drawn_take (i := 1) (v := .bool true) (some 14) rfl rfl (by kernel_rfl) (by kernel_rfl) (by kernel_rfl) (fun _ _ _ h => h) (Or.inl ⟨by kernel_rfl, fun wq hw => by go_simp⟩) hHeld ?_
  simp only [Act.put, List.setIfInBounds_toArray, List.set_cons_succ, List.set_cons_zero]
  refine drawn_take (i := 2) (v := .bool true) (some 15) rfl rfl (by kernel_rfl) (by kernel_rfl) (by kernel_rfl) (fun _ _ _ h => h) (Or.inl ⟨by kernel_rfl, fun wq hw => by go_simp⟩) hHeld ?_
  simp only [Act.put, List.setIfInBounds_toArray, List.set_cons_succ, List.set_cons_zero]
  refine drawn_take (i := 3) (v := undef) (some 16) rfl rfl (by kernel_rfl) (by kernel_rfl) (by kernel_rfl) (fun _ _ _ h => h) (Or.inr ⟨by kernel_rfl, rfl⟩) hHeld ?_
  simp only [Act.put, List.setIfInBounds_toArray, List.set_cons_succ, List.set_cons_zero]
  refine drawn_take (i := 4) (v := undef) (some 17) rfl rfl (by kernel_rfl) (by kernel_rfl) (by kernel_rfl) (fun _ _ _ h => h) (Or.inr ⟨by kernel_rfl, rfl⟩) hHeld ?_
  simp only [Act.put, List.setIfInBounds_toArray, List.set_cons_succ, List.set_cons_zero]
  refine drawn_take (i := 5) (v := undef) (some 18) rfl rfl (by kernel_rfl) (by kernel_rfl) (by kernel_rfl) (fun _ _ _ h => h) (Or.inr ⟨by kernel_rfl, rfl⟩) hHeld ?_
  simp only [Act.put, List.setIfInBounds_toArray, List.set_cons_succ, List.set_cons_zero]
  refine drawn_take (i := 7) (v := undef) (some 20) rfl rfl (by kernel_rfl) (by kernel_rfl) (by kernel_rfl) (fun _ _ _ h => h) (Or.inr ⟨by kernel_rfl, rfl⟩) hHeld ?_
  simp only [Act.put, List.setIfInBounds_toArray, List.set_cons_succ, List.set_cons_zero]
  refine wpAnyH_ready (rs := [6]) (by kernel_rfl) (by simp) ?_
  refine rdy_skip (i := 6) rfl (by kernel_rfl) (some 19) rfl hHeld (fun hHeld => ?_) rdy_nil
  simp only [Act.put, List.setIfInBounds_toArray, List.set_cons_succ, List.set_cons_zero]
  refine drawn_take (i := 8) (v := undef) (some 21) rfl rfl (by kernel_rfl) (by kernel_rfl) (by kernel_rfl) (fun _ _ _ h => h) (Or.inr ⟨by kernel_rfl, rfl⟩) hHeld ?_
  simp only [Act.put, List.setIfInBounds_toArray, List.set_cons_succ, List.set_cons_zero]
  refine drawn_take (i := 9) (v := .bool true) (some 22) rfl rfl (by kernel_rfl) (by kernel_rfl) (by kernel_rfl) (fun _ _ _ h => h) (Or.inl ⟨by kernel_rfl, fun wq hw => by go_simp⟩) hHeld ?_
  simp only [Act.put, List.setIfInBounds_toArray, List.set_cons_succ, List.set_cons_zero]
  refine wpAnyH_done (by kernel_rfl) ?_ _
  refine NoPanic.normal ?_
  have HBL : Hid (Below w.heap.size w wa.drew) := hidn (HBA.out.trans (HBD.out.mono HBA.out.size))
  clear hHeld
  go_wp2
  go_ret2
  exact ⟨rfl, HBL.out⟩

/-- payload of any slot. -/
theorem payload_gen (w : World) (L : List Nat) (f : Nat) (hf : f < 4) (lL : L.length = 106) (hLb : ∀ x ∈ L, x < 256) :
    Calls Tryd.prog 23 #[.agg (vb L).toArray, .int .i64 f] w fun e w' => ∃ v b, e = .returned (.tuple #[v, .bool b]) ∧ Below w.heap.size w w' := by
  by_cases h3 : f = 3
  · subst h3
    exact (payload_par w L lL hLb).mono fun e w' hh => by obtain ⟨b, h1, _, _, h4⟩ := hh; exact ⟨_, _, h1, h4⟩
  obtain ⟨len, hlen⟩ : ∃ len, len = L.getD 0 0 := ⟨_, rfl⟩
  by_cases hl : len ≤ 105
  · by_cases he : slotB ((L.drop 1).take len) = L
    · exact (payload_part w ((L.drop 1).take len) L f len (by omega) (hidn he.symm) (by rw [List.length_take, List.length_drop, lL]; omega) hl (fun x hx => hLb x (List.mem_of_mem_drop (List.mem_of_mem_take hx)))).mono fun e w' hh => by obtain ⟨b, h1, _, _, h4⟩ := hh; exact ⟨_, _, h1, h4⟩
    · exact (payload_bad w _ L _ f len (by omega) lL hLb hlen.symm hl (hidn rfl) (hidn rfl) he).mono fun e w' hh => ⟨_, _, hh.1, hh.2⟩
  · exact (payload_big w L f len (by omega) lL hLb hlen.symm (by omega)).mono fun e w' hh => ⟨_, _, hh.1, hh.2⟩
end Go.Proofs.YtdbogbiklabmkaaDoor
