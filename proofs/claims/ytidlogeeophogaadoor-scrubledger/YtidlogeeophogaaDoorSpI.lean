/- Spots: slices.BinarySearchFunc by scrub.compareSpots. -/
import Derived.Test.YtidlogeeophogaaDoorSpH
namespace Go.Proofs.YtidlogeeophogaaDoor.Sp
open Go.RowKit Go.Joins Go.Sort
set_option linter.unusedVariables false
set_option linter.unusedSimpArgs false

theorem callV2 {o : Oper} {a : Act} {w : World} {f : FuncId} {z x y : Nat} {vx vy : Value} {ts : Array TypeId} (ho : o.op = Op.call { callee := Callee.value (.tmp z), args := #[.tmp x, .tmp y], argTypes := ts }) (hen : ∀ args w, (callFunc f args).run Tryd.prog w = .ok (.enter f args) w) (hz : a.eval (.tmp z) = .func (.func f) #[] #[]) (hx : a.eval (.tmp x) = vx) (hy : a.eval (.tmp y) = vy) : (execOp a.eval o).run Tryd.prog w = .ok (.enter f #[vx, vy]) w := by
  have hz' : (a.tmps)[z]?.getD undef = .func (.func f) #[] #[] := by simpa [Act.eval] using hz
  simp [go_sem, execOp, ho, resolve, invoke, hen, hz']
  exact ⟨by simpa [Act.eval] using hx, by simpa [Act.eval] using hy⟩

theorem below_grown (w : World) (q : Nat) (os : Array Obj) : Below w.heap.size w (grow (w.drewN q) os) :=
  ⟨rfl, rfl, rfl, by show w.heap.size ≤ (w.heap ++ os).size; simp, fun k hk => heap_grow_old (w.drewN q) os hk⟩

theorem cmpS_call (x y : Spt) (w : World) : Calls Tryd.prog 36 #[.agg #[.string x.nm, .int .i64 x.ix], .agg #[.string y.nm, .int .i64 y.ix]] w fun e w' => e = .returned (.int .i64 (cmpP x y)) ∧ Below w.heap.size w w' :=
  (compareSpots_any x y w).mono fun e w' h => by
    obtain ⟨h1, q, os, rfl⟩ := h
    exact ⟨h1, below_grown w q os⟩

theorem cmpP_zero (x y : Spt) : cmpP x y = 0 ↔ x = y := by
  constructor
  · intro h
    have h1 : lessS x y = false := by
      rw [Bool.eq_false_iff]; intro h2
      have := (cmpP_less x y).2 h2
      omega
    unfold cmpP orZ cmpS cmpB cmpZ at h
    have h3 : ¬ Op.bytesLess x.nm.toList y.nm.toList = true := fun h2 => by
      rw [Bool.eq_false_iff, Ne, less_str] at h1
      exact h1 (.inl h2)
    rw [if_neg h3] at h
    by_cases h4 : Op.bytesLess y.nm.toList x.nm.toList = true
    · rw [if_pos h4] at h
      simp at h
    · rw [if_neg h4, if_pos rfl] at h
      have e : x.nm = y.nm := toL_inj (less_total _ _ (by simpa using h3) (by simpa using h4))
      obtain ⟨xn, xi⟩ := x
      obtain ⟨yn, yi⟩ := y
      simp only at e h
      have : xi = yi := by
        by_cases g1 : xi < yi
        · rw [if_pos g1] at h; omega
        · rw [if_neg g1] at h
          by_cases g2 : yi < xi
          · rw [if_pos g2] at h; omega
          · omega
      rw [e, this]
  · rintro rfl
    unfold cmpP orZ cmpS
    rw [cmpB_self, if_pos rfl]
    unfold cmpZ
    rw [if_neg (by omega), if_neg (by omega)]

/-- Each stands ahead of all behind it. -/
def RiseS (l : List Spt) : Prop := l.Pairwise (fun a b => lessS a b = true)

theorem inS_mem (l : List Spt) (s : Spt) : inS l s = true ↔ s ∈ l := by
  unfold inS
  rw [List.any_eq_true]
  constructor
  · rintro ⟨x, hx, h⟩
    rw [← sameS_iff.1 h]; exact hx
  · intro h
    exact ⟨s, h, sameS_iff.2 rfl⟩

theorem found_iff {O : List Spt} {t : Spt} {i : Nat} (hr : RiseS O) (h1 : ∀ k x, k < i → O[k]? = some x → lessS x t = true) (h2 : ∀ k x, i ≤ k → O[k]? = some x → lessS x t = false) : inS O t = true ↔ O[i]? = some t := by
  rw [inS_mem]
  constructor
  · intro h
    obtain ⟨k, hk, e⟩ := List.getElem_of_mem h
    have hk2 : O[k]? = some t := by rw [List.getElem?_eq_getElem hk, e]
    rcases Nat.lt_trichotomy k i with hki | hki | hki
    · have := h1 k t hki hk2
      rw [lessS_irr] at this; cases this
    · rw [← hki]; exact hk2
    · have hi : i < O.length := by omega
      have := h2 i O[i] (Nat.le_refl _) (List.getElem?_eq_getElem hi)
      have h4 := (List.pairwise_iff_getElem.1 hr) i k hi hk hki
      rw [e, this] at h4; cases h4
  · intro h
    exact List.mem_of_getElem? h

set_option maxHeartbeats 8000000 in
set_option maxRecDepth 100000 in
theorem bsf_any (a : Option Addr) (len cap : Nat) (O : List Spt) (t : Spt) (w : World) (h : Fls w a len O) (hr : RiseS O) (hm : len ≤ 1000) :
    Calls Tryd.prog 39 #[.slice a len cap, .agg #[.string t.nm, .int .i64 t.ix], .func (.func 36) #[] #[]] w fun e w' => ∃ i : Nat, e = .returned (.tuple #[.int .i64 (i : Int), .bool (inS O t)]) ∧ Below w.heap.size w w' := by
  have HL := hidn h.1
  have H := hidn h
  have HRI := hidn hr
  obtain ⟨fin, hfin⟩ : ∃ fin, fin = inS O t := ⟨_, rfl⟩
  rw [← hfin]
  have HFIN := hidn hfin
  obtain ⟨w1, hw1⟩ : ∃ w1, w1 = w.alloc (.cells #[.string t.nm, .int .i64 t.ix] 25) := ⟨_, rfl⟩
  have b1 : Below w.heap.size w w1 := by rw [hw1]; exact (Below.refl _ w).alloc (Nat.le_refl _) _
  have q1 : w1.heap[w.heap.size]? = some (.cells #[.string t.nm, .int .i64 t.ix] 25 (0, 0)) := by rw [hw1]; exact heap_alloc_new w _
  have HW1 := hidn hw1
  have HB1 := hidn b1
  have HQ1 := hidn q1
  clear h hr hfin hw1 b1 q1
  go_enter Tryd.func39, Tryd.ntmps39
  go_wp2_with fail
  rw [← HW1.out]
  go_loopw [9, 10] (fun iv jv wr => ∃ i j : Nat, i ≤ j ∧ j ≤ len ∧ iv = .int .i64 (i : Int) ∧ jv = .int .i64 (j : Int) ∧ Hid (Below w1.heap.size w1 wr) ∧ Hid (∀ k x, k < i → O[k]? = some x → lessS x t = true) ∧ Hid (∀ k x, j ≤ k → O[k]? = some x → lessS x t = false)) (fun iv jv _ => (intOf jv).toNat - (intOf iv).toNat)
  case atStart => exact ⟨0, len, Nat.zero_le _, Nat.le_refl _, rfl, rfl, hidn (Below.refl _ _), hidn (fun k x hk => by omega), hidn (fun k x hk hx => by have := (List.getElem?_eq_some_iff.1 hx).1; rw [HL.out] at this; omega)⟩
  case round =>
    obtain ⟨i, j, hij, hjn, rfl, rfl, HB, HLO, HHI⟩ := hrel
    obtain ⟨wo, hwo⟩ : ∃ wo, wo = wr := ⟨_, rfl⟩
    subst hwo
    have hs1 : w.heap.size < w1.heap.size := (Array.getElem?_eq_some_iff.1 HQ1.out).1
    have HQo := hidn ((HB.out.block _ hs1).trans HQ1.out)
    have HFo := hidn (H.out.below (HB1.out.trans (HB.out.mono HB1.out.size)))
    by_cases hlt : i < j
    · have hlt2 : (i : Int) < (j : Int) := by omega
      obtain ⟨hh, hhe⟩ : ∃ hh, hh = (i + j) / 2 := ⟨_, rfl⟩
      have hsh : ((i : Int) + (j : Int)) / 2 = (hh : Int) := by omega
      have hhl : hh < len := by omega
      have hhi : i ≤ hh := by omega
      have hhj : hh < j := by omega
      obtain ⟨x, hx⟩ : ∃ x, O[hh]? = some x := ⟨_, List.getElem?_eq_getElem (by rw [HL.out]; exact hhl)⟩
      obtain ⟨b, off, rfl, hb, c0, c1, _⟩ := HFo.out.at hx
      have HRD : Hid (∀ w', Below wo.heap.size wo w' → w'.cell? ⟨b, off + hh * 2, none⟩ = some (.string x.nm) ∧ w'.cell? ⟨b, off + hh * 2 + 1, none⟩ = some (.int .i64 x.ix) ∧ w'.cell? ⟨w.heap.size, 0, none⟩ = some (.string t.nm) ∧ w'.cell? ⟨w.heap.size, 1, none⟩ = some (.int .i64 t.ix)) := hidn (fun w' hbb => by
        have q9 := (hbb.block _ (Array.getElem?_eq_some_iff.1 HQo.out).1).trans HQo.out
        exact ⟨(hbb.cell (block_lt_of_cell c0)).trans c0, (hbb.cell (block_lt_of_cell c1)).trans c1, cell_of_row _ _ _ _ _ _ q9, cell_of_row _ _ _ _ _ _ q9⟩)
      obtain ⟨cp, hcp⟩ : ∃ cp, cp = cmpP x t := ⟨_, rfl⟩
      have HCP := hidn (cmpS_call x t wo.drew)
      rw [← hcp] at HCP
      have HCE := hidn hcp
      have HXO := hidn hx
      clear c0 c1 hx hcp hhe
      by_cases hc : cp < 0
      · have HLS : Hid (lessS x t = true) := hidn ((cmpP_less x t).1 (by rw [← HCE.out]; exact hc))
        have HLO2 : Hid (∀ k x, k < hh + 1 → O[k]? = some x → lessS x t = true) := hidn (fun k y hk hy => by
          by_cases hkh : k = hh
          · subst hkh; rw [HXO.out] at hy; cases hy; exact HLS.out
          · have hkl : k < O.length := (List.getElem?_eq_some_iff.1 hy).1
            have hhl2 : hh < O.length := (List.getElem?_eq_some_iff.1 HXO.out).1
            have h5 := (List.pairwise_iff_getElem.1 HRI.out) k hh hkl hhl2 (by omega)
            rw [(List.getElem?_eq_some_iff.1 hy).2, (List.getElem?_eq_some_iff.1 HXO.out).2] at h5
            exact lessS_trans h5 HLS.out)
        go_wp2_with fail
        refine wp_region_noPanic ?_
        refine wp_region_held_drew (S := fun w' => Below wo.heap.size wo w') (by kernel_rfl) ((Below.refl _ wo).drew) (fun hHeld => ?_)
        refine drawn_take (i := 0) (v := .func (.func 36) #[] #[]) (some 24) rfl rfl (by kernel_rfl) (by kernel_rfl) (by kernel_rfl) (fun _ _ _ h => h) (Or.inl ⟨by kernel_rfl, fun wq hw => by go_simp⟩) hHeld ?_
        simp only [Act.put, List.setIfInBounds_toArray, List.set_cons_succ, List.set_cons_zero]
        refine drawn_take (i := 1) (v := .slice (some ⟨b, off, none⟩) len cap) (some 25) rfl rfl (by kernel_rfl) (by kernel_rfl) (by kernel_rfl) (fun _ _ _ h => h) (Or.inl ⟨by kernel_rfl, fun wq hw => by go_simp⟩) hHeld ?_
        simp only [Act.put, List.setIfInBounds_toArray, List.set_cons_succ, List.set_cons_zero]
        refine drawn_take (i := 2) (v := .int .i64 (hh : Int)) (some 26) rfl rfl (by kernel_rfl) (by kernel_rfl) (by kernel_rfl) (fun _ _ _ h => h) (Or.inl ⟨by kernel_rfl, fun wq hw => by go_simp⟩) hHeld ?_
        simp only [Act.put, List.setIfInBounds_toArray, List.set_cons_succ, List.set_cons_zero]
        refine drawn_take (i := 3) (v := .pointer (some ⟨b, off + hh * 2, none⟩)) (some 27) rfl rfl (by kernel_rfl) (by kernel_rfl) (by kernel_rfl) (fun _ _ _ h => h) (Or.inl ⟨by kernel_rfl, fun wq hw => by go_simp <;> (intro h8; exfalso; omega)⟩) hHeld ?_
        simp only [Act.put, List.setIfInBounds_toArray, List.set_cons_succ, List.set_cons_zero]
        refine drawn_take (i := 4) (v := .agg #[.string x.nm, .int .i64 x.ix]) (some 28) rfl rfl (by kernel_rfl) (by kernel_rfl) (by kernel_rfl) (fun _ _ _ h => h) (Or.inl ⟨by kernel_rfl, fun wq hw => by obtain ⟨q1, q2, q3, q4⟩ := HRD.out _ hw; go_simp⟩) hHeld ?_
        simp only [Act.put, List.setIfInBounds_toArray, List.set_cons_succ, List.set_cons_zero]
        refine drawn_take (i := 5) (v := .agg #[.string t.nm, .int .i64 t.ix]) (some 29) rfl rfl (by kernel_rfl) (by kernel_rfl) (by kernel_rfl) (fun _ _ _ h => h) (Or.inl ⟨by kernel_rfl, fun wq hw => by obtain ⟨q1, q2, q3, q4⟩ := HRD.out _ hw; go_simp⟩) hHeld ?_
        simp only [Act.put, List.setIfInBounds_toArray, List.set_cons_succ, List.set_cons_zero]
        refine wpAnyH_ready (rs := [6]) (by kernel_rfl) (by simp) ?_
        refine rdy_callw (i := 6) rfl (by kernel_rfl) (some 30) rfl 36 #[.agg #[.string x.nm, .int .i64 x.ix], .agg #[.string t.nm, .int .i64 t.ix]] (callV2 (z := 24) (x := 28) (y := 29) rfl (fun _ _ => rfl) (by kernel_rfl) (by kernel_rfl) (by kernel_rfl)) (fun r w9 => r = .int .i64 cp ∧ Below wo.heap.size wo w9) (HCP.out.mono (by rintro e w9 ⟨rfl, h9⟩; exact ⟨_, rfl, rfl, ((Below.refl _ wo).drew).trans h9⟩)) (fun r w9 hR => ?_) rdy_nil
        obtain ⟨rfl, h9⟩ := hR
        refine ⟨h9, fun hHeld => ?_⟩
        simp only [Act.put, List.setIfInBounds_toArray, List.set_cons_succ, List.set_cons_zero]
        refine drawn_take (i := 7) (v := .bool true) (some 31) rfl rfl (by kernel_rfl) (by kernel_rfl) (by kernel_rfl) (fun _ _ _ h => h) (Or.inl ⟨by kernel_rfl, fun wq hw => by go_simp <;> omega⟩) hHeld ?_
        simp only [Act.put, List.setIfInBounds_toArray, List.set_cons_succ, List.set_cons_zero]
        refine wpAnyH_done (by kernel_rfl) ?_ _
        refine NoPanic.normal ?_
        clear hHeld
        have HB9 := hidn (HB.out.trans (h9.mono HB.out.size))
        clear h9
        go_wp2_with fail
        go_roundw
        case rel => first | exact ⟨hh + 1, j, by omega, hjn, by first | rfl | simp, rfl, HB9, HLO2, HHI⟩ | (repeat apply Exists.intro; exact ⟨⟨hh + 1, j, by omega, hjn, by first | rfl | simp, rfl, HB9, HLO2, HHI⟩, rfl⟩)
        case measure => simp [intOf]; omega
      · have HLS : Hid (lessS x t = false) := hidn (by
          rw [Bool.eq_false_iff]; intro h2
          have := (cmpP_less x t).2 h2
          rw [← HCE.out] at this
          exact hc this)
        have HHI2 : Hid (∀ k x, hh ≤ k → O[k]? = some x → lessS x t = false) := hidn (fun k y hk hy => by
          by_cases hkh : k = hh
          · subst hkh; rw [HXO.out] at hy; cases hy; exact HLS.out
          · have hkl : k < O.length := (List.getElem?_eq_some_iff.1 hy).1
            have hhl2 : hh < O.length := (List.getElem?_eq_some_iff.1 HXO.out).1
            have h5 := (List.pairwise_iff_getElem.1 HRI.out) hh k hhl2 hkl (by omega)
            rw [(List.getElem?_eq_some_iff.1 hy).2, (List.getElem?_eq_some_iff.1 HXO.out).2] at h5
            rw [Bool.eq_false_iff]; intro h6
            have := lessS_trans h5 h6
            rw [HLS.out] at this; cases this)
        go_wp2_with fail
        refine wp_region_noPanic ?_
        refine wp_region_held_drew (S := fun w' => Below wo.heap.size wo w') (by kernel_rfl) ((Below.refl _ wo).drew) (fun hHeld => ?_)
        refine drawn_take (i := 0) (v := .func (.func 36) #[] #[]) (some 24) rfl rfl (by kernel_rfl) (by kernel_rfl) (by kernel_rfl) (fun _ _ _ h => h) (Or.inl ⟨by kernel_rfl, fun wq hw => by go_simp⟩) hHeld ?_
        simp only [Act.put, List.setIfInBounds_toArray, List.set_cons_succ, List.set_cons_zero]
        refine drawn_take (i := 1) (v := .slice (some ⟨b, off, none⟩) len cap) (some 25) rfl rfl (by kernel_rfl) (by kernel_rfl) (by kernel_rfl) (fun _ _ _ h => h) (Or.inl ⟨by kernel_rfl, fun wq hw => by go_simp⟩) hHeld ?_
        simp only [Act.put, List.setIfInBounds_toArray, List.set_cons_succ, List.set_cons_zero]
        refine drawn_take (i := 2) (v := .int .i64 (hh : Int)) (some 26) rfl rfl (by kernel_rfl) (by kernel_rfl) (by kernel_rfl) (fun _ _ _ h => h) (Or.inl ⟨by kernel_rfl, fun wq hw => by go_simp⟩) hHeld ?_
        simp only [Act.put, List.setIfInBounds_toArray, List.set_cons_succ, List.set_cons_zero]
        refine drawn_take (i := 3) (v := .pointer (some ⟨b, off + hh * 2, none⟩)) (some 27) rfl rfl (by kernel_rfl) (by kernel_rfl) (by kernel_rfl) (fun _ _ _ h => h) (Or.inl ⟨by kernel_rfl, fun wq hw => by go_simp <;> (intro h8; exfalso; omega)⟩) hHeld ?_
        simp only [Act.put, List.setIfInBounds_toArray, List.set_cons_succ, List.set_cons_zero]
        refine drawn_take (i := 4) (v := .agg #[.string x.nm, .int .i64 x.ix]) (some 28) rfl rfl (by kernel_rfl) (by kernel_rfl) (by kernel_rfl) (fun _ _ _ h => h) (Or.inl ⟨by kernel_rfl, fun wq hw => by obtain ⟨q1, q2, q3, q4⟩ := HRD.out _ hw; go_simp⟩) hHeld ?_
        simp only [Act.put, List.setIfInBounds_toArray, List.set_cons_succ, List.set_cons_zero]
        refine drawn_take (i := 5) (v := .agg #[.string t.nm, .int .i64 t.ix]) (some 29) rfl rfl (by kernel_rfl) (by kernel_rfl) (by kernel_rfl) (fun _ _ _ h => h) (Or.inl ⟨by kernel_rfl, fun wq hw => by obtain ⟨q1, q2, q3, q4⟩ := HRD.out _ hw; go_simp⟩) hHeld ?_
        simp only [Act.put, List.setIfInBounds_toArray, List.set_cons_succ, List.set_cons_zero]
        refine wpAnyH_ready (rs := [6]) (by kernel_rfl) (by simp) ?_
        refine rdy_callw (i := 6) rfl (by kernel_rfl) (some 30) rfl 36 #[.agg #[.string x.nm, .int .i64 x.ix], .agg #[.string t.nm, .int .i64 t.ix]] (callV2 (z := 24) (x := 28) (y := 29) rfl (fun _ _ => rfl) (by kernel_rfl) (by kernel_rfl) (by kernel_rfl)) (fun r w9 => r = .int .i64 cp ∧ Below wo.heap.size wo w9) (HCP.out.mono (by rintro e w9 ⟨rfl, h9⟩; exact ⟨_, rfl, rfl, ((Below.refl _ wo).drew).trans h9⟩)) (fun r w9 hR => ?_) rdy_nil
        obtain ⟨rfl, h9⟩ := hR
        refine ⟨h9, fun hHeld => ?_⟩
        simp only [Act.put, List.setIfInBounds_toArray, List.set_cons_succ, List.set_cons_zero]
        refine drawn_take (i := 7) (v := .bool false) (some 31) rfl rfl (by kernel_rfl) (by kernel_rfl) (by kernel_rfl) (fun _ _ _ h => h) (Or.inl ⟨by kernel_rfl, fun wq hw => by go_simp <;> omega⟩) hHeld ?_
        simp only [Act.put, List.setIfInBounds_toArray, List.set_cons_succ, List.set_cons_zero]
        refine wpAnyH_done (by kernel_rfl) ?_ _
        refine NoPanic.normal ?_
        clear hHeld
        have HB9 := hidn (HB.out.trans (h9.mono HB.out.size))
        clear h9
        go_wp2_with fail
        go_roundw
        case rel => first | exact ⟨i, hh, by omega, by omega, rfl, by first | rfl | simp, HB9, HLO, HHI2⟩ | (repeat apply Exists.intro; exact ⟨⟨i, hh, by omega, by omega, rfl, by first | rfl | simp, HB9, HLO, HHI2⟩, rfl⟩)
        case measure => simp [intOf]; omega
    · obtain rfl : i = j := by omega
      have hlt2 : ¬ (i : Int) < (i : Int) := by omega
      have HFI := hidn (found_iff HRI.out HLO.out HHI.out)
      by_cases hil : i < len
      · obtain ⟨x, hx⟩ : ∃ x, O[i]? = some x := ⟨_, List.getElem?_eq_getElem (by rw [HL.out]; exact hil)⟩
        obtain ⟨b, off, rfl, hb, c0, c1, _⟩ := HFo.out.at hx
        have HRD : Hid (∀ w', Below wo.heap.size wo w' → w'.cell? ⟨b, off + i * 2, none⟩ = some (.string x.nm) ∧ w'.cell? ⟨b, off + i * 2 + 1, none⟩ = some (.int .i64 x.ix) ∧ w'.cell? ⟨w.heap.size, 0, none⟩ = some (.string t.nm) ∧ w'.cell? ⟨w.heap.size, 1, none⟩ = some (.int .i64 t.ix)) := hidn (fun w' hbb => by
          have q9 := (hbb.block _ (Array.getElem?_eq_some_iff.1 HQo.out).1).trans HQo.out
          exact ⟨(hbb.cell (block_lt_of_cell c0)).trans c0, (hbb.cell (block_lt_of_cell c1)).trans c1, cell_of_row _ _ _ _ _ _ q9, cell_of_row _ _ _ _ _ _ q9⟩)
        obtain ⟨cp, hcp⟩ : ∃ cp, cp = cmpP x t := ⟨_, rfl⟩
        have HCP := hidn (cmpS_call x t wo.drew)
        rw [← hcp] at HCP
        have HCE := hidn hcp
        have HXO := hidn hx
        have hil2 : (i : Int) < (len : Int) := by omega
        clear c0 c1 hx hcp hlt
        by_cases hc : cp = 0
        · have HT : Hid (fin = true) := hidn (by rw [HFIN.out, HFI.out, HXO.out, (cmpP_zero x t).1 (by rw [← HCE.out]; exact hc)])
          go_wp2_with fail
          refine wp_region_noPanic ?_
          refine wp_region_held_drew (S := fun w' => Below wo.heap.size wo w') (by kernel_rfl) ((Below.refl _ wo).drew) (fun hHeld => ?_)
          refine drawn_take (i := 0) (v := .int .i64 (i : Int)) (some 35) rfl rfl (by kernel_rfl) (by kernel_rfl) (by kernel_rfl) (fun _ _ _ h => h) (Or.inl ⟨by kernel_rfl, fun wq hw => by go_simp⟩) hHeld ?_
          simp only [Act.put, List.setIfInBounds_toArray, List.set_cons_succ, List.set_cons_zero]
          refine drawn_take (i := 1) (v := .int .i64 (i : Int)) (some 36) rfl rfl (by kernel_rfl) (by kernel_rfl) (by kernel_rfl) (fun _ _ _ h => h) (Or.inl ⟨by kernel_rfl, fun wq hw => by go_simp⟩) hHeld ?_
          simp only [Act.put, List.setIfInBounds_toArray, List.set_cons_succ, List.set_cons_zero]
          refine drawn_take (i := 2) (v := .int .i64 (len : Int)) (some 37) rfl rfl (by kernel_rfl) (by kernel_rfl) (by kernel_rfl) (fun _ _ _ h => h) (Or.inl ⟨by kernel_rfl, fun wq hw => by go_simp⟩) hHeld ?_
          simp only [Act.put, List.setIfInBounds_toArray, List.set_cons_succ, List.set_cons_zero]
          refine drawn_take (i := 3) (v := .bool true) (some 38) rfl rfl (by kernel_rfl) (by kernel_rfl) (by kernel_rfl) (fun _ _ _ h => h) (Or.inl ⟨by kernel_rfl, fun wq hw => by go_simp <;> omega⟩) hHeld ?_
          simp only [Act.put, List.setIfInBounds_toArray, List.set_cons_succ, List.set_cons_zero]
          refine drawn_take (i := 4) (v := .bool true) (some 39) rfl rfl (by kernel_rfl) (by kernel_rfl) (by kernel_rfl) (fun _ _ _ h => h) (Or.inl ⟨by kernel_rfl, fun wq hw => by go_simp⟩) hHeld ?_
          simp only [Act.put, List.setIfInBounds_toArray, List.set_cons_succ, List.set_cons_zero]
          refine drawn_take (i := 5) (v := .func (.func 36) #[] #[]) (some 40) rfl rfl (by kernel_rfl) (by kernel_rfl) (by kernel_rfl) (fun _ _ _ h => h) (Or.inl ⟨by kernel_rfl, fun wq hw => by go_simp⟩) hHeld ?_
          simp only [Act.put, List.setIfInBounds_toArray, List.set_cons_succ, List.set_cons_zero]
          refine drawn_take (i := 6) (v := .slice (some ⟨b, off, none⟩) len cap) (some 41) rfl rfl (by kernel_rfl) (by kernel_rfl) (by kernel_rfl) (fun _ _ _ h => h) (Or.inl ⟨by kernel_rfl, fun wq hw => by go_simp⟩) hHeld ?_
          simp only [Act.put, List.setIfInBounds_toArray, List.set_cons_succ, List.set_cons_zero]
          refine drawn_take (i := 7) (v := .int .i64 (i : Int)) (some 42) rfl rfl (by kernel_rfl) (by kernel_rfl) (by kernel_rfl) (fun _ _ _ h => h) (Or.inl ⟨by kernel_rfl, fun wq hw => by go_simp⟩) hHeld ?_
          simp only [Act.put, List.setIfInBounds_toArray, List.set_cons_succ, List.set_cons_zero]
          refine drawn_take (i := 8) (v := .pointer (some ⟨b, off + i * 2, none⟩)) (some 43) rfl rfl (by kernel_rfl) (by kernel_rfl) (by kernel_rfl) (fun _ _ _ h => h) (Or.inl ⟨by kernel_rfl, fun wq hw => by go_simp <;> (intro h8; exfalso; omega)⟩) hHeld ?_
          simp only [Act.put, List.setIfInBounds_toArray, List.set_cons_succ, List.set_cons_zero]
          refine drawn_take (i := 9) (v := .agg #[.string x.nm, .int .i64 x.ix]) (some 44) rfl rfl (by kernel_rfl) (by kernel_rfl) (by kernel_rfl) (fun _ _ _ h => h) (Or.inl ⟨by kernel_rfl, fun wq hw => by obtain ⟨q1, q2, q3, q4⟩ := HRD.out _ hw; go_simp⟩) hHeld ?_
          simp only [Act.put, List.setIfInBounds_toArray, List.set_cons_succ, List.set_cons_zero]
          refine drawn_take (i := 10) (v := .agg #[.string t.nm, .int .i64 t.ix]) (some 45) rfl rfl (by kernel_rfl) (by kernel_rfl) (by kernel_rfl) (fun _ _ _ h => h) (Or.inl ⟨by kernel_rfl, fun wq hw => by obtain ⟨q1, q2, q3, q4⟩ := HRD.out _ hw; go_simp⟩) hHeld ?_
          simp only [Act.put, List.setIfInBounds_toArray, List.set_cons_succ, List.set_cons_zero]
          refine wpAnyH_ready (rs := [11]) (by kernel_rfl) (by simp) ?_
          refine rdy_callw (i := 11) rfl (by kernel_rfl) (some 46) rfl 36 #[.agg #[.string x.nm, .int .i64 x.ix], .agg #[.string t.nm, .int .i64 t.ix]] (callV2 (z := 40) (x := 44) (y := 45) rfl (fun _ _ => rfl) (by kernel_rfl) (by kernel_rfl) (by kernel_rfl)) (fun r w9 => r = .int .i64 cp ∧ Below wo.heap.size wo w9) (HCP.out.mono (by rintro e w9 ⟨rfl, h9⟩; exact ⟨_, rfl, rfl, ((Below.refl _ wo).drew).trans h9⟩)) (fun r w9 hR => ?_) rdy_nil
          obtain ⟨rfl, h9⟩ := hR
          refine ⟨h9, fun hHeld => ?_⟩
          simp only [Act.put, List.setIfInBounds_toArray, List.set_cons_succ, List.set_cons_zero]
          refine drawn_take (i := 12) (v := .bool true) (some 47) rfl rfl (by kernel_rfl) (by kernel_rfl) (by kernel_rfl) (fun _ _ _ h => h) (Or.inl ⟨by kernel_rfl, fun wq hw => by go_simp <;> omega⟩) hHeld ?_
          simp only [Act.put, List.setIfInBounds_toArray, List.set_cons_succ, List.set_cons_zero]
          refine drawn_take (i := 13) (v := .bool true) (some 48) rfl rfl (by kernel_rfl) (by kernel_rfl) (by kernel_rfl) (fun _ _ _ h => h) (Or.inl ⟨by kernel_rfl, fun wq hw => by go_simp⟩) hHeld ?_
          simp only [Act.put, List.setIfInBounds_toArray, List.set_cons_succ, List.set_cons_zero]
          refine drawn_take (i := 14) (v := .int .i64 (i : Int)) (some 6) rfl rfl (by kernel_rfl) (by kernel_rfl) (by kernel_rfl) (fun _ _ _ h => h) (Or.inl ⟨by kernel_rfl, fun wq hw => by go_simp⟩) hHeld ?_
          simp only [Act.put, List.setIfInBounds_toArray, List.set_cons_succ, List.set_cons_zero]
          refine drawn_take (i := 15) (v := .bool true) (some 7) rfl rfl (by kernel_rfl) (by kernel_rfl) (by kernel_rfl) (fun _ _ _ h => h) (Or.inl ⟨by kernel_rfl, fun wq hw => by go_simp⟩) hHeld ?_
          simp only [Act.put, List.setIfInBounds_toArray, List.set_cons_succ, List.set_cons_zero]
          refine wpAnyH_done (by kernel_rfl) ?_ _
          refine NoPanic.normal ?_
          clear hHeld
          have HB9 := hidn (HB.out.trans (h9.mono HB.out.size))
          clear h9
          go_wp2_with fail
          exact bodyPost_ret (v := .tuple #[.int .i64 (i : Int), .bool true]) (by simp [results, Tryd.results39, go_sem]) rfl ⟨i, by rw [HT.out], HB1.out.trans (HB9.out.mono HB1.out.size)⟩
        · have HT : Hid (fin = false) := hidn (by
            rw [HFIN.out, Bool.eq_false_iff, Ne, HFI.out, HXO.out]
            intro h8
            injection h8 with h8
            exact hc (by rw [HCE.out]; exact (cmpP_zero x t).2 h8))
          go_wp2_with fail
          refine wp_region_noPanic ?_
          refine wp_region_held_drew (S := fun w' => Below wo.heap.size wo w') (by kernel_rfl) ((Below.refl _ wo).drew) (fun hHeld => ?_)
          refine drawn_take (i := 0) (v := .int .i64 (i : Int)) (some 35) rfl rfl (by kernel_rfl) (by kernel_rfl) (by kernel_rfl) (fun _ _ _ h => h) (Or.inl ⟨by kernel_rfl, fun wq hw => by go_simp⟩) hHeld ?_
          simp only [Act.put, List.setIfInBounds_toArray, List.set_cons_succ, List.set_cons_zero]
          refine drawn_take (i := 1) (v := .int .i64 (i : Int)) (some 36) rfl rfl (by kernel_rfl) (by kernel_rfl) (by kernel_rfl) (fun _ _ _ h => h) (Or.inl ⟨by kernel_rfl, fun wq hw => by go_simp⟩) hHeld ?_
          simp only [Act.put, List.setIfInBounds_toArray, List.set_cons_succ, List.set_cons_zero]
          refine drawn_take (i := 2) (v := .int .i64 (len : Int)) (some 37) rfl rfl (by kernel_rfl) (by kernel_rfl) (by kernel_rfl) (fun _ _ _ h => h) (Or.inl ⟨by kernel_rfl, fun wq hw => by go_simp⟩) hHeld ?_
          simp only [Act.put, List.setIfInBounds_toArray, List.set_cons_succ, List.set_cons_zero]
          refine drawn_take (i := 3) (v := .bool true) (some 38) rfl rfl (by kernel_rfl) (by kernel_rfl) (by kernel_rfl) (fun _ _ _ h => h) (Or.inl ⟨by kernel_rfl, fun wq hw => by go_simp <;> omega⟩) hHeld ?_
          simp only [Act.put, List.setIfInBounds_toArray, List.set_cons_succ, List.set_cons_zero]
          refine drawn_take (i := 4) (v := .bool true) (some 39) rfl rfl (by kernel_rfl) (by kernel_rfl) (by kernel_rfl) (fun _ _ _ h => h) (Or.inl ⟨by kernel_rfl, fun wq hw => by go_simp⟩) hHeld ?_
          simp only [Act.put, List.setIfInBounds_toArray, List.set_cons_succ, List.set_cons_zero]
          refine drawn_take (i := 5) (v := .func (.func 36) #[] #[]) (some 40) rfl rfl (by kernel_rfl) (by kernel_rfl) (by kernel_rfl) (fun _ _ _ h => h) (Or.inl ⟨by kernel_rfl, fun wq hw => by go_simp⟩) hHeld ?_
          simp only [Act.put, List.setIfInBounds_toArray, List.set_cons_succ, List.set_cons_zero]
          refine drawn_take (i := 6) (v := .slice (some ⟨b, off, none⟩) len cap) (some 41) rfl rfl (by kernel_rfl) (by kernel_rfl) (by kernel_rfl) (fun _ _ _ h => h) (Or.inl ⟨by kernel_rfl, fun wq hw => by go_simp⟩) hHeld ?_
          simp only [Act.put, List.setIfInBounds_toArray, List.set_cons_succ, List.set_cons_zero]
          refine drawn_take (i := 7) (v := .int .i64 (i : Int)) (some 42) rfl rfl (by kernel_rfl) (by kernel_rfl) (by kernel_rfl) (fun _ _ _ h => h) (Or.inl ⟨by kernel_rfl, fun wq hw => by go_simp⟩) hHeld ?_
          simp only [Act.put, List.setIfInBounds_toArray, List.set_cons_succ, List.set_cons_zero]
          refine drawn_take (i := 8) (v := .pointer (some ⟨b, off + i * 2, none⟩)) (some 43) rfl rfl (by kernel_rfl) (by kernel_rfl) (by kernel_rfl) (fun _ _ _ h => h) (Or.inl ⟨by kernel_rfl, fun wq hw => by go_simp <;> (intro h8; exfalso; omega)⟩) hHeld ?_
          simp only [Act.put, List.setIfInBounds_toArray, List.set_cons_succ, List.set_cons_zero]
          refine drawn_take (i := 9) (v := .agg #[.string x.nm, .int .i64 x.ix]) (some 44) rfl rfl (by kernel_rfl) (by kernel_rfl) (by kernel_rfl) (fun _ _ _ h => h) (Or.inl ⟨by kernel_rfl, fun wq hw => by obtain ⟨q1, q2, q3, q4⟩ := HRD.out _ hw; go_simp⟩) hHeld ?_
          simp only [Act.put, List.setIfInBounds_toArray, List.set_cons_succ, List.set_cons_zero]
          refine drawn_take (i := 10) (v := .agg #[.string t.nm, .int .i64 t.ix]) (some 45) rfl rfl (by kernel_rfl) (by kernel_rfl) (by kernel_rfl) (fun _ _ _ h => h) (Or.inl ⟨by kernel_rfl, fun wq hw => by obtain ⟨q1, q2, q3, q4⟩ := HRD.out _ hw; go_simp⟩) hHeld ?_
          simp only [Act.put, List.setIfInBounds_toArray, List.set_cons_succ, List.set_cons_zero]
          refine wpAnyH_ready (rs := [11]) (by kernel_rfl) (by simp) ?_
          refine rdy_callw (i := 11) rfl (by kernel_rfl) (some 46) rfl 36 #[.agg #[.string x.nm, .int .i64 x.ix], .agg #[.string t.nm, .int .i64 t.ix]] (callV2 (z := 40) (x := 44) (y := 45) rfl (fun _ _ => rfl) (by kernel_rfl) (by kernel_rfl) (by kernel_rfl)) (fun r w9 => r = .int .i64 cp ∧ Below wo.heap.size wo w9) (HCP.out.mono (by rintro e w9 ⟨rfl, h9⟩; exact ⟨_, rfl, rfl, ((Below.refl _ wo).drew).trans h9⟩)) (fun r w9 hR => ?_) rdy_nil
          obtain ⟨rfl, h9⟩ := hR
          refine ⟨h9, fun hHeld => ?_⟩
          simp only [Act.put, List.setIfInBounds_toArray, List.set_cons_succ, List.set_cons_zero]
          refine drawn_take (i := 12) (v := .bool false) (some 47) rfl rfl (by kernel_rfl) (by kernel_rfl) (by kernel_rfl) (fun _ _ _ h => h) (Or.inl ⟨by kernel_rfl, fun wq hw => by go_simp <;> omega⟩) hHeld ?_
          simp only [Act.put, List.setIfInBounds_toArray, List.set_cons_succ, List.set_cons_zero]
          refine drawn_take (i := 13) (v := .bool false) (some 48) rfl rfl (by kernel_rfl) (by kernel_rfl) (by kernel_rfl) (fun _ _ _ h => h) (Or.inl ⟨by kernel_rfl, fun wq hw => by go_simp⟩) hHeld ?_
          simp only [Act.put, List.setIfInBounds_toArray, List.set_cons_succ, List.set_cons_zero]
          refine drawn_take (i := 14) (v := .int .i64 (i : Int)) (some 6) rfl rfl (by kernel_rfl) (by kernel_rfl) (by kernel_rfl) (fun _ _ _ h => h) (Or.inl ⟨by kernel_rfl, fun wq hw => by go_simp⟩) hHeld ?_
          simp only [Act.put, List.setIfInBounds_toArray, List.set_cons_succ, List.set_cons_zero]
          refine drawn_take (i := 15) (v := .bool false) (some 7) rfl rfl (by kernel_rfl) (by kernel_rfl) (by kernel_rfl) (fun _ _ _ h => h) (Or.inl ⟨by kernel_rfl, fun wq hw => by go_simp⟩) hHeld ?_
          simp only [Act.put, List.setIfInBounds_toArray, List.set_cons_succ, List.set_cons_zero]
          refine wpAnyH_done (by kernel_rfl) ?_ _
          refine NoPanic.normal ?_
          clear hHeld
          have HB9 := hidn (HB.out.trans (h9.mono HB.out.size))
          clear h9
          go_wp2_with fail
          exact bodyPost_ret (v := .tuple #[.int .i64 (i : Int), .bool false]) (by simp [results, Tryd.results39, go_sem]) rfl ⟨i, by rw [HT.out], HB1.out.trans (HB9.out.mono HB1.out.size)⟩
      · obtain rfl : i = len := by omega
        have HT : Hid (fin = false) := hidn (by
          rw [HFIN.out, Bool.eq_false_iff, Ne, HFI.out, List.getElem?_eq_none (by rw [HL.out]; omega)]
          intro h8; cases h8)
        clear hlt hil
        go_wp2_with fail
        refine wp_region_noPanic ?_
        refine wp_region_held_drew (S := fun w' => Below wo.heap.size wo w') (by kernel_rfl) ((Below.refl _ wo).drew) (fun hHeld => ?_)
        refine drawn_take (i := 0) (v := .int .i64 (i : Int)) (some 35) rfl rfl (by kernel_rfl) (by kernel_rfl) (by kernel_rfl) (fun _ _ _ h => h) (Or.inl ⟨by kernel_rfl, fun wq hw => by go_simp⟩) hHeld ?_
        simp only [Act.put, List.setIfInBounds_toArray, List.set_cons_succ, List.set_cons_zero]
        refine drawn_take (i := 1) (v := .int .i64 (i : Int)) (some 36) rfl rfl (by kernel_rfl) (by kernel_rfl) (by kernel_rfl) (fun _ _ _ h => h) (Or.inl ⟨by kernel_rfl, fun wq hw => by go_simp⟩) hHeld ?_
        simp only [Act.put, List.setIfInBounds_toArray, List.set_cons_succ, List.set_cons_zero]
        refine drawn_take (i := 2) (v := .int .i64 (i : Int)) (some 37) rfl rfl (by kernel_rfl) (by kernel_rfl) (by kernel_rfl) (fun _ _ _ h => h) (Or.inl ⟨by kernel_rfl, fun wq hw => by go_simp⟩) hHeld ?_
        simp only [Act.put, List.setIfInBounds_toArray, List.set_cons_succ, List.set_cons_zero]
        refine drawn_take (i := 3) (v := .bool false) (some 38) rfl rfl (by kernel_rfl) (by kernel_rfl) (by kernel_rfl) (fun _ _ _ h => h) (Or.inl ⟨by kernel_rfl, fun wq hw => by go_simp <;> omega⟩) hHeld ?_
        simp only [Act.put, List.setIfInBounds_toArray, List.set_cons_succ, List.set_cons_zero]
        refine drawn_take (i := 4) (v := .bool false) (some 39) rfl rfl (by kernel_rfl) (by kernel_rfl) (by kernel_rfl) (fun _ _ _ h => h) (Or.inl ⟨by kernel_rfl, fun wq hw => by go_simp⟩) hHeld ?_
        simp only [Act.put, List.setIfInBounds_toArray, List.set_cons_succ, List.set_cons_zero]
        refine drawn_take (i := 5) (v := undef) (some 40) rfl rfl (by kernel_rfl) (by kernel_rfl) (by kernel_rfl) (fun _ _ _ h => h) (Or.inr ⟨by kernel_rfl, rfl⟩) hHeld ?_
        simp only [Act.put, List.setIfInBounds_toArray, List.set_cons_succ, List.set_cons_zero]
        refine drawn_take (i := 6) (v := undef) (some 41) rfl rfl (by kernel_rfl) (by kernel_rfl) (by kernel_rfl) (fun _ _ _ h => h) (Or.inr ⟨by kernel_rfl, rfl⟩) hHeld ?_
        simp only [Act.put, List.setIfInBounds_toArray, List.set_cons_succ, List.set_cons_zero]
        refine drawn_take (i := 7) (v := undef) (some 42) rfl rfl (by kernel_rfl) (by kernel_rfl) (by kernel_rfl) (fun _ _ _ h => h) (Or.inr ⟨by kernel_rfl, rfl⟩) hHeld ?_
        simp only [Act.put, List.setIfInBounds_toArray, List.set_cons_succ, List.set_cons_zero]
        refine drawn_take (i := 8) (v := undef) (some 43) rfl rfl (by kernel_rfl) (by kernel_rfl) (by kernel_rfl) (fun _ _ _ h => h) (Or.inr ⟨by kernel_rfl, rfl⟩) hHeld ?_
        simp only [Act.put, List.setIfInBounds_toArray, List.set_cons_succ, List.set_cons_zero]
        refine drawn_take (i := 9) (v := undef) (some 44) rfl rfl (by kernel_rfl) (by kernel_rfl) (by kernel_rfl) (fun _ _ _ h => h) (Or.inr ⟨by kernel_rfl, rfl⟩) hHeld ?_
        simp only [Act.put, List.setIfInBounds_toArray, List.set_cons_succ, List.set_cons_zero]
        refine drawn_take (i := 10) (v := undef) (some 45) rfl rfl (by kernel_rfl) (by kernel_rfl) (by kernel_rfl) (fun _ _ _ h => h) (Or.inr ⟨by kernel_rfl, rfl⟩) hHeld ?_
        simp only [Act.put, List.setIfInBounds_toArray, List.set_cons_succ, List.set_cons_zero]
        refine drawn_take (i := 11) (v := undef) (some 46) rfl rfl (by kernel_rfl) (by kernel_rfl) (by kernel_rfl) (fun _ _ _ h => h) (Or.inr ⟨by kernel_rfl, rfl⟩) hHeld ?_
        simp only [Act.put, List.setIfInBounds_toArray, List.set_cons_succ, List.set_cons_zero]
        refine drawn_take (i := 12) (v := undef) (some 47) rfl rfl (by kernel_rfl) (by kernel_rfl) (by kernel_rfl) (fun _ _ _ h => h) (Or.inr ⟨by kernel_rfl, rfl⟩) hHeld ?_
        simp only [Act.put, List.setIfInBounds_toArray, List.set_cons_succ, List.set_cons_zero]
        refine drawn_take (i := 13) (v := .bool false) (some 48) rfl rfl (by kernel_rfl) (by kernel_rfl) (by kernel_rfl) (fun _ _ _ h => h) (Or.inl ⟨by kernel_rfl, fun wq hw => by go_simp⟩) hHeld ?_
        simp only [Act.put, List.setIfInBounds_toArray, List.set_cons_succ, List.set_cons_zero]
        refine drawn_take (i := 14) (v := .int .i64 (i : Int)) (some 6) rfl rfl (by kernel_rfl) (by kernel_rfl) (by kernel_rfl) (fun _ _ _ h => h) (Or.inl ⟨by kernel_rfl, fun wq hw => by go_simp⟩) hHeld ?_
        simp only [Act.put, List.setIfInBounds_toArray, List.set_cons_succ, List.set_cons_zero]
        refine drawn_take (i := 15) (v := .bool false) (some 7) rfl rfl (by kernel_rfl) (by kernel_rfl) (by kernel_rfl) (fun _ _ _ h => h) (Or.inl ⟨by kernel_rfl, fun wq hw => by go_simp⟩) hHeld ?_
        simp only [Act.put, List.setIfInBounds_toArray, List.set_cons_succ, List.set_cons_zero]
        refine wpAnyH_done (by kernel_rfl) ?_ _
        refine NoPanic.normal ?_
        clear hHeld
        go_wp2_with fail
        exact bodyPost_ret (v := .tuple #[.int .i64 (i : Int), .bool false]) (by simp [results, Tryd.results39, go_sem]) rfl ⟨i, by rw [HT.out], HB1.out.trans ((HB.out.drew).mono HB1.out.size)⟩
end Go.Proofs.YtidlogeeophogaaDoor.Sp
