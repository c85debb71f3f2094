/- ScrubLedger: what was added is there, and taken out is not; all else stays. -/
import Derived.Test.YtidlogeeophogaaDoorSpN
import Derived.Test.YtidlogeeophogaaDoorScD
namespace Go.Proofs.YtidlogeeophogaaDoor.Sp
open Go.RowKit Go.Joins
set_option linter.unusedVariables false
set_option linter.unusedSimpArgs false

theorem callC2 {o : Oper} {a : Act} {w : World} {f : FuncId} {x y : Nat} {vx vy : Value} {ts : Array TypeId} (ho : o.op = Op.call { callee := Callee.value (Operand.func f), args := #[.tmp x, .tmp y], argTypes := ts }) (hen : ∀ args w, (callFunc f args).run Tryd.prog w = .ok (.enter f args) w) (hx : a.eval (.tmp x) = vx) (hy : a.eval (.tmp y) = vy) : (execOp a.eval o).run Tryd.prog w = .ok (.enter f #[vx, vy]) w := by
  simp [go_sem, execOp, ho, resolve, invoke, hen]
  exact ⟨by simpa [Act.eval] using hx, by simpa [Act.eval] using hy⟩

set_option maxHeartbeats 8000000 in
set_option maxRecDepth 100000 in
theorem scrubLedger_walk (a1 a2 : Option Addr) (len1 cap1 len2 cap2 : Nat) (l1 l2 : List Spt) (w : World) (h1 : Fls w a1 len1 l1) (h2 : Fls w a2 len2 l2) (hc1 : len1 ≤ cap1) (hc2 : len2 ≤ cap2) (hn1 : a1 = none → cap1 = 0) (hn2 : a2 = none → cap2 = 0) :
    Calls Tryd.prog 4 #[.slice a1 len1 cap1, .slice a2 len2 cap2] w fun e w' => e = .returned (.bool true) ∧ Below w.heap.size w w' := by
  obtain ⟨m1, hm1⟩ : ∃ m, m = min len1 40 := ⟨_, rfl⟩
  obtain ⟨m2, hm2⟩ : ∃ m, m = min len2 40 := ⟨_, rfl⟩
  have r1 : min (len1 : Int) 40 = (m1 : Int) := by omega
  have r2 : (if (40 : Int) < (len1 : Int) then (40 : Int) else (len1 : Int)) = (m1 : Int) := by split <;> omega
  have r3 : (if 40 < len1 then (40 : Int) else (len1 : Int)) = (m1 : Int) := by split <;> omega
  have s1 : min (len2 : Int) 40 = (m2 : Int) := by omega
  have s2 : (if (40 : Int) < (len2 : Int) then (40 : Int) else (len2 : Int)) = (m2 : Int) := by split <;> omega
  have s3 : (if 40 < len2 then (40 : Int) else (len2 : Int)) = (m2 : Int) := by split <;> omega
  have hk1 : m1 ≤ cap1 := by omega
  have hk2 : m2 ≤ cap2 := by omega
  have h40 : m1 ≤ 40 := by omega
  have h41 : m2 ≤ 40 := by omega
  have H1 := hidn (h1.take m1 (by omega))
  have H2 := hidn (h2.take m2 (by omega))
  have HN1 := hidn hn1
  have HN2 := hidn hn2
  obtain ⟨k1, hkk1⟩ : ∃ k, k = l1.take m1 := ⟨_, rfl⟩
  obtain ⟨k2, hkk2⟩ : ∃ k, k = l2.take m2 := ⟨_, rfl⟩
  rw [← hkk1] at H1
  rw [← hkk2] at H2
  clear h1 h2 hn1 hn2 hm1 hm2 hkk1 hkk2
  go_enter Tryd.func4, Tryd.ntmps4
  go_wp2_with fail
  refine wp_region_noPanic ?_
  refine wp_region_held_drew (S := fun w' => Below w.heap.size w w') (by kernel_rfl) ((Below.refl _ w).drew) (fun hHeld => ?_)
  refine drawn_take (i := 0) (v := .slice a1 len1 cap1) (some 11) rfl rfl (by kernel_rfl) (by kernel_rfl) (by kernel_rfl) (fun _ _ _ h => h) (Or.inl ⟨by kernel_rfl, fun wq hw => by go_simp⟩) hHeld ?_
  simp only [Act.put, List.setIfInBounds_toArray, List.set_cons_succ, List.set_cons_zero]
  refine drawn_take (i := 1) (v := .slice a1 len1 cap1) (some 12) rfl rfl (by kernel_rfl) (by kernel_rfl) (by kernel_rfl) (fun _ _ _ h => h) (Or.inl ⟨by kernel_rfl, fun wq hw => by go_simp⟩) hHeld ?_
  simp only [Act.put, List.setIfInBounds_toArray, List.set_cons_succ, List.set_cons_zero]
  refine drawn_take (i := 2) (v := .int .i64 (len1 : Int)) (some 13) rfl rfl (by kernel_rfl) (by kernel_rfl) (by kernel_rfl) (fun _ _ _ h => h) (Or.inl ⟨by kernel_rfl, fun wq hw => by go_simp⟩) hHeld ?_
  simp only [Act.put, List.setIfInBounds_toArray, List.set_cons_succ, List.set_cons_zero]
  refine drawn_take (i := 3) (v := .int .i64 (m1 : Int)) (some 14) rfl rfl (by kernel_rfl) (by kernel_rfl) (by kernel_rfl) (fun _ _ _ h => h) (Or.inl ⟨by kernel_rfl, fun wq hw => by go_simp⟩) hHeld ?_
  simp only [Act.put, List.setIfInBounds_toArray, List.set_cons_succ, List.set_cons_zero]
  refine drawn_take (i := 4) (v := .slice a1 m1 cap1) (some 15) rfl rfl (by kernel_rfl) (by kernel_rfl) (by kernel_rfl) (fun _ _ _ h => h) (Or.inl ⟨by kernel_rfl, fun wq hw => slS_run (N := len1) (x := .tmp 11) (z := .tmp 14) rfl (by kernel_rfl) (by kernel_rfl) hk1⟩) hHeld ?_
  simp only [Act.put, List.setIfInBounds_toArray, List.set_cons_succ, List.set_cons_zero]
  refine drawn_take (i := 5) (v := .slice a2 len2 cap2) (some 16) rfl rfl (by kernel_rfl) (by kernel_rfl) (by kernel_rfl) (fun _ _ _ h => h) (Or.inl ⟨by kernel_rfl, fun wq hw => by go_simp⟩) hHeld ?_
  simp only [Act.put, List.setIfInBounds_toArray, List.set_cons_succ, List.set_cons_zero]
  refine drawn_take (i := 6) (v := .slice a2 len2 cap2) (some 17) rfl rfl (by kernel_rfl) (by kernel_rfl) (by kernel_rfl) (fun _ _ _ h => h) (Or.inl ⟨by kernel_rfl, fun wq hw => by go_simp⟩) hHeld ?_
  simp only [Act.put, List.setIfInBounds_toArray, List.set_cons_succ, List.set_cons_zero]
  refine drawn_take (i := 7) (v := .int .i64 (len2 : Int)) (some 18) rfl rfl (by kernel_rfl) (by kernel_rfl) (by kernel_rfl) (fun _ _ _ h => h) (Or.inl ⟨by kernel_rfl, fun wq hw => by go_simp⟩) hHeld ?_
  simp only [Act.put, List.setIfInBounds_toArray, List.set_cons_succ, List.set_cons_zero]
  refine drawn_take (i := 8) (v := .int .i64 (m2 : Int)) (some 19) rfl rfl (by kernel_rfl) (by kernel_rfl) (by kernel_rfl) (fun _ _ _ h => h) (Or.inl ⟨by kernel_rfl, fun wq hw => by go_simp⟩) hHeld ?_
  simp only [Act.put, List.setIfInBounds_toArray, List.set_cons_succ, List.set_cons_zero]
  refine drawn_take (i := 9) (v := .slice a2 m2 cap2) (some 20) rfl rfl (by kernel_rfl) (by kernel_rfl) (by kernel_rfl) (fun _ _ _ h => h) (Or.inl ⟨by kernel_rfl, fun wq hw => slS_run (N := len2) (x := .tmp 16) (z := .tmp 19) rfl (by kernel_rfl) (by kernel_rfl) hk2⟩) hHeld ?_
  simp only [Act.put, List.setIfInBounds_toArray, List.set_cons_succ, List.set_cons_zero]
  refine drawn_take (i := 10) (v := .slice a1 m1 cap1) (some 0) rfl rfl (by kernel_rfl) (by kernel_rfl) (by kernel_rfl) (fun _ _ _ h => h) (Or.inl ⟨by kernel_rfl, fun wq hw => by go_simp⟩) hHeld ?_
  simp only [Act.put, List.setIfInBounds_toArray, List.set_cons_succ, List.set_cons_zero]
  refine drawn_take (i := 11) (v := .slice a2 m2 cap2) (some 1) rfl rfl (by kernel_rfl) (by kernel_rfl) (by kernel_rfl) (fun _ _ _ h => h) (Or.inl ⟨by kernel_rfl, fun wq hw => by go_simp⟩) hHeld ?_
  simp only [Act.put, List.setIfInBounds_toArray, List.set_cons_succ, List.set_cons_zero]
  refine wpAnyH_done (by kernel_rfl) ?_ _
  refine NoPanic.normal ?_
  clear hHeld
  obtain ⟨w0, hw0⟩ : ∃ w0, w0 = w.drew := ⟨_, rfl⟩
  rw [← hw0]
  have HB0 : Hid (Below w.heap.size w w0) := hidn (by rw [hw0]; exact (Below.refl _ w).drew)
  have HK := hidn (note_any a1 a2 m1 cap1 m2 cap2 k1 k2 true w0 (H1.out.below HB0.out) (H2.out.below HB0.out) (by omega) (by omega) HN1.out HN2.out)
  clear hw0 r1 r2 r3 s1 s2 s3
  go_wp2_with fail
  refine HK.out.mono ?_
  rintro e w3 ⟨v3, M, rfl, hr3, hx3, hle3, ho3, b3⟩
  have HB3 := hidn (HB0.out.trans (b3.mono HB0.out.size))
  obtain ⟨x4, c4, rfl, hf3, _⟩ := fls_of_own ho3 rfl
  have HMM : Hid (∀ x, x ∈ M ↔ x ∈ k1 ∨ x ∈ k2) := hidn (fun x => by rw [hx3 x]; simp [NoteM])
  have hMle : M.length ≤ m1 + m2 := by simpa using hle3
  have HFM := hidn hf3
  have HK2 := hidn (note_any x4 a2 M.length c4 m2 cap2 M k2 false w3 hf3 (H2.out.below HB3.out) (by omega) (by omega) (own_cap ho3) HN2.out)
  clear b3 ho3 hf3 hr3 hx3 hle3 HK
  go_wp2_with fail
  refine HK2.out.mono ?_
  rintro e w4 ⟨v4, N, rfl, hr4, hx4, hle4, ho4, b4⟩
  have HB4 := hidn (HB3.out.trans (b4.mono HB3.out.size))
  obtain ⟨x5, c5, rfl, hf4, _⟩ := fls_of_own ho4 rfl
  have HNN : Hid (∀ x, x ∈ N ↔ x ∈ M ∧ x ∉ k2) := hidn (fun x => by rw [hx4 x]; simp [NoteM])
  have hNle : N.length ≤ M.length := by simpa using hle4
  have HFM4 := hidn (HFM.out.below b4)
  have HFN4 := hidn hf4
  have HL1 := hidn H1.out.1
  have HL2 := hidn H2.out.1
  clear b4 ho4 hf4 hr4 hx4 hle4 HK2 HFM
  go_wp2_with fail
  go_loopw [29] (fun iv wr => ∃ k : Nat, k ≤ m2 ∧ iv = .int .i64 (k : Int) ∧ Hid (Below w4.heap.size w4 wr)) (fun iv _ => m2 - (intOf iv).toNat)
  case atStart => exact ⟨0, Nat.zero_le _, rfl, hidn (Below.refl _ _)⟩
  case round =>
    obtain ⟨k, hk, rfl, HB⟩ := hrel
    obtain ⟨wo, hwo⟩ : ∃ wo, wo = wr := ⟨_, rfl⟩
    subst hwo
    by_cases hlt : k < m2
    · have hlt2 : (k : Int) < (m2 : Int) := by omega
      obtain ⟨s, hs⟩ : ∃ s, k2[k]? = some s := ⟨_, List.getElem?_eq_getElem (by rw [HL2.out]; exact hlt)⟩
      obtain ⟨b, off, hba, hb, c0, c1, _⟩ := (H2.out.below (HB4.out.trans (HB.out.mono HB4.out.size))).at hs
      subst hba
      have hmem : s ∈ k2 := List.mem_of_getElem? hs
      have HT1 : Hid (inS M s = true) := hidn ((inS_mem M s).2 ((HMM.out s).2 (.inr hmem)))
      have HT2 : Hid (inS N s = false) := hidn (by rw [Bool.eq_false_iff, Ne, inS_mem, HNN.out s]; exact fun h => h.2 hmem)
      obtain ⟨w5, hw5⟩ : ∃ w5, w5 = wo.alloc (.cells #[.string s.nm, .int .i64 s.ix] 25) := ⟨_, rfl⟩
      have b5 : Below wo.heap.size wo w5 := by rw [hw5]; exact (Below.refl _ wo).alloc (Nat.le_refl _) _
      have q5 : w5.heap[wo.heap.size]? = some (.cells #[.string s.nm, .int .i64 s.ix] 25 (0, 0)) := by rw [hw5]; exact heap_alloc_new wo _
      have HBW : Hid (Below w4.heap.size w4 w5) := hidn (HB.out.trans (b5.mono HB.out.size))
      have HW5 := hidn hw5
      have HQ5 := hidn q5
      have HC1 := hidn (containsS_any x4 M.length c4 M s w5 (HFM4.out.below HBW.out) (by omega))
      rw [HT1.out] at HC1
      clear hs hw5 b5 q5 hmem
      go_wp2_with fail
      rw [← HW5.out]
      have e0 : w5.cell? ⟨wo.heap.size, 0, none⟩ = some (.string s.nm) := cell_of_row _ _ _ _ _ _ HQ5.out
      have e1 : w5.cell? ⟨wo.heap.size, 1, none⟩ = some (.int .i64 s.ix) := cell_of_row _ _ _ _ _ _ HQ5.out
      refine HC1.out.mono ?_
      rintro e w6 ⟨rfl, b6⟩
      have HBX := hidn (HBW.out.trans (b6.mono HBW.out.size))
      have q6 := (b6.block _ (Array.getElem?_eq_some_iff.1 HQ5.out).1).trans HQ5.out
      have z0 : w6.cell? ⟨wo.heap.size, 0, none⟩ = some (.string s.nm) := cell_of_row _ _ _ _ _ _ q6
      have z1 : w6.cell? ⟨wo.heap.size, 1, none⟩ = some (.int .i64 s.ix) := cell_of_row _ _ _ _ _ _ q6
      have HC2 := hidn (containsS_any x5 N.length c5 N s w6 (HFN4.out.below HBX.out) (by omega))
      rw [HT2.out] at HC2
      clear b6 q6 e0 e1 HC1
      go_wp2_with fail
      refine HC2.out.mono ?_
      rintro e w7 ⟨rfl, b7⟩
      have HBY := hidn (HBX.out.trans (b7.mono HBX.out.size))
      clear b7 z0 z1 HC2
      go_wp2_with fail
      go_roundw
      case rel => first | exact ⟨k + 1, by omega, by first | rfl | simp, HBY⟩ | (repeat apply Exists.intro; exact ⟨⟨k + 1, by omega, by first | rfl | simp, HBY⟩, rfl⟩)
      case measure => simp [intOf]; omega
    · obtain rfl : k = m2 := by omega
      have hlt2 : ¬ (k : Int) < (k : Int) := by omega
      have HB5 := hidn (HB4.out.trans (HB.out.mono HB4.out.size))
      have HFM5 := hidn (HFM4.out.below HB.out)
      have HFN5 := hidn (HFN4.out.below HB.out)
      clear hlt HFM4 HFN4
      go_wp2_with fail
      go_loopw [45] (fun iv wr => ∃ j : Nat, j ≤ m1 ∧ iv = .int .i64 (j : Int) ∧ Hid (Below wo.heap.size wo wr)) (fun iv _ => m1 - (intOf iv).toNat)
      case atStart => exact ⟨0, Nat.zero_le _, rfl, hidn (Below.refl _ _)⟩
      case round =>
        obtain ⟨j, hj, rfl, HBJ⟩ := hrel
        obtain ⟨wp, hwp⟩ : ∃ wp, wp = wr := ⟨_, rfl⟩
        subst hwp
        by_cases hlt3 : j < m1
        · have hlt4 : (j : Int) < (m1 : Int) := by omega
          obtain ⟨s, hs⟩ : ∃ s, k1[j]? = some s := ⟨_, List.getElem?_eq_getElem (by rw [HL1.out]; exact hlt3)⟩
          obtain ⟨b, off, hba, hb, c0, c1, _⟩ := (H1.out.below (HB5.out.trans (HBJ.out.mono HB5.out.size))).at hs
          subst hba
          have hmem : s ∈ k1 := List.mem_of_getElem? hs
          have HT1 : Hid (inS M s = true) := hidn ((inS_mem M s).2 ((HMM.out s).2 (.inl hmem)))
          obtain ⟨f2, hf2⟩ : ∃ f2, f2 = inS k2 s := ⟨_, rfl⟩
          have HT2 : Hid (inS N s = !f2) := hidn (by
            have h1 := inS_mem N s
            have h2 := inS_mem k2 s
            rw [HNN.out s, HMM.out s] at h1
            rw [hf2]
            cases hq : inS k2 s with
            | true => rw [Bool.not_true, Bool.eq_false_iff, Ne, h1]; exact fun h => h.2 (h2.1 hq)
            | false => rw [Bool.not_false, h1]; exact ⟨.inl hmem, fun h => by have := h2.2 h; rw [hq] at this; cases this⟩)
          obtain ⟨w6, hw6⟩ : ∃ w6, w6 = wp.alloc (.cells #[.string s.nm, .int .i64 s.ix] 25) := ⟨_, rfl⟩
          have b6 : Below wp.heap.size wp w6 := by rw [hw6]; exact (Below.refl _ wp).alloc (Nat.le_refl _) _
          have q6 : w6.heap[wp.heap.size]? = some (.cells #[.string s.nm, .int .i64 s.ix] 25 (0, 0)) := by rw [hw6]; exact heap_alloc_new wp _
          have HBW : Hid (Below wo.heap.size wo w6) := hidn (HBJ.out.trans (b6.mono HBJ.out.size))
          have HW6 := hidn hw6
          have HQ6 := hidn q6
          have HM6 : Hid (∀ w', Below w6.heap.size w6 w' → Calls Tryd.prog 11 #[.slice x4 M.length c4, .agg #[.string s.nm, .int .i64 s.ix]] w' fun e w9 => e = .returned (.bool true) ∧ Below w6.heap.size w6 w9) := hidn (fun w' hb' => by
            refine (containsS_any x4 M.length c4 M s w' (HFM5.out.below (HBW.out.trans (hb'.mono HBW.out.size))) (by omega)).mono ?_
            rintro e w9 ⟨rfl, h9⟩
            exact ⟨by rw [HT1.out], hb'.trans (h9.mono hb'.size)⟩)
          have HN6 : Hid (∀ w', Below w6.heap.size w6 w' → Calls Tryd.prog 11 #[.slice x5 N.length c5, .agg #[.string s.nm, .int .i64 s.ix]] w' fun e w9 => e = .returned (.bool (!f2)) ∧ Below w6.heap.size w6 w9) := hidn (fun w' hb' => by
            refine (containsS_any x5 N.length c5 N s w' (HFN5.out.below (HBW.out.trans (hb'.mono HBW.out.size))) (by omega)).mono ?_
            rintro e w9 ⟨rfl, h9⟩
            exact ⟨by rw [HT2.out], hb'.trans (h9.mono hb'.size)⟩)
          have HL6 : Hid (∀ w', Below w6.heap.size w6 w' → Calls Tryd.prog 11 #[.slice a2 k cap2, .agg #[.string s.nm, .int .i64 s.ix]] w' fun e w9 => e = .returned (.bool f2) ∧ Below w6.heap.size w6 w9) := hidn (fun w' hb' => by
            refine (containsS_any a2 k cap2 k2 s w' (H2.out.below (HB5.out.trans ((HBW.out.trans (hb'.mono HBW.out.size)).mono HB5.out.size))) (by omega)).mono ?_
            rintro e w9 ⟨rfl, h9⟩
            exact ⟨by rw [hf2], hb'.trans (h9.mono hb'.size)⟩)
          have HRD : Hid (∀ w', Below w6.heap.size w6 w' → w'.cell? ⟨wp.heap.size, 0, none⟩ = some (.string s.nm) ∧ w'.cell? ⟨wp.heap.size, 1, none⟩ = some (.int .i64 s.ix)) := hidn (fun w' hbb => by
            have q9 := (hbb.block _ (Array.getElem?_eq_some_iff.1 HQ6.out).1).trans HQ6.out
            exact ⟨cell_of_row _ _ _ _ _ _ q9, cell_of_row _ _ _ _ _ _ q9⟩)
          clear hs hw6 b6 q6 hmem hf2 HT1 HT2
          go_wp2_with fail
          rw [← HW6.out]
          refine wp_region_noPanic ?_
          refine wp_region_held_drew (S := fun w' => Below w6.heap.size w6 w') (by kernel_rfl) ((Below.refl _ w6).drew) (fun hHeld => ?_)
          refine drawn_take (i := 0) (v := .slice x4 M.length c4) (some 49) rfl rfl (by kernel_rfl) (by kernel_rfl) (by kernel_rfl) (fun _ _ _ h => h) (Or.inl ⟨by kernel_rfl, fun wq hw => by go_simp⟩) hHeld ?_
          simp only [Act.put, List.setIfInBounds_toArray, List.set_cons_succ, List.set_cons_zero]
          refine drawn_take (i := 1) (v := .agg #[.string s.nm, .int .i64 s.ix]) (some 50) rfl rfl (by kernel_rfl) (by kernel_rfl) (by kernel_rfl) (fun _ _ _ h => h) (Or.inl ⟨by kernel_rfl, fun wq hw => by obtain ⟨q1, q2⟩ := HRD.out _ hw; go_simp⟩) hHeld ?_
          simp only [Act.put, List.setIfInBounds_toArray, List.set_cons_succ, List.set_cons_zero]
          refine wpAnyH_ready (rs := [2]) (by kernel_rfl) (by simp) ?_
          refine rdy_callw (i := 2) rfl (by kernel_rfl) (some 51) rfl 11 #[.slice x4 M.length c4, .agg #[.string s.nm, .int .i64 s.ix]] (callC2 (x := 49) (y := 50) rfl (fun _ _ => rfl) (by kernel_rfl) (by kernel_rfl)) (fun r w9 => r = .bool true ∧ Below w6.heap.size w6 w9) ((HM6.out _ ((Below.refl _ w6).drew)).mono (by rintro e w9 ⟨rfl, h9⟩; exact ⟨_, rfl, rfl, h9⟩)) (fun r w9 hR => ?_) rdy_nil
          obtain ⟨rfl, h7⟩ := hR
          refine ⟨h7, fun hHeld => ?_⟩
          simp only [Act.put, List.setIfInBounds_toArray, List.set_cons_succ, List.set_cons_zero]
          refine drawn_take (i := 3) (v := .bool false) (some 52) rfl rfl (by kernel_rfl) (by kernel_rfl) (by kernel_rfl) (fun _ _ _ h => h) (Or.inl ⟨by kernel_rfl, fun wq hw => by go_simp⟩) hHeld ?_
          simp only [Act.put, List.setIfInBounds_toArray, List.set_cons_succ, List.set_cons_zero]
          refine drawn_take (i := 4) (v := .bool false) (some 53) rfl rfl (by kernel_rfl) (by kernel_rfl) (by kernel_rfl) (fun _ _ _ h => h) (Or.inl ⟨by kernel_rfl, fun wq hw => by go_simp⟩) hHeld ?_
          simp only [Act.put, List.setIfInBounds_toArray, List.set_cons_succ, List.set_cons_zero]
          refine drawn_take (i := 5) (v := .slice x5 N.length c5) (some 54) rfl rfl (by kernel_rfl) (by kernel_rfl) (by kernel_rfl) (fun _ _ _ h => h) (Or.inl ⟨by kernel_rfl, fun wq hw => by go_simp⟩) hHeld ?_
          simp only [Act.put, List.setIfInBounds_toArray, List.set_cons_succ, List.set_cons_zero]
          refine drawn_take (i := 6) (v := .agg #[.string s.nm, .int .i64 s.ix]) (some 55) rfl rfl (by kernel_rfl) (by kernel_rfl) (by kernel_rfl) (fun _ _ _ h => h) (Or.inl ⟨by kernel_rfl, fun wq hw => by obtain ⟨q1, q2⟩ := HRD.out _ hw; go_simp⟩) hHeld ?_
          simp only [Act.put, List.setIfInBounds_toArray, List.set_cons_succ, List.set_cons_zero]
          refine drawn_take (i := 8) (v := .slice a2 k cap2) (some 57) rfl rfl (by kernel_rfl) (by kernel_rfl) (by kernel_rfl) (fun _ _ _ h => h) (Or.inl ⟨by kernel_rfl, fun wq hw => by go_simp⟩) hHeld ?_
          simp only [Act.put, List.setIfInBounds_toArray, List.set_cons_succ, List.set_cons_zero]
          refine drawn_take (i := 9) (v := .agg #[.string s.nm, .int .i64 s.ix]) (some 58) rfl rfl (by kernel_rfl) (by kernel_rfl) (by kernel_rfl) (fun _ _ _ h => h) (Or.inl ⟨by kernel_rfl, fun wq hw => by obtain ⟨q1, q2⟩ := HRD.out _ hw; go_simp⟩) hHeld ?_
          simp only [Act.put, List.setIfInBounds_toArray, List.set_cons_succ, List.set_cons_zero]
          refine wpAnyH_ready (rs := [7]) (by kernel_rfl) (by simp) ?_
          refine rdy_callw (i := 7) rfl (by kernel_rfl) (some 56) rfl 11 #[.slice x5 N.length c5, .agg #[.string s.nm, .int .i64 s.ix]] (callC2 (x := 54) (y := 55) rfl (fun _ _ => rfl) (by kernel_rfl) (by kernel_rfl)) (fun r w9 => r = .bool (!f2) ∧ Below w6.heap.size w6 w9) ((HN6.out _ h7).mono (by rintro e w9 ⟨rfl, h9⟩; exact ⟨_, rfl, rfl, h9⟩)) (fun r w9 hR => ?_) rdy_nil
          obtain ⟨rfl, h8⟩ := hR
          refine ⟨h8, fun hHeld => ?_⟩
          simp only [Act.put, List.setIfInBounds_toArray, List.set_cons_succ, List.set_cons_zero]
          refine wpAnyH_ready (rs := [10]) (by kernel_rfl) (by simp) ?_
          refine rdy_callw (i := 10) rfl (by kernel_rfl) (some 59) rfl 11 #[.slice a2 k cap2, .agg #[.string s.nm, .int .i64 s.ix]] (callC2 (x := 57) (y := 58) rfl (fun _ _ => rfl) (by kernel_rfl) (by kernel_rfl)) (fun r w9 => r = .bool f2 ∧ Below w6.heap.size w6 w9) ((HL6.out _ h8).mono (by rintro e w9 ⟨rfl, h9⟩; exact ⟨_, rfl, rfl, h9⟩)) (fun r w9 hR => ?_) rdy_nil
          obtain ⟨rfl, h11⟩ := hR
          refine ⟨h11, fun hHeld => ?_⟩
          simp only [Act.put, List.setIfInBounds_toArray, List.set_cons_succ, List.set_cons_zero]
          refine drawn_take (i := 11) (v := .bool false) (some 60) rfl rfl (by kernel_rfl) (by kernel_rfl) (by kernel_rfl) (fun _ _ _ h => h) (Or.inl ⟨by kernel_rfl, fun wq hw => by cases f2 <;> go_simp⟩) hHeld ?_
          simp only [Act.put, List.setIfInBounds_toArray, List.set_cons_succ, List.set_cons_zero]
          refine drawn_take (i := 12) (v := .bool false) (some 61) rfl rfl (by kernel_rfl) (by kernel_rfl) (by kernel_rfl) (fun _ _ _ h => h) (Or.inl ⟨by kernel_rfl, fun wq hw => by go_simp⟩) hHeld ?_
          simp only [Act.put, List.setIfInBounds_toArray, List.set_cons_succ, List.set_cons_zero]
          refine wpAnyH_done (by kernel_rfl) ?_ _
          refine NoPanic.normal ?_
          clear hHeld
          have HBY := hidn (HBW.out.trans (h11.mono HBW.out.size))
          clear h11
          go_wp2_with fail
          go_roundw
          case rel => first | exact ⟨j + 1, by omega, by first | rfl | simp, HBY⟩ | (repeat apply Exists.intro; exact ⟨⟨j + 1, by omega, by first | rfl | simp, HBY⟩, rfl⟩)
          case measure => simp [intOf]; omega
        · obtain rfl : j = m1 := by omega
          have hlt4 : ¬ (j : Int) < (j : Int) := by omega
          have HB6 := hidn (HB5.out.trans (HBJ.out.mono HB5.out.size))
          have hn1 : (N.length : Int) ≤ (M.length : Int) := by omega
          have hn2 : (M.length : Int) ≤ (j : Int) + (k : Int) := by omega
          have HA := hidn (awake20_any wp)
          clear hlt3
          go_wp2_with fail
          refine HA.out.mono ?_
          rintro e w8 ⟨rfl, b8⟩
          have HB8 := hidn (HB6.out.trans (b8.mono HB6.out.size))
          clear b8
          go_wp2_with fail
          go_ret
          exact ⟨rfl, HB8.out⟩
end Go.Proofs.YtidlogeeophogaaDoor.Sp
