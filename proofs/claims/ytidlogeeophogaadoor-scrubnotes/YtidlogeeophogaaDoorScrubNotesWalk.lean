/- ScrubNotes: a ledger with spots added, or taken out. -/
import Derived.Test.YtidlogeeophogaaDoorSpN
import Derived.Test.YtidlogeeophogaaDoorScD
namespace Go.Proofs.YtidlogeeophogaaDoor.Sp
open Go.RowKit Go.Joins
set_option linter.unusedVariables false
set_option linter.unusedSimpArgs false

set_option maxHeartbeats 4000000 in
set_option maxRecDepth 100000 in
theorem scrubNotes_walk (a1 a2 : Option Addr) (len1 cap1 len2 cap2 : Nat) (l1 l2 : List Spt) (add : Bool) (w : World) (h1 : Fls w a1 len1 l1) (h2 : Fls w a2 len2 l2) (hc1 : len1 ≤ cap1) (hc2 : len2 ≤ cap2) (hn1 : a1 = none → cap1 = 0) (hn2 : a2 = none → cap2 = 0) :
    Calls Tryd.prog 3 #[.slice a1 len1 cap1, .slice a2 len2 cap2, .bool add] w fun e w' => e = .returned (.bool true) ∧ Below w.heap.size w w' := by
  obtain ⟨m1, hm1⟩ : ∃ m, m = min len1 40 := ⟨_, rfl⟩
  obtain ⟨m2, hm2⟩ : ∃ m, m = min len2 40 := ⟨_, rfl⟩
  have r1 : min (len1 : Int) 40 = (m1 : Int) := by omega
  have r2 : (if (40 : Int) < (len1 : Int) then (40 : Int) else (len1 : Int)) = (m1 : Int) := by split <;> omega
  have r3 : (if 40 < len1 then (40 : Int) else (len1 : Int)) = (m1 : Int) := by split <;> omega
  have s1 : min (len2 : Int) 40 = (m2 : Int) := by omega
  have s2 : (if (40 : Int) < (len2 : Int) then (40 : Int) else (len2 : Int)) = (m2 : Int) := by split <;> omega
  have s3 : (if 40 < len2 then (40 : Int) else (len2 : Int)) = (m2 : Int) := by split <;> omega
  have hk1 : m1 ≤ cap1 := by omega
  have hk2 : m2 ≤ cap2 := by omega
  have h40 : m1 ≤ 40 := by omega
  have h41 : m2 ≤ 40 := by omega
  have H1 := hidn (h1.take m1 (by omega))
  have H2 := hidn (h2.take m2 (by omega))
  have HN1 := hidn hn1
  have HN2 := hidn hn2
  obtain ⟨k1, hkk1⟩ : ∃ k, k = l1.take m1 := ⟨_, rfl⟩
  obtain ⟨k2, hkk2⟩ : ∃ k, k = l2.take m2 := ⟨_, rfl⟩
  rw [← hkk1] at H1
  rw [← hkk2] at H2
  clear h1 h2 hn1 hn2 hm1 hm2 hkk1 hkk2
  go_enter Tryd.func3, Tryd.ntmps3
  go_wp2_with fail
  refine wp_region_noPanic ?_
  refine wp_region_held_drew (S := fun w' => Below w.heap.size w w') (by kernel_rfl) ((Below.refl _ w).drew) (fun hHeld => ?_)
  refine drawn_take (i := 0) (v := .slice a1 len1 cap1) (some 9) rfl rfl (by kernel_rfl) (by kernel_rfl) (by kernel_rfl) (fun _ _ _ h => h) (Or.inl ⟨by kernel_rfl, fun wq hw => by go_simp⟩) hHeld ?_
  simp only [Act.put, List.setIfInBounds_toArray, List.set_cons_succ, List.set_cons_zero]
  refine drawn_take (i := 1) (v := .slice a1 len1 cap1) (some 10) rfl rfl (by kernel_rfl) (by kernel_rfl) (by kernel_rfl) (fun _ _ _ h => h) (Or.inl ⟨by kernel_rfl, fun wq hw => by go_simp⟩) hHeld ?_
  simp only [Act.put, List.setIfInBounds_toArray, List.set_cons_succ, List.set_cons_zero]
  refine drawn_take (i := 2) (v := .int .i64 (len1 : Int)) (some 11) rfl rfl (by kernel_rfl) (by kernel_rfl) (by kernel_rfl) (fun _ _ _ h => h) (Or.inl ⟨by kernel_rfl, fun wq hw => by go_simp⟩) hHeld ?_
  simp only [Act.put, List.setIfInBounds_toArray, List.set_cons_succ, List.set_cons_zero]
  refine drawn_take (i := 3) (v := .int .i64 (m1 : Int)) (some 12) rfl rfl (by kernel_rfl) (by kernel_rfl) (by kernel_rfl) (fun _ _ _ h => h) (Or.inl ⟨by kernel_rfl, fun wq hw => by go_simp⟩) hHeld ?_
  simp only [Act.put, List.setIfInBounds_toArray, List.set_cons_succ, List.set_cons_zero]
  refine drawn_take (i := 4) (v := .slice a1 m1 cap1) (some 13) rfl rfl (by kernel_rfl) (by kernel_rfl) (by kernel_rfl) (fun _ _ _ h => h) (Or.inl ⟨by kernel_rfl, fun wq hw => slS_run (N := len1) (x := .tmp 9) (z := .tmp 12) rfl (by kernel_rfl) (by kernel_rfl) hk1⟩) hHeld ?_
  simp only [Act.put, List.setIfInBounds_toArray, List.set_cons_succ, List.set_cons_zero]
  refine drawn_take (i := 5) (v := .slice a2 len2 cap2) (some 14) rfl rfl (by kernel_rfl) (by kernel_rfl) (by kernel_rfl) (fun _ _ _ h => h) (Or.inl ⟨by kernel_rfl, fun wq hw => by go_simp⟩) hHeld ?_
  simp only [Act.put, List.setIfInBounds_toArray, List.set_cons_succ, List.set_cons_zero]
  refine drawn_take (i := 6) (v := .slice a2 len2 cap2) (some 15) rfl rfl (by kernel_rfl) (by kernel_rfl) (by kernel_rfl) (fun _ _ _ h => h) (Or.inl ⟨by kernel_rfl, fun wq hw => by go_simp⟩) hHeld ?_
  simp only [Act.put, List.setIfInBounds_toArray, List.set_cons_succ, List.set_cons_zero]
  refine drawn_take (i := 7) (v := .int .i64 (len2 : Int)) (some 16) rfl rfl (by kernel_rfl) (by kernel_rfl) (by kernel_rfl) (fun _ _ _ h => h) (Or.inl ⟨by kernel_rfl, fun wq hw => by go_simp⟩) hHeld ?_
  simp only [Act.put, List.setIfInBounds_toArray, List.set_cons_succ, List.set_cons_zero]
  refine drawn_take (i := 8) (v := .int .i64 (m2 : Int)) (some 17) rfl rfl (by kernel_rfl) (by kernel_rfl) (by kernel_rfl) (fun _ _ _ h => h) (Or.inl ⟨by kernel_rfl, fun wq hw => by go_simp⟩) hHeld ?_
  simp only [Act.put, List.setIfInBounds_toArray, List.set_cons_succ, List.set_cons_zero]
  refine drawn_take (i := 9) (v := .slice a2 m2 cap2) (some 18) rfl rfl (by kernel_rfl) (by kernel_rfl) (by kernel_rfl) (fun _ _ _ h => h) (Or.inl ⟨by kernel_rfl, fun wq hw => slS_run (N := len2) (x := .tmp 14) (z := .tmp 17) rfl (by kernel_rfl) (by kernel_rfl) hk2⟩) hHeld ?_
  simp only [Act.put, List.setIfInBounds_toArray, List.set_cons_succ, List.set_cons_zero]
  refine drawn_take (i := 10) (v := .slice a1 m1 cap1) (some 0) rfl rfl (by kernel_rfl) (by kernel_rfl) (by kernel_rfl) (fun _ _ _ h => h) (Or.inl ⟨by kernel_rfl, fun wq hw => by go_simp⟩) hHeld ?_
  simp only [Act.put, List.setIfInBounds_toArray, List.set_cons_succ, List.set_cons_zero]
  refine drawn_take (i := 11) (v := .slice a2 m2 cap2) (some 1) rfl rfl (by kernel_rfl) (by kernel_rfl) (by kernel_rfl) (fun _ _ _ h => h) (Or.inl ⟨by kernel_rfl, fun wq hw => by go_simp⟩) hHeld ?_
  simp only [Act.put, List.setIfInBounds_toArray, List.set_cons_succ, List.set_cons_zero]
  refine wpAnyH_done (by kernel_rfl) ?_ _
  refine NoPanic.normal ?_
  clear hHeld
  obtain ⟨w0, hw0⟩ : ∃ w0, w0 = w.drew := ⟨_, rfl⟩
  rw [← hw0]
  have HB0 : Hid (Below w.heap.size w w0) := hidn (by rw [hw0]; exact (Below.refl _ w).drew)
  have HX := hidn (sclone_any a1 m1 cap1 k1 w0 (H1.out.below HB0.out) (by omega) HN1.out)
  clear hw0 r1 r2 r3 s1 s2 s3
  go_wp2_with fail
  refine HX.out.mono ?_
  rintro e w1 ⟨v1, rfl, ho1, b1⟩
  have HB1 := hidn (HB0.out.trans (b1.mono HB0.out.size))
  obtain ⟨x1, c1, rfl, hf1, _⟩ := fls_of_own ho1 H1.out.1
  have HF1 := hidn hf1
  have HC1 := hidn (own_cap ho1)
  have HY := hidn (sclone_any a2 m2 cap2 k2 w1 (H2.out.below HB1.out) (by omega) HN2.out)
  clear b1 ho1 hf1 HX
  go_wp2_with fail
  refine HY.out.mono ?_
  rintro e w2 ⟨v2, rfl, ho2, b2⟩
  have HB2 := hidn (HB1.out.trans (b2.mono HB1.out.size))
  obtain ⟨x2, c2, rfl, hf2, _⟩ := fls_of_own ho2 H2.out.1
  have HF2 := hidn hf2
  have HF12 := hidn (HF1.out.below b2)
  have HK := hidn (note_any x1 x2 m1 c1 m2 c2 k1 k2 add w2 (HF1.out.below b2) hf2 (by omega) (by omega) HC1.out (own_cap ho2))
  clear b2 ho2 hf2 HY
  go_wp2_with fail
  refine HK.out.mono ?_
  rintro e w3 ⟨v3, L, rfl, hr3, hx3, hle3, ho3, b3⟩
  have HB3 := hidn (HB2.out.trans (b3.mono HB2.out.size))
  obtain ⟨x3, c3, rfl, hf3, _⟩ := fls_of_own ho3 rfl
  have HF3 := hidn hf3
  have HEQ : Hid (L = noteS add k1 k2) := hidn (rise_ext _ _ hr3 (noteS_rise add k1 k2).1 (fun x => (hx3 x).trans ((noteS_rise add k1 k2).2 x).symm))
  have HF13 := hidn (HF12.out.below b3)
  have HF23 := hidn (HF2.out.below b3)
  have HRN := hidn (refNote_any a1 a2 m1 cap1 m2 cap2 k1 k2 add w3 (H1.out.below HB3.out) (H2.out.below HB3.out) h40 h41)
  clear b3 ho3 hf3 hr3 hx3 hle3 HK HF12 HF2
  go_wp2_with fail
  refine HRN.out.mono ?_
  rintro e w4 ⟨v4, rfl, ho4, b4⟩
  have HB4 := hidn (HB3.out.trans (b4.mono HB3.out.size))
  rw [← HEQ.out] at ho4
  obtain ⟨x4, c4, rfl, hf4, _⟩ := fls_of_own ho4 rfl
  have HF14 := hidn (HF13.out.below b4)
  have HF24 := hidn (HF23.out.below b4)
  have HE1 := hidn (sEq_same x3 x4 L.length c3 c4 L w4 (HF3.out.below b4) hf4)
  clear b4 ho4 hf4 HRN HF13 HF23
  go_wp2_with fail
  refine HE1.out.mono ?_
  rintro e w5 ⟨rfl, b5⟩
  have HB5 := hidn (HB4.out.trans (b5.mono HB4.out.size))
  have HF25 := hidn (HF24.out.below b5)
  have HE2 := hidn (sEq_same x1 a1 m1 c1 cap1 k1 w5 (HF14.out.below b5) (H1.out.below HB5.out))
  clear b5 HE1
  go_wp2_with fail
  refine HE2.out.mono ?_
  rintro e w6 ⟨rfl, b6⟩
  have HB6 := hidn (HB5.out.trans (b6.mono HB5.out.size))
  have HE3 := hidn (sEq_same x2 a2 m2 c2 cap2 k2 w6 (HF25.out.below b6) (H2.out.below HB6.out))
  clear b6 HE2
  go_wp2_with fail
  refine HE3.out.mono ?_
  rintro e w7 ⟨rfl, b7⟩
  have HB7 := hidn (HB6.out.trans (b7.mono HB6.out.size))
  have HA := hidn (awake20_any w7)
  clear b7 HE3
  go_wp2_with fail
  refine HA.out.mono ?_
  rintro e w8 ⟨rfl, b8⟩
  have HB8 := hidn (HB7.out.trans (b8.mono HB7.out.size))
  clear b8
  go_wp2_with fail
  go_ret
  exact ⟨rfl, HB8.out⟩
end Go.Proofs.YtidlogeeophogaaDoor.Sp
