/- BlockNobody: the law's walk. -/
import Derived.Test.YtfgfkifdokeefaaGreatDoorBkN
namespace Go.Proofs.YtfgfkifdokeefaaGreatDoor
open Go.RowKit Go.Joins Go.Maps
open Cd (BitsTab DbTab)
set_option linter.unusedVariables false

set_option maxHeartbeats 8000000 in
set_option maxRecDepth 100000 in
theorem blockNobody_walk (y0 y1 y2 y3 y4 y5 y6 y7 : Value) (la : Option Addr) (ll lc : Nat) (w : World) (hT : BitsTab w) (hD : DbTab w) :
    Calls Tryz.prog 3 #[.agg #[y0, y1, y2, y3, y4, y5, y6, y7], .slice la ll lc] w fun e w' => e = .returned (.bool true) ∧ Below w.heap.size w w' := by
  have HT := hidn hT
  have HD := hidn hD
  clear hT hD
  go_enter Tryz.func3, Tryz.ntmps3
  go_wp2
  go_loopw [19] (fun i wr => ∃ k : Nat, k ≤ 2 ∧ i = .int .i64 k ∧ Hid (NB wr w.heap.size 24 #[y0, y1, y2, y3, y4, y5, y6, y7]) ∧ Hid (Below w.heap.size w wr)) (fun i wr => 2 - (intOf i).toNat)
  case atStart => exact ⟨0, Nat.zero_le _, rfl, hidn (NB.new w _ _), hidn ((((Below.refl _ w).alloc (Nat.le_refl _) _).alloc (by simp) _).alloc (by simp; omega) _)⟩
  case round =>
    obtain ⟨k, hk, rfl, hN, HBL⟩ := hrel
    by_cases hlt : k < 2
    · obtain ⟨v, hcv, hun⟩ := hN.out.disk k hlt
      have hUN := hidn hun
      clear hun
      have hk2 : (k : Int) < 2 := by omega
      have hf0 := hN.out.field 0 rfl
      go_wp2_with fail
      refine (bk_foot _ v hUN.out _).mono ?_
      rintro e w1 ⟨rfl, hb1⟩
      have hb1' := hb1.alloc hb1.size (.cells #[.int .i64 0, .int .i64 0, .int .i64 0, .int .i64 0, .int .i64 0, .int .i64 0, .int .i64 0, .slice none 0 0] 24)
      obtain ⟨w2, hw2⟩ : ∃ w2, w2 = w1.alloc (.cells #[.int .i64 0, .int .i64 0, .int .i64 0, .int .i64 0, .int .i64 0, .int .i64 0, .int .i64 0, .slice none 0 0] 24) := ⟨_, rfl⟩
      rw [← hw2] at hb1'
      have HU1 := hidn (hUN.out.below hb1')
      have HN1 := hidn (hN.out.below hb1')
      have HB1 := hidn (HBL.out.trans (hb1'.mono HBL.out.size))
      have HL1 : Hid ((w1.alloc (.cells #[.int .i64 0, .int .i64 0, .int .i64 0, .int .i64 0, .int .i64 0, .int .i64 0, .int .i64 0, .slice none 0 0] 24)).heap[w.heap.size]? = some (.cells #[y0, y1, y2, y3, y4, y5, y6, y7] 24 (0, 0))) := hidn (by rw [← hw2]; exact HN1.out.1)
      have HW2 := hidn hw2
      clear hb1 hb1' hcv hf0 hN HBL hUN hw2
      simp only []
      go_at_K
      repeat (first
        | (with_reducible refine wpList_load_row (by rfl) 24 (.tmp 2) (by rfl) w.heap.size (by kernel_rfl) 24 #[y0, y1, y2, y3, y4, y5, y6, y7] (0, 0) _ HL1.out Tryz.underlying24 rfl (by kernel_rfl) ?_)
        | go_values | go_skip | go_guarded | go_step | go_upon)
      rw [← HW2.out]
      refine (bk_select _ v HU1.out y0 y1 y2 y3 y4 y5 y6 y7 _ _ _).mono ?_
      rintro e w3 ⟨rfl, hb3⟩
      have HU3 := hidn (HU1.out.below hb3)
      have HN3 := hidn (HN1.out.below hb3)
      have HB3 := hidn (HB1.out.trans (hb3.mono HB1.out.size))
      have HL3 : Hid (w3.heap[w.heap.size]? = some (.cells #[y0, y1, y2, y3, y4, y5, y6, y7] 24 (0, 0))) := hidn HN3.out.1
      clear hb3 HU1 HN1 HB1 HL1 HW2
      simp only []
      go_at_K
      repeat (first
        | (with_reducible refine wpList_load_row (by rfl) 24 (.tmp 2) (by rfl) w.heap.size (by kernel_rfl) 24 #[y0, y1, y2, y3, y4, y5, y6, y7] (0, 0) _ HL3.out Tryz.underlying24 rfl (by kernel_rfl) ?_)
        | go_values | go_skip | go_guarded | go_step | go_upon)
      refine (bk_index _ v HU3.out y0 y1 y2 y3 y4 y5 y6 y7).mono ?_
      rintro e w4 ⟨rfl, hb4⟩
      have HU4 := hidn (HU3.out.below hb4)
      have HN4 := hidn (HN3.out.below hb4)
      have HB4 := hidn (HB3.out.trans (hb4.mono HB3.out.size))
      clear hb4 HU3 HN3 HB3 HL3
      go_wp2_with fail
      have hd4 : Below w4.heap.size w4 w4.drew := (Below.refl _ _).drew
      have HUd := hidn (HU4.out.below hd4)
      have HNd := hidn (HN4.out.below hd4)
      have HBd := hidn (HB4.out.trans (hd4.mono HB4.out.size))
      obtain ⟨wd, hwd⟩ : ∃ wd, wd = w4.drew := ⟨_, rfl⟩
      clear hd4 HU4 HN4 HB4
      refine wp_region_noPanic ?_
      refine wp_region_held_drew (S := fun W => NB W w.heap.size 24 #[y0, y1, y2, y3, y4, y5, y6, y7]) (by kernel_rfl) (HNd.out) (fun hHeld => ?_)
      rw [← hwd] at hHeld HUd HNd HBd ⊢
      clear hwd
      refine drawn_take (i := 0) (v := .int .i64 2) (some 42) rfl rfl (by kernel_rfl) (by kernel_rfl) (by kernel_rfl) (fun _ _ _ h => h) (Or.inl ⟨by kernel_rfl, fun wq hw => by go_simp⟩) hHeld ?_
      simp only [Act.put, List.setIfInBounds_toArray, List.set_cons_succ, List.set_cons_zero]
      refine drawn_take (i := 1) (v := .int .i64 2) (some 43) rfl rfl (by kernel_rfl) (by kernel_rfl) (by kernel_rfl) (fun _ _ _ h => h) (Or.inl ⟨by kernel_rfl, fun wq hw => by go_simp⟩) hHeld ?_
      simp only [Act.put, List.setIfInBounds_toArray, List.set_cons_succ, List.set_cons_zero]
      refine drawn_take (i := 2) (v := .int .i64 2) (some 44) rfl rfl (by kernel_rfl) (by kernel_rfl) (by kernel_rfl) (fun _ _ _ h => h) (Or.inl ⟨by kernel_rfl, fun wq hw => by go_simp⟩) hHeld ?_
      simp only [Act.put, List.setIfInBounds_toArray, List.set_cons_succ, List.set_cons_zero]
      refine drawn_take (i := 3) (v := v) (some 45) rfl rfl (by kernel_rfl) (by kernel_rfl) (by kernel_rfl) (fun _ _ _ h => h) (Or.inl ⟨by kernel_rfl, fun wq hw => by go_simp⟩) hHeld ?_
      simp only [Act.put, List.setIfInBounds_toArray, List.set_cons_succ, List.set_cons_zero]
      refine drawn_take (i := 4) (v := .agg #[y0, y1, y2, y3, y4, y5, y6, y7]) (some 46) rfl rfl (by kernel_rfl) (by kernel_rfl) (by kernel_rfl) (fun _ _ _ h => h) (Or.inl ⟨by kernel_rfl, fun wq hw => bk_ldF (x := .tmp 2) rfl (by kernel_rfl) hw.1 rfl⟩) hHeld ?_
      simp only [Act.put, List.setIfInBounds_toArray, List.set_cons_succ, List.set_cons_zero]
      refine drawn_take (i := 5) (v := .slice la ll lc) (some 47) rfl rfl (by kernel_rfl) (by kernel_rfl) (by kernel_rfl) (fun _ _ _ h => h) (Or.inl ⟨by kernel_rfl, fun wq hw => by go_simp⟩) hHeld ?_
      simp only [Act.put, List.setIfInBounds_toArray, List.set_cons_succ, List.set_cons_zero]
      refine drawn_take (i := 7) (v := v) (some 49) rfl rfl (by kernel_rfl) (by kernel_rfl) (by kernel_rfl) (fun _ _ _ h => h) (Or.inl ⟨by kernel_rfl, fun wq hw => by go_simp⟩) hHeld ?_
      simp only [Act.put, List.setIfInBounds_toArray, List.set_cons_succ, List.set_cons_zero]
      refine drawn_take (i := 8) (v := .pointer (some ⟨w.heap.size, 0, none⟩)) (some 50) rfl rfl (by kernel_rfl) (by kernel_rfl) (by kernel_rfl) (fun _ _ _ h => h) (Or.inl ⟨by kernel_rfl, fun wq hw => by go_simp⟩) hHeld ?_
      simp only [Act.put, List.setIfInBounds_toArray, List.set_cons_succ, List.set_cons_zero]
      refine drawn_take (i := 9) (v := y0) (some 51) rfl rfl (by kernel_rfl) (by kernel_rfl) (by kernel_rfl) (fun _ _ _ h => h) (Or.inl ⟨by kernel_rfl, fun wq hw => by have q := hw.field 0 rfl; go_simp⟩) hHeld ?_
      simp only [Act.put, List.setIfInBounds_toArray, List.set_cons_succ, List.set_cons_zero]
      refine drawn_take (i := 13) (v := .int .i64 0) (some 55) rfl rfl (by kernel_rfl) (by kernel_rfl) (by kernel_rfl) (fun _ _ _ h => h) (Or.inl ⟨by kernel_rfl, fun wq hw => by go_simp⟩) hHeld ?_
      simp only [Act.put, List.setIfInBounds_toArray, List.set_cons_succ, List.set_cons_zero]
      refine wpAnyH_ready (rs := [6]) (by kernel_rfl) (by simp) ?_
      refine rdy_call (i := 6) rfl rfl (some 48) rfl 7 #[v, .agg #[y0, y1, y2, y3, y4, y5, y6, y7], .slice la ll lc] (bk_cWrite (x0 := 45) (x1 := 46) (x2 := 47) rfl (by kernel_rfl) (by kernel_rfl) (by kernel_rfl)) (fun r w' => r = .int .i64 2 ∧ Below wd.heap.size wd w') ((bk_write wd v HUd.out y0 y1 y2 y3 y4 y5 y6 y7 _).mono fun e w' h => ⟨_, h.1, rfl, h.2⟩) (fun r w9 hR => ?_) rdy_nil
      obtain ⟨rfl, b5⟩ := hR
      have HU5 := hidn (HUd.out.below b5)
      have HN5 := hidn (HNd.out.below b5)
      have HB5 := hidn (HBd.out.trans (b5.mono HBd.out.size))
      refine ⟨HN5.out, fun hHeld => ?_⟩
      simp only [Act.put, List.setIfInBounds_toArray, List.set_cons_succ, List.set_cons_zero]
      clear b5 HUd HNd HBd
      obtain ⟨w5, hw5⟩ : ∃ w5, w5 = w9 := ⟨_, rfl⟩
      rw [← hw5] at HU5 HN5 HB5 hHeld ⊢
      clear hw5
      refine wpAnyH_ready (rs := [10]) (by kernel_rfl) (by simp) ?_
      refine rdy_call (i := 10) rfl rfl (some 52) rfl 8 #[v, y0] (bk_cDrop (x0 := 49) (x1 := 51) rfl (by kernel_rfl) (by kernel_rfl)) (fun r w' => r = .int .i64 2 ∧ Below w5.heap.size w5 w') ((bk_drop w5 v HU5.out y0).mono fun e w' h => ⟨_, h.1, rfl, h.2⟩) (fun r w9 hR => ?_) rdy_nil
      obtain ⟨rfl, b6⟩ := hR
      have HN6 := hidn (HN5.out.below b6)
      have HB6 := hidn (HB5.out.trans (b6.mono HB5.out.size))
      refine ⟨HN6.out, fun hHeld => ?_⟩
      simp only [Act.put, List.setIfInBounds_toArray, List.set_cons_succ, List.set_cons_zero]
      clear b6 HU5 HN5 HB5
      have b7 := bk_below1 w9 (.cells #[.int .i64 2, .int .i64 2, .int .i64 2, .int .i64 2, .int .i64 2] 31)
      have HN7 := hidn (HN6.out.below b7)
      have HB7 := hidn (HB6.out.trans (b7.mono HB6.out.size))
      have HG7 := hidn (heap_alloc_new w9 (.cells #[.int .i64 2, .int .i64 2, .int .i64 2, .int .i64 2, .int .i64 2] 31))
      clear b7
      refine wpAnyH_ready (rs := [11]) (by kernel_rfl) (by simp) ?_
      refine rdy_val (i := 11) rfl rfl (some 53) rfl (.slice (some ⟨w9.heap.size, 0, none⟩) 5 5) (w9.alloc (.cells #[.int .i64 2, .int .i64 2, .int .i64 2, .int .i64 2, .int .i64 2] 31)) (bk_bs5 (x0 := .tmp 42) (x1 := .tmp 43) (x2 := .tmp 44) (x3 := .tmp 48) (x4 := .tmp 52) rfl (by kernel_rfl) (by kernel_rfl) (by kernel_rfl) (by kernel_rfl) (by kernel_rfl)) (HN7.out) (fun hHeld => ?_) rdy_nil
      simp only [Act.put, List.setIfInBounds_toArray, List.set_cons_succ, List.set_cons_zero]
      obtain ⟨g, hg⟩ : ∃ g, g = w9.heap.size := ⟨_, rfl⟩
      obtain ⟨w7, hw7⟩ : ∃ w7, w7 = w9.alloc (.cells #[.int .i64 2, .int .i64 2, .int .i64 2, .int .i64 2, .int .i64 2] 31) := ⟨_, rfl⟩
      rw [← hw7] at hHeld HN7 HB7 HG7
      rw [← hg] at HG7
      rw [← hg, ← hw7]
      clear hg hw7 HN6 HB6
      refine drawn_take (i := 12) (v := .int .i64 5) (some 54) rfl rfl (by kernel_rfl) (by kernel_rfl) (by kernel_rfl) (fun _ _ _ h => h) (Or.inl ⟨by kernel_rfl, fun wq hw => by go_simp⟩) hHeld ?_
      simp only [Act.put, List.setIfInBounds_toArray, List.set_cons_succ, List.set_cons_zero]
      refine wpAnyH_done (by kernel_rfl) ?_ _
      refine NoPanic.normal ?_
      clear hHeld
      go_wp2_with fail
      go_loopw [55] (fun i wr => ∃ j : Nat, j ≤ 5 ∧ i = .int .i64 j ∧ Hid (w7 = wr)) (fun i wr => 5 - (intOf i).toNat)
      case atStart => exact ⟨0, Nat.zero_le _, rfl, hidn rfl⟩
      case round =>
        obtain ⟨j, hj, rfl, hw⟩ := hrel
        obtain rfl := hw.out
        clear hw
        by_cases hj5 : j < 5
        · have hj5i : (j : Int) < 5 := by omega
          have hc := bk_five HG7.out j hj5
          go_wp2_with fail
          exact ⟨⟨j + 1, by omega, by simp, hidn trivial⟩, by simp [intOf]; omega⟩
        · have hj5i : ¬ (j : Int) < 5 := by omega
          go_wp2_with fail
          exact ⟨⟨k + 1, by omega, by simp, HN7, HB7⟩, by simp [intOf]; omega⟩
    · have hk2 : ¬ (k : Int) < 2 := by omega
      have HA := hidn (awake19 wr (HT.out.below HBL.out) (HD.out.below HBL.out))
      go_wp2_with fail
      refine HA.out.mono ?_
      rintro e w2 ⟨rfl, hb2⟩
      have HZ := hidn (HBL.out.trans (hb2.mono HBL.out.size))
      clear hb2
      go_wp2
      go_ret
      exact ⟨rfl, HZ.out⟩
end Go.Proofs.YtfgfkifdokeefaaGreatDoor
