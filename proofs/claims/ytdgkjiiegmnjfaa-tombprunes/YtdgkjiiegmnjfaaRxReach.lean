/- reach. -/
import Derived.Test.YtdgkjiiegmnjfaaRxFr
namespace Go.Proofs.Ytdgkjiiegmnjfaa
open Go.RowKit Go.Joins
set_option linter.unusedVariables false
set_option maxHeartbeats 4000000 in
set_option maxRecDepth 100000 in
theorem reach_step (k : Nat) (HG : GoOnC k) : ReachC (k + 1) := by
  intro fb φ L rd x bf sv V bv a b n w h hwf hsz hrd htk hun hle hn
  obtain ⟨s, hs⟩ : ∃ s, L[n]? = some s := ⟨_, List.getElem?_eq_getElem hn⟩
  obtain ⟨sn, tk, h⟩ := h
  have hll := siz_len L
  have hxl := h.len
  obtain ⟨gs, cs, rfl, hcs1, hcs2⟩ := nonnil h.sts.1 (by omega)
  obtain ⟨gn, cn, rfl, hcn1, hcn2⟩ := nonnil h.seen.1 (by omega)
  unfold maxLen at hcs2 hcn2
  obtain ⟨v, hv⟩ : ∃ v, x.1[n]? = some v := ⟨_, List.getElem?_eq_getElem (by omega)⟩
  have hvr := hle v (List.mem_of_getElem? hv)
  have c0 : w.cell? ⟨fb, 0, none⟩ = some (.slice (some ⟨gs, 0, none⟩) L.length cs) := cell_of_row _ _ _ _ _ _ h.blk
  have c1 : w.cell? ⟨fb, 1, none⟩ = some (.int .i64 (rd : Int)) := cell_of_row _ _ _ _ _ _ h.blk
  have c2 : w.cell? ⟨fb, 2, none⟩ = some (.slice (some ⟨gn, 0, none⟩) x.1.length cn) := cell_of_row _ _ _ _ _ _ h.blk
  have cv : w.cell? ⟨gn, n, none⟩ = some (.int .i64 (v : Int)) := own_at h.seen.1 _ _ (vi_get _ _ _ hv)
  rw [h.len] at c2
  obtain ⟨N, hN⟩ : ∃ N, N = L.length := ⟨_, rfl⟩
  rw [← hN] at c0 c2
  have hnN : n < N := by omega
  have hnN2 : (n : Int) < (N : Int) := by omega
  have HN := hidn hN
  by_cases hvd : v = rd
  · have hvd2 : ((v : Int) == (rd : Int)) = true := by simp; omega
    have hR : Hid (reachF L rd (k + 1) n x = x) := hidn (by simp only [reachF]; rw [if_pos (by rw [hv, hvd])])
    rw [hR.out]
    have hF : FRx w fb φ L rd x bf (.slice (some ⟨gs, 0, none⟩) L.length cs) V bv a b := ⟨_, tk, h⟩
    clear hN h hvd
    go_enter Try.func42, Try.ntmps42
    go_wp2_with fail
    go_quiet (fail)
    go_wp2_with fail
    exact bodyPost_ret (v := .tuple #[]) (by simp [results, Try.results42, go_sem]) rfl ⟨rfl, φ, hF.below (below_drewN (Below.refl _ _) _), Gw.of (Kp.of_below (below_drewN (Below.refl _ _) _))⟩
  · have hvd2 : ((v : Int) == (rd : Int)) = false := by simp; omega
    obtain ⟨Z, hZ⟩ : ∃ Z, Z = reachF L rd (k + 1) n x := ⟨_, rfl⟩
    rw [← hZ]
    have HZ := hidn hZ
    clear hN hZ
    go_enter Try.func42, Try.ntmps42
    go_wp2_with fail
    go_quiet (fail)
    obtain ⟨w2, hw2⟩ : ∃ w2, w2 = w.drewN nq := ⟨_, rfl⟩
    rw [← hw2]
    have b2 : Below w.heap.size w w2 := by rw [hw2]; exact below_drewN (Below.refl _ _) _
    clear hw2
    obtain ⟨wd, hwd⟩ : ∃ wd, w2.drew = wd := ⟨_, rfl⟩
    have bd : Below w.heap.size w wd := by rw [← hwd]; exact b2.drew
    have hd := h.below bd
    have xN : N = x.1.length := by rw [HN.out, hxl]
    have dv : wd.cell? ⟨gn, n, none⟩ = some (.int .i64 (v : Int)) := own_at hd.seen.1 _ _ (vi_get _ _ _ hv)
    have fv := own_unfrozen hd.seen.1 n
    rw [← xN] at hd
    obtain ⟨h3, G3⟩ := hd.see n xN
    have d1 : wd.cell? ⟨fb, 1, none⟩ = some (.int .i64 (rd : Int)) := cell_of_row _ _ _ _ _ _ hd.blk
    have d2 : wd.cell? ⟨fb, 2, none⟩ = some (.slice (some ⟨gn, 0, none⟩) N cn) := cell_of_row _ _ _ _ _ _ hd.blk
    have s0 : (wd.setCell ⟨gn, n, none⟩ (.int .i64 (rd : Int))).cell? ⟨fb, 0, none⟩ = some (.slice (some ⟨gs, 0, none⟩) L.length cs) := cell_of_row _ _ _ _ _ _ h3.blk
    have s1 : (wd.setCell ⟨gn, n, none⟩ (.int .i64 (rd : Int))).cell? ⟨fb, 1, none⟩ = some (.int .i64 (rd : Int)) := cell_of_row _ _ _ _ _ _ h3.blk
    have s2 : (wd.setCell ⟨gn, n, none⟩ (.int .i64 (rd : Int))).cell? ⟨fb, 2, none⟩ = some (.slice (some ⟨gn, 0, none⟩) N cn) := cell_of_row _ _ _ _ _ _ h3.blk
    have s3 : (wd.setCell ⟨gn, n, none⟩ (.int .i64 (rd : Int))).cell? ⟨fb, 3, none⟩ = some tk := cell_of_row _ _ _ _ _ _ h3.blk
    obtain ⟨y0, _, _, _⟩ := vst_get V L 0 n s hs
    have st := own_at h3.sts.1 _ _ y0
    rw [← HN.out] at s0
    have Gd : Gw φ φ w (wd.setCell ⟨gn, n, none⟩ (.int .i64 (rd : Int))) := (Gw.of (Kp.of_below bd)).trans G3
    have hx1 : unseen rd (x.1.set n rd) + 1 = unseen rd x.1 := unseen_set rd x.1 n v hv hvd
    have hle2 : ∀ y ∈ x.1.set n rd, y ≤ rd := fun y hy => by
      rcases List.mem_or_eq_of_mem_set hy with h | h
      · exact hle y h
      · omega
    clear xN h hd bd G3 y0
    go_wp2_with fail
    refine wp_region_noPanic ?_
    refine wp_region_held_drew (S := fun w' => w'.cell? ⟨fb, 2, none⟩ = some (.slice (some ⟨gn, 0, none⟩) N cn) ∧ w'.cell? ⟨fb, 1, none⟩ = some (.int .i64 (rd : Int))) (by kernel_rfl) (by rw [hwd]; exact ⟨d2, d1⟩) (fun hHeld => ?_)
    rw [hwd] at hHeld ⊢
    refine drawn_take (i := 0) (v := .pointer (some ⟨fb, 0, none⟩)) (some 16) rfl rfl (by kernel_rfl) (by kernel_rfl) (by kernel_rfl) (fun _ _ _ h => h) (Or.inl ⟨by kernel_rfl, fun wq hw => by go_simp⟩) hHeld ?_
    simp only [Act.put, List.setIfInBounds_toArray, List.set_cons_succ, List.set_cons_zero]
    refine drawn_take (i := 1) (v := .pointer (some ⟨fb, 0, none⟩)) (some 17) rfl rfl (by kernel_rfl) (by kernel_rfl) (by kernel_rfl) (fun _ _ _ h => h) (Or.inl ⟨by kernel_rfl, fun wq hw => by go_simp⟩) hHeld ?_
    simp only [Act.put, List.setIfInBounds_toArray, List.set_cons_succ, List.set_cons_zero]
    refine drawn_take (i := 2) (v := .pointer (some ⟨fb, 2, none⟩)) (some 18) rfl rfl (by kernel_rfl) (by kernel_rfl) (by kernel_rfl) (fun _ _ _ h => h) (Or.inl ⟨by kernel_rfl, fun wq hw => by go_simp⟩) hHeld ?_
    simp only [Act.put, List.setIfInBounds_toArray, List.set_cons_succ, List.set_cons_zero]
    refine drawn_take (i := 3) (v := .slice (some ⟨gn, 0, none⟩) N cn) (some 19) rfl rfl (by kernel_rfl) (by kernel_rfl) (by kernel_rfl) (fun _ _ _ h => h) (Or.inl ⟨by kernel_rfl, fun wq hw => by obtain ⟨h1, h2⟩ := hw; go_simp⟩) hHeld ?_
    simp only [Act.put, List.setIfInBounds_toArray, List.set_cons_succ, List.set_cons_zero]
    refine drawn_take (i := 4) (v := .int .i64 (n : Int)) (some 20) rfl rfl (by kernel_rfl) (by kernel_rfl) (by kernel_rfl) (fun _ _ _ h => h) (Or.inl ⟨by kernel_rfl, fun wq hw => by go_simp⟩) hHeld ?_
    simp only [Act.put, List.setIfInBounds_toArray, List.set_cons_succ, List.set_cons_zero]
    refine drawn_take (i := 5) (v := .pointer (some ⟨fb, 0, none⟩)) (some 21) rfl rfl (by kernel_rfl) (by kernel_rfl) (by kernel_rfl) (fun _ _ _ h => h) (Or.inl ⟨by kernel_rfl, fun wq hw => by go_simp⟩) hHeld ?_
    simp only [Act.put, List.setIfInBounds_toArray, List.set_cons_succ, List.set_cons_zero]
    refine drawn_take (i := 6) (v := .pointer (some ⟨fb, 0, none⟩)) (some 22) rfl rfl (by kernel_rfl) (by kernel_rfl) (by kernel_rfl) (fun _ _ _ h => h) (Or.inl ⟨by kernel_rfl, fun wq hw => by go_simp⟩) hHeld ?_
    simp only [Act.put, List.setIfInBounds_toArray, List.set_cons_succ, List.set_cons_zero]
    refine drawn_take (i := 7) (v := .pointer (some ⟨fb, 1, none⟩)) (some 23) rfl rfl (by kernel_rfl) (by kernel_rfl) (by kernel_rfl) (fun _ _ _ h => h) (Or.inl ⟨by kernel_rfl, fun wq hw => by go_simp⟩) hHeld ?_
    simp only [Act.put, List.setIfInBounds_toArray, List.set_cons_succ, List.set_cons_zero]
    refine drawn_take (i := 8) (v := .int .i64 (rd : Int)) (some 24) rfl rfl (by kernel_rfl) (by kernel_rfl) (by kernel_rfl) (fun _ _ _ h => h) (Or.inl ⟨by kernel_rfl, fun wq hw => by obtain ⟨h1, h2⟩ := hw; go_simp⟩) hHeld ?_
    simp only [Act.put, List.setIfInBounds_toArray, List.set_cons_succ, List.set_cons_zero]
    refine drawn_take (i := 9) (v := .pointer (some ⟨gn, n, none⟩)) (some 25) rfl rfl (by kernel_rfl) (by kernel_rfl) (by kernel_rfl) (fun _ _ _ h => h) (Or.inl ⟨by kernel_rfl, fun wq hw => by go_simp⟩) hHeld ?_
    simp only [Act.put, List.setIfInBounds_toArray, List.set_cons_succ, List.set_cons_zero]
    refine wpAnyH_ready (rs := [10]) (by kernel_rfl) (by simp) ?_
    refine rx_rdy_unit (i := 10) rfl rfl none rfl (wd.setCell ⟨gn, n, none⟩ (.int .i64 (rd : Int))) (by go_simp) ⟨s2, s1⟩ (fun hHeld => ?_) rdy_nil
    refine wpAnyH_done (by kernel_rfl) ?_ _
    refine NoPanic.normal ?_
    simp only [Act.put]
    clear hHeld d1 d2 dv fv
    obtain ⟨w4, hw4⟩ : ∃ w4, w4 = wd.setCell ⟨gn, n, none⟩ (.int .i64 (rd : Int)) := ⟨_, rfl⟩
    rw [← hw4] at s0 s1 s2 s3 st h3 Gd ⊢
    clear hw4 hwd
    cases htk' : s.takes with
    | true =>
      rw [htk'] at st
      have hR : Hid (Z = (x.1.set n rd, x.2 ++ [n])) := hidn (by
        rw [HZ.out]
        simp only [reachF]
        rw [if_neg (by rw [hv]; simpa using hvd), hs]
        simp only [htk', if_true])
      obtain ⟨i0, z, hi0, hz, hzs, hby, hzc⟩ := inInfo
      have hBa : Below w4.heap.size w4 (w4.alloc (.cells #[.int .i64 (n : Int)] 3)) := (Below.refl _ w4).alloc (Nat.le_refl _) _
      have h5 := h3.below hBa
      obtain ⟨g, c, w6, hrun, hown, hgr, hk⟩ := app1 (P := Try.prog) (w4.alloc (.cells #[.int .i64 (n : Int)] 3)) 23 23 3 i0 z 1 8 Try.underlying23 hi0 hz hzs hby hzc (by decide) tk x.2.length _ h5.taking.1 ⟨w4.heap.size, 0, none⟩ 1 [.int .i64 (n : Int)] rfl
        (fun j u hj => by
          match j, hj with
          | 0, hj => simp at hj; subst hj; simp [Addr.add])
        (fun u hu => by
          simp at hu
          subst hu; rfl)
        (by unfold maxLen; omega) (by omega)
      obtain ⟨hblk6, H1, H2⟩ := h5.take hown hgr hk
      have HH1 := hidn H1
      have HH2 := hidn ((Gd.trans (Gw.of (Kp.of_below hBa))).trans H2)
      have e3 : w6.cell? ⟨fb, 3, none⟩ = some tk := cell_of_row _ _ _ _ _ _ hblk6
      have f3 : w6.frozen? ⟨fb, 3, none⟩ = false := unfrozen_of_block hblk6 _
      obtain ⟨M, hM⟩ : ∃ M, M = x.2.length := ⟨_, rfl⟩
      have HM := hidn hM
      simp only at hrun HH1 HH2
      rw [← hM] at hrun HH1 HH2
      have HRUN := hidn hrun
      clear hrun H1 H2 h5 hown hgr hk hi0 hz hzs hby hzc hblk6 hM h3 hBa
      go_wp2_with (at_builtin; refine wpList_app_run rfl _ _ 23 23 rfl rfl tk _ _ rfl rfl HRUN.out ?_)
      exact bodyPost_ret (v := .tuple #[]) (by simp [results, Try.results42, go_sem]) rfl ⟨rfl, _, by rw [hR.out]; exact HH1.out, HH2.out⟩
    | false =>
      rw [htk'] at st
      have hR : Hid (Z = goOnF L rd k n (x.1.set n rd, x.2)) := hidn (by
        rw [HZ.out]
        simp only [reachF, goOnF]
        rw [if_neg (by rw [hv]; simpa using hvd), hs]
        simp only [htk']
        rfl)
      have hcall := HG fb φ L rd (x.1.set n rd, x.2) bf (.slice (some ⟨gs, 0, none⟩) L.length cs) V bv a b n w4 ⟨_, _, h3⟩ hwf hsz hrd (by simp only; omega) (by simp only; omega) hle2 hn
      have HC := hidn hcall
      clear hcall h3
      go_wp2_with fail
      refine HC.out.mono ?_
      rintro e w5 ⟨rfl, φ5, h5, G5⟩
      go_wp2_with fail
      go_end0
      exact ⟨rfl, φ5, by rw [hR.out]; exact h5, Gd.trans G5⟩
theorem reach_all (k : Nat) : ReachC k ∧ GoOnC k := by
  induction k with
  | zero =>
    have h0 : ReachC 0 := by
      intro fb φ L rd x bf sv V bv a b n w h hwf hsz hrd htk hun
      omega
    exact ⟨h0, goOn_step 0 h0⟩
  | succ k ih =>
    have h1 := reach_step k ih.2
    exact ⟨h1, goOn_step (k + 1) h1⟩
end Go.Proofs.Ytdgkjiiegmnjfaa
