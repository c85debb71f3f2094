/- merge: the document's Joined. -/
import Derived.Test.YtkhihochfmgibaaGpT
import Derived.BigRegion
namespace Go.Proofs.Ytkhihochfmgibaa
open Go.RowKit Go.Joins
set_option linter.unusedVariables false

theorem gpD_mem {S : List Gp} {i : Nat} (hi : i < S.length) : gpD S i ∈ S := by
  unfold gpD
  rw [List.getD_eq_getElem?_getD, List.getElem?_eq_getElem hi]
  exact List.getElem_mem hi

set_option maxHeartbeats 8000000 in
set_option maxRecDepth 100000 in
theorem refJoined_any (a : Option Addr) (len cap : Nat) (l : List Gp) (w : World) (h : Gps w a len l) (hm : len ≤ 1000) (hok : ∀ i, GpOK (gpD l i)) :
    Calls Try.prog 6 #[.slice a len cap] w (JnP l w) := by
  have HL := hidn h.1
  have H := hidn h
  have HOK := hidn hok
  clear h hok
  go_enter Try.func6, Try.ntmps6
  go_wp2_with fail
  go_loopw [3, 13] (fun sv iv wr => ∃ (k N : Nat) (S : List Gp), k ≤ len ∧ N ≤ k ∧ iv = .int .i64 (k : Int) ∧ Hid (SrtOf S (l.take k)) ∧ Hid (wr.ownsRow w.heap.size 25 2 sv N (vgp S)) ∧ Hid (Below w.heap.size w wr)) (fun _ iv _ => len - (intOf iv).toNat)
  case atStart => exact ⟨0, 0, [], Nat.zero_le _, Nat.le_refl _, rfl, hidn ⟨List.Pairwise.nil, by simp, fun x => by simp [Cov], by simp⟩, hidn (World.ownsRow_nil _ _ _ _), hidn (Below.refl _ _)⟩
  case round =>
    obtain ⟨k, N, S, hk, hNk, rfl, HS, HO, HB⟩ := hrel
    obtain ⟨wo, hwo⟩ : ∃ wo, wo = wr := ⟨_, rfl⟩
    subst hwo
    by_cases hlt : k < len
    · have hlt2 : (k : Int) < (len : Int) := by omega
      obtain ⟨lb, lo, rfl, hb, hcl⟩ := H.out.pos (by omega)
      have c0 : wo.cell? ⟨lb, lo + k * 2, none⟩ = some (.int .i64 (gpD l k).f) := (HB.out.cell (p := ⟨lb, lo + k * 2, none⟩) hb).trans (hcl k hlt).1
      have c1 : wo.cell? ⟨lb, lo + k * 2 + 1, none⟩ = some (.int .i64 (gpD l k).t) := (HB.out.cell (p := ⟨lb, lo + k * 2 + 1, none⟩) hb).trans (hcl k hlt).2
      have HTM := hidn (gtake_more l k (by rw [HL.out]; exact hlt))
      have HGK : Hid (GpOK (gpD l k)) := hidn (HOK.out k)
      obtain ⟨gf, hgf⟩ : ∃ x, x = (gpD l k).f := ⟨_, rfl⟩
      obtain ⟨gt, hgt⟩ : ∃ x, x = (gpD l k).t := ⟨_, rfl⟩
      rw [← hgf] at c0
      rw [← hgt] at c1
      have HG : Hid (gpD l k = ⟨gf, gt⟩) := hidn (by rw [hgf, hgt])
      rw [HG.out] at HTM HGK
      obtain ⟨w1, hw1⟩ : ∃ w1, w1 = wo.alloc (.cells #[.int .i64 gf, .int .i64 gt] 25) := ⟨_, rfl⟩
      have b1 : Below wo.heap.size wo w1 := by rw [hw1]; exact (Below.refl _ wo).alloc (Nat.le_refl _) _
      have q1 : w1.heap[wo.heap.size]? = some (.cells #[.int .i64 gf, .int .i64 gt] 25 (0, 0)) := by rw [hw1]; exact heap_alloc_new wo _
      have HW1 := hidn hw1
      have HQ1 := hidn q1
      have HB1 := hidn (HB.out.trans (b1.mono HB.out.size))
      have HO1 := hidn (own_skip HO.out b1)
      have hN100 : N ≤ 1000 := by omega
      clear hcl hgf hgt hw1 b1 q1 HO
      by_cases hft : gt < gf
      · have HSN : Hid (SrtOf S (l.take (k + 1))) := hidn (by rw [HTM.out]; exact srtof_skip HS.out (by show ¬ gf ≤ gt; omega))
        go_wp2_with fail
        rw [← HW1.out]
        go_roundw
        case rel => exact ⟨k + 1, N, S, by omega, by omega, by first | rfl | simp, HSN, HO1, HB1⟩
        case measure => simp [intOf]; omega
      · have hft2 : gf ≤ gt := by omega
        obtain ⟨fa, fc, hv, hfc, hF⟩ := gps_of_own HO1.out
        subst hv
        have HF := hidn hF
        have HN : Hid (S.length = N) := hidn hF.1
        clear hF
        go_wp2_with fail
        rw [← HW1.out]
        go_loopw [6] (fun iv wr => ∃ p : Nat, p ≤ N ∧ iv = .int .i64 (p : Int) ∧ Hid (∀ i, p ≤ i → i < N → gf < (gpD S i).f) ∧ Hid (Below w1.heap.size w1 wr)) (fun iv _ => (intOf iv).toNat)
        case atStart => exact ⟨N, Nat.le_refl _, rfl, hidn (fun i h1 h2 => by omega), hidn (Below.refl _ _)⟩
        case round =>
          obtain ⟨p, hpN, rfl, HD, HB3⟩ := hrel
          obtain ⟨w5, hw5⟩ : ∃ w5, w5 = wr := ⟨wr, rfl⟩
          subst hw5
          have HF5 := hidn (HF.out.below HB3.out)
          have q5 := (HB3.out.block _ (Array.getElem?_eq_some_iff.1 HQ1.out).1).trans HQ1.out
          have z0 : w5.cell? ⟨wo.heap.size, 0, none⟩ = some (.int .i64 gf) := cell_of_row _ _ _ _ _ _ q5
          have z1 : w5.cell? ⟨wo.heap.size, 1, none⟩ = some (.int .i64 gt) := cell_of_row _ _ _ _ _ _ q5
          have HQ5 := hidn q5
          clear q5
          by_cases hgo : ∃ q, p = q + 1 ∧ gf < (gpD S q).f
          · obtain ⟨q, hpq, hgx⟩ := hgo
            obtain ⟨xb, xo, hfa, hxb, hxc⟩ := HF5.out.pos (by omega)
            have cx := (hxc q (by omega)).1
            obtain ⟨x, hx⟩ : ∃ x, x = (gpD S q).f := ⟨_, rfl⟩
            rw [← hx] at cx hgx
            have HDQ : Hid (∀ i, q ≤ i → i < N → gf < (gpD S i).f) := hidn (fun i h1 h2 => by
              by_cases hiq : i = q
              · subst hiq; rw [← hx]; exact hgx
              · exact HD.out i (by omega) h2)
            have hp1 : (0 : Int) < (p : Int) := by omega
            have hqi : (p : Int) - 1 = (q : Int) := by omega
            have hqN : (q : Int) < (N : Int) := by omega
            have hqp : q < p := by omega
            have hqN2 : q < N := by omega
            subst hfa
            have HR7 : Hid (∀ W, Below w5.heap.size w5 W → W.cell? ⟨xb, xo + q * 2, none⟩ = some (.int .i64 x) ∧ W.cell? ⟨wo.heap.size, 0, none⟩ = some (.int .i64 gf)) := hidn (fun W hW => ⟨(hW.cell (block_lt_of_cell cx)).trans cx, (hW.cell (block_lt_of_cell z0)).trans z0⟩)
            have HWQ : Hid (IntKind.i64.wrap (q : Int) = (q : Int)) := hidn (by unfold IntKind.wrap IntKind.bits IntKind.signed; simp; omega)
            clear hx hxc hpq HD cx
            go_wp2_with fail
            refine wp_region_noPanic ?_
            refine wp_region_held_drew (S := fun w' => Below w5.heap.size w5 w') (by kernel_rfl) ((Below.refl _ w5).drew) (fun hHeld => ?_)
            refine drawn_take (i := 0) (v := .int .i64 (p : Int)) (some 24) rfl rfl (by kernel_rfl) (by kernel_rfl) (by kernel_rfl) (fun _ _ _ h => h) (Or.inl ⟨by kernel_rfl, fun wq hw => by go_simp⟩) hHeld ?_
            simp only [Act.put, List.setIfInBounds_toArray, List.set_cons_succ, List.set_cons_zero]
            refine drawn_take (i := 1) (v := .bool true) (some 25) rfl rfl (by kernel_rfl) (by kernel_rfl) (by kernel_rfl) (fun _ _ _ h => h) (Or.inl ⟨by kernel_rfl, fun wq hw => by go_simp; omega⟩) hHeld ?_
            simp only [Act.put, List.setIfInBounds_toArray, List.set_cons_succ, List.set_cons_zero]
            refine drawn_take (i := 2) (v := .bool true) (some 26) rfl rfl (by kernel_rfl) (by kernel_rfl) (by kernel_rfl) (fun _ _ _ h => h) (Or.inl ⟨by kernel_rfl, fun wq hw => by go_simp⟩) hHeld ?_
            simp only [Act.put, List.setIfInBounds_toArray, List.set_cons_succ, List.set_cons_zero]
            refine drawn_take (i := 3) (v := .slice (some ⟨xb, xo, none⟩) N fc) (some 27) rfl rfl (by kernel_rfl) (by kernel_rfl) (by kernel_rfl) (fun _ _ _ h => h) (Or.inl ⟨by kernel_rfl, fun wq hw => by go_simp⟩) hHeld ?_
            simp only [Act.put, List.setIfInBounds_toArray, List.set_cons_succ, List.set_cons_zero]
            refine drawn_take (i := 4) (v := .int .i64 (p : Int)) (some 28) rfl rfl (by kernel_rfl) (by kernel_rfl) (by kernel_rfl) (fun _ _ _ h => h) (Or.inl ⟨by kernel_rfl, fun wq hw => by go_simp⟩) hHeld ?_
            simp only [Act.put, List.setIfInBounds_toArray, List.set_cons_succ, List.set_cons_zero]
            refine drawn_take (i := 5) (v := .int .i64 (q : Int)) (some 29) rfl rfl (by kernel_rfl) (by kernel_rfl) (by kernel_rfl) (fun _ _ _ h => h) (Or.inl ⟨by kernel_rfl, fun wq hw => by go_simp; exact HWQ.out⟩) hHeld ?_
            simp only [Act.put, List.setIfInBounds_toArray, List.set_cons_succ, List.set_cons_zero]
            refine drawn_take (i := 6) (v := .pointer (some ⟨xb, xo + q * 2, none⟩)) (some 30) rfl rfl (by kernel_rfl) (by kernel_rfl) (by kernel_rfl) (fun _ _ _ h => h) (Or.inl ⟨by kernel_rfl, fun wq hw => by go_simp⟩) hHeld ?_
            simp only [Act.put, List.setIfInBounds_toArray, List.set_cons_succ, List.set_cons_zero]
            refine drawn_take (i := 7) (v := .pointer (some ⟨xb, xo + q * 2, none⟩)) (some 31) rfl rfl (by kernel_rfl) (by kernel_rfl) (by kernel_rfl) (fun _ _ _ h => h) (Or.inl ⟨by kernel_rfl, fun wq hw => by go_simp⟩) hHeld ?_
            simp only [Act.put, List.setIfInBounds_toArray, List.set_cons_succ, List.set_cons_zero]
            refine drawn_take (i := 8) (v := .int .i64 x) (some 32) rfl rfl (by kernel_rfl) (by kernel_rfl) (by kernel_rfl) (fun _ _ _ h => h) (Or.inl ⟨by kernel_rfl, fun wq hw => by obtain ⟨q1, q2⟩ := HR7.out _ hw; go_simp⟩) hHeld ?_
            simp only [Act.put, List.setIfInBounds_toArray, List.set_cons_succ, List.set_cons_zero]
            refine drawn_take (i := 9) (v := .pointer (some ⟨wo.heap.size, 0, none⟩)) (some 33) rfl rfl (by kernel_rfl) (by kernel_rfl) (by kernel_rfl) (fun _ _ _ h => h) (Or.inl ⟨by kernel_rfl, fun wq hw => by go_simp⟩) hHeld ?_
            simp only [Act.put, List.setIfInBounds_toArray, List.set_cons_succ, List.set_cons_zero]
            refine drawn_take (i := 10) (v := .int .i64 gf) (some 34) rfl rfl (by kernel_rfl) (by kernel_rfl) (by kernel_rfl) (fun _ _ _ h => h) (Or.inl ⟨by kernel_rfl, fun wq hw => by obtain ⟨q1, q2⟩ := HR7.out _ hw; go_simp⟩) hHeld ?_
            simp only [Act.put, List.setIfInBounds_toArray, List.set_cons_succ, List.set_cons_zero]
            refine drawn_take (i := 11) (v := .bool true) (some 35) rfl rfl (by kernel_rfl) (by kernel_rfl) (by kernel_rfl) (fun _ _ _ h => h) (Or.inl ⟨by kernel_rfl, fun wq hw => by go_simp⟩) hHeld ?_
            simp only [Act.put, List.setIfInBounds_toArray, List.set_cons_succ, List.set_cons_zero]
            refine drawn_take (i := 12) (v := .bool true) (some 36) rfl rfl (by kernel_rfl) (by kernel_rfl) (by kernel_rfl) (fun _ _ _ h => h) (Or.inl ⟨by kernel_rfl, fun wq hw => by go_simp⟩) hHeld ?_
            simp only [Act.put, List.setIfInBounds_toArray, List.set_cons_succ, List.set_cons_zero]
            refine wpAnyH_done (by kernel_rfl) ?_ _
            refine NoPanic.normal ?_
            clear hHeld
            go_wp2_with fail
            refine ⟨⟨q, by omega, by simp, HDQ, hidn (HB3.out.drew)⟩, ?_⟩
            simp [intOf]
            omega
          · have HST : Hid (SrtOf (S.take p ++ [⟨gf, gt⟩] ++ S.drop p) (l.take (k + 1))) := hidn (by
              rw [HTM.out]
              refine srtof_ins (by rw [HN.out]; exact hpN) HS.out hft2 HGK.out ?_ (fun i h1 h2 => by have := HD.out i h1 (by rw [← HN.out]; exact h2); show gf ≤ _; omega)
              by_cases hp0 : p = 0
              · exact .inl hp0
              · right
                have : ¬ gf < (gpD S (p - 1)).f := fun h9 => hgo ⟨p - 1, by omega, h9⟩
                show _ ≤ gf
                omega)
            obtain ⟨n0, hn0⟩ : ∃ n0, n0 = w5.heap.size := ⟨_, rfl⟩
            have HNE := hidn hn0
            obtain ⟨kn1, hkn1⟩ : ∃ kn1, kn1 = p + 1 := ⟨_, rfl⟩
            obtain ⟨m2, hm2⟩ : ∃ m2, m2 = N - p := ⟨_, rfl⟩
            obtain ⟨c2, hc2⟩ : ∃ c2, c2 = fc - p := ⟨_, rfl⟩
            obtain ⟨a2, ha2⟩ : ∃ a2 : Option Addr, a2 = (if fc = p then fa else fa.map (·.add (p * 2))) := ⟨_, rfl⟩
            obtain ⟨n9, hn9⟩ : ∃ n9, n9 = kn1 + m2 := ⟨_, rfl⟩
            have hn9' : n9 = N + 1 := by omega
            have hn9k : n9 ≤ k + 1 := by omega
            have HA2 := hidn ha2
            have HM2 := hidn hm2
            have HC2 := hidn hc2
            have hfp : p ≤ fc := by omega
            have HSA : Hid (∀ W, Below n0 w5 W → Gps W fa p (S.take p)) := hidn (fun W hW => (HF5.out.below (by rw [← HNE.out]; exact hW)).take p hpN)
            have HSB : Hid (∀ W, Below n0 w5 W → Gps W a2 m2 (S.drop p)) := hidn (fun W hW => by rw [ha2, hm2]; exact gpLow (HF5.out.below (by rw [← HNE.out]; exact hW)) hfc hpN)
            have HBX : Hid (∀ W, Below n0 w5 W → W.cell? ⟨wo.heap.size, 0, none⟩ = some (.int .i64 gf) ∧ W.cell? ⟨wo.heap.size, 1, none⟩ = some (.int .i64 gt)) := hidn (fun W hW => by
              have q9 := (hW.block _ (by rw [HNE.out]; exact (Array.getElem?_eq_some_iff.1 HQ5.out).1)).trans HQ5.out
              exact ⟨cell_of_row _ _ _ _ _ _ q9, cell_of_row _ _ _ _ _ _ q9⟩)
            have HTAIL : Hid ((p = 0 ∧ ¬ (0 : Int) < (p : Int)) ∨ ∃ q x xb xo, p = q + 1 ∧ fa = some ⟨xb, xo, none⟩ ∧ w5.cell? ⟨xb, xo + q * 2, none⟩ = some (.int .i64 x) ∧ ¬ gf < x) := hidn (by
              by_cases hp0 : p = 0
              · exact .inl ⟨hp0, by omega⟩
              · obtain ⟨xb, xo, hfa, _, hxc⟩ := HF5.out.pos (by omega)
                exact .inr ⟨p - 1, _, xb, xo, by omega, hfa, (hxc (p - 1) (by omega)).1, fun h9 => hgo ⟨p - 1, by omega, h9⟩⟩)
            clear hgo hn0 ha2 hc2 hn9' HD
            rcases HTAIL.out with ⟨hp0, hp1⟩ | ⟨q, x, xb, xo, hpq, hfa, cx, hnx⟩
            · clear hp0 HTAIL
              go_wp2_with fail
              refine wp_region_noPanic ?_
              refine wp_region_held_drew (S := fun w' => Below w5.heap.size w5 w') (by kernel_rfl) ((Below.refl _ w5).drew) (fun hHeld => ?_)
              refine drawn_take (i := 0) (v := .int .i64 (p : Int)) (some 24) rfl rfl (by kernel_rfl) (by kernel_rfl) (by kernel_rfl) (fun _ _ _ h => h) (Or.inl ⟨by kernel_rfl, fun wq hw => by go_simp⟩) hHeld ?_
              simp only [Act.put, List.setIfInBounds_toArray, List.set_cons_succ, List.set_cons_zero]
              refine drawn_take (i := 1) (v := .bool false) (some 25) rfl rfl (by kernel_rfl) (by kernel_rfl) (by kernel_rfl) (fun _ _ _ h => h) (Or.inl ⟨by kernel_rfl, fun wq hw => by go_simp; omega⟩) hHeld ?_
              simp only [Act.put, List.setIfInBounds_toArray, List.set_cons_succ, List.set_cons_zero]
              refine drawn_take (i := 2) (v := .bool false) (some 26) rfl rfl (by kernel_rfl) (by kernel_rfl) (by kernel_rfl) (fun _ _ _ h => h) (Or.inl ⟨by kernel_rfl, fun wq hw => by go_simp⟩) hHeld ?_
              simp only [Act.put, List.setIfInBounds_toArray, List.set_cons_succ, List.set_cons_zero]
              refine drawn_take (i := 3) (v := undef) (some 27) rfl rfl (by kernel_rfl) (by kernel_rfl) (by kernel_rfl) (fun _ _ _ h => h) (Or.inr ⟨by kernel_rfl, rfl⟩) hHeld ?_
              simp only [Act.put, List.setIfInBounds_toArray, List.set_cons_succ, List.set_cons_zero]
              refine drawn_take (i := 4) (v := undef) (some 28) rfl rfl (by kernel_rfl) (by kernel_rfl) (by kernel_rfl) (fun _ _ _ h => h) (Or.inr ⟨by kernel_rfl, rfl⟩) hHeld ?_
              simp only [Act.put, List.setIfInBounds_toArray, List.set_cons_succ, List.set_cons_zero]
              refine drawn_take (i := 5) (v := undef) (some 29) rfl rfl (by kernel_rfl) (by kernel_rfl) (by kernel_rfl) (fun _ _ _ h => h) (Or.inr ⟨by kernel_rfl, rfl⟩) hHeld ?_
              simp only [Act.put, List.setIfInBounds_toArray, List.set_cons_succ, List.set_cons_zero]
              refine drawn_take (i := 6) (v := undef) (some 30) rfl rfl (by kernel_rfl) (by kernel_rfl) (by kernel_rfl) (fun _ _ _ h => h) (Or.inr ⟨by kernel_rfl, rfl⟩) hHeld ?_
              simp only [Act.put, List.setIfInBounds_toArray, List.set_cons_succ, List.set_cons_zero]
              refine drawn_take (i := 7) (v := undef) (some 31) rfl rfl (by kernel_rfl) (by kernel_rfl) (by kernel_rfl) (fun _ _ _ h => h) (Or.inr ⟨by kernel_rfl, rfl⟩) hHeld ?_
              simp only [Act.put, List.setIfInBounds_toArray, List.set_cons_succ, List.set_cons_zero]
              refine drawn_take (i := 8) (v := undef) (some 32) rfl rfl (by kernel_rfl) (by kernel_rfl) (by kernel_rfl) (fun _ _ _ h => h) (Or.inr ⟨by kernel_rfl, rfl⟩) hHeld ?_
              simp only [Act.put, List.setIfInBounds_toArray, List.set_cons_succ, List.set_cons_zero]
              refine drawn_take (i := 9) (v := undef) (some 33) rfl rfl (by kernel_rfl) (by kernel_rfl) (by kernel_rfl) (fun _ _ _ h => h) (Or.inr ⟨by kernel_rfl, rfl⟩) hHeld ?_
              simp only [Act.put, List.setIfInBounds_toArray, List.set_cons_succ, List.set_cons_zero]
              refine drawn_take (i := 10) (v := undef) (some 34) rfl rfl (by kernel_rfl) (by kernel_rfl) (by kernel_rfl) (fun _ _ _ h => h) (Or.inr ⟨by kernel_rfl, rfl⟩) hHeld ?_
              simp only [Act.put, List.setIfInBounds_toArray, List.set_cons_succ, List.set_cons_zero]
              refine drawn_take (i := 11) (v := undef) (some 35) rfl rfl (by kernel_rfl) (by kernel_rfl) (by kernel_rfl) (fun _ _ _ h => h) (Or.inr ⟨by kernel_rfl, rfl⟩) hHeld ?_
              simp only [Act.put, List.setIfInBounds_toArray, List.set_cons_succ, List.set_cons_zero]
              refine drawn_take (i := 12) (v := .bool false) (some 36) rfl rfl (by kernel_rfl) (by kernel_rfl) (by kernel_rfl) (fun _ _ _ h => h) (Or.inl ⟨by kernel_rfl, fun wq hw => by go_simp⟩) hHeld ?_
              simp only [Act.put, List.setIfInBounds_toArray, List.set_cons_succ, List.set_cons_zero]
              refine wpAnyH_done (by kernel_rfl) ?_ _
              refine NoPanic.normal ?_
              clear hHeld
              go_wp2_with fail
              refine gp_cut (fun li wx => ∃ (x39 x43 x45 x46 : Value) (ga : Option Addr) (gc : Nat) (u : Unit), li = [(40, .slice fa N fc), (41, .int .i64 (p : Int)), (42, .slice fa p fc), (44, .agg #[.int .i64 gf, .int .i64 gt]), (47, .slice fa N fc), (48, .int .i64 (p : Int)), (49, .slice a2 m2 c2), (39, x39), (43, x43), (45, x45), (46, x46), (50, .slice ga n9 gc), (3, .slice ga n9 gc)] ∧ Below n0 w5 wx ∧ wx.ownsRow n0 25 2 (.slice ga n9 gc) n9 ([] ++ vgp (S.take p) ++ vgp [(⟨gf, gt⟩ : Gp)] ++ vgp (S.drop p))) ?_ ?_
              · obtain ⟨Wd, hWd⟩ : ∃ Wd, Wd = w5.drew.drew := ⟨_, rfl⟩
                have hK0 : Below n0 w5 Wd := by rw [hWd]; exact ((Below.refl n0 w5).drew).drew
                have hle0 : n0 ≤ Wd.heap.size := by rw [hWd, HNE.out]; exact Nat.le_refl _
                refine wp_region_noPanic ?_
                refine wp_region_held_drew (S := Below n0 w5) (by kernel_rfl) (((Below.refl n0 w5).drew).drew) (fun hHeld => ?_)
                rw [← hWd] at hHeld ⊢
                clear hWd
                refine drawn_take (i := 1) (v := .slice fa N fc) (some 40) rfl rfl (by kernel_rfl) (by kernel_rfl) (by kernel_rfl) (fun _ _ _ h => h) (Or.inl ⟨by kernel_rfl, fun wq hw => by go_simp⟩) hHeld ?_
                simp only [Act.put, List.setIfInBounds_toArray, List.set_cons_succ, List.set_cons_zero]
                refine drawn_take (i := 2) (v := .int .i64 (p : Int)) (some 41) rfl rfl (by kernel_rfl) (by kernel_rfl) (by kernel_rfl) (fun _ _ _ h => h) (Or.inl ⟨by kernel_rfl, fun wq hw => by go_simp⟩) hHeld ?_
                simp only [Act.put, List.setIfInBounds_toArray, List.set_cons_succ, List.set_cons_zero]
                refine drawn_take (i := 3) (v := .slice fa p fc) (some 42) rfl rfl (by kernel_rfl) (by kernel_rfl) (by kernel_rfl) (fun _ _ _ h => h) (Or.inl ⟨by kernel_rfl, fun wq hw => gp_slH (N := N) (x := .tmp 40) (z := .tmp 41) rfl (by kernel_rfl) (by kernel_rfl) hfp⟩) hHeld ?_
                simp only [Act.put, List.setIfInBounds_toArray, List.set_cons_succ, List.set_cons_zero]
                refine drawn_take (i := 5) (v := .agg #[.int .i64 gf, .int .i64 gt]) (some 44) rfl rfl (by kernel_rfl) (by kernel_rfl) (by kernel_rfl) (fun _ _ _ h => h) (Or.inl ⟨by kernel_rfl, fun wq hw => by obtain ⟨q1, q2⟩ := HBX.out _ hw; go_simp⟩) hHeld ?_
                simp only [Act.put, List.setIfInBounds_toArray, List.set_cons_succ, List.set_cons_zero]
                refine drawn_take (i := 8) (v := .slice fa N fc) (some 47) rfl rfl (by kernel_rfl) (by kernel_rfl) (by kernel_rfl) (fun _ _ _ h => h) (Or.inl ⟨by kernel_rfl, fun wq hw => by go_simp⟩) hHeld ?_
                simp only [Act.put, List.setIfInBounds_toArray, List.set_cons_succ, List.set_cons_zero]
                refine drawn_take (i := 9) (v := .int .i64 (p : Int)) (some 48) rfl rfl (by kernel_rfl) (by kernel_rfl) (by kernel_rfl) (fun _ _ _ h => h) (Or.inl ⟨by kernel_rfl, fun wq hw => by go_simp⟩) hHeld ?_
                simp only [Act.put, List.setIfInBounds_toArray, List.set_cons_succ, List.set_cons_zero]
                refine drawn_take (i := 10) (v := .slice a2 m2 c2) (some 49) rfl rfl (by kernel_rfl) (by kernel_rfl) (by kernel_rfl) (fun _ _ _ h => h) (Or.inl ⟨by kernel_rfl, fun wq hw => gp_slL (x := .tmp 47) (z := .tmp 48) rfl (by kernel_rfl) (by kernel_rfl) hpN HA2 HM2 HC2⟩) hHeld ?_
                simp only [Act.put, List.setIfInBounds_toArray, List.set_cons_succ, List.set_cons_zero]
                obtain ⟨X1, hX1⟩ : ∃ W, W = Wd.alloc (.cells #[] 25) := ⟨_, rfl⟩
                have b1 : Below Wd.heap.size Wd X1 := by rw [hX1]; exact (Below.refl _ Wd).alloc (Nat.le_refl _) _
                have q1 : X1.heap[Wd.heap.size]? = some (.cells #[] 25 (0, 0)) := by rw [hX1]; exact heap_alloc_new Wd _
                have l1 : n0 ≤ X1.heap.size := Nat.le_trans hle0 b1.size
                have k1 : Below n0 w5 X1 := hK0.trans (b1.mono hle0)
                have o1 := gp_empty q1 hle0
                obtain ⟨X11, hX11⟩ : ∃ W, W = Wd.alloc (.cells #[.int .i64 gf, .int .i64 gt] 25) := ⟨_, rfl⟩
                have b11 : Below Wd.heap.size Wd X11 := by rw [hX11]; exact (Below.refl _ Wd).alloc (Nat.le_refl _) _
                have e11 : X11.heap[Wd.heap.size]? = some (.cells #[.int .i64 gf, .int .i64 gt] 25 (0, 0)) := by rw [hX11]; exact heap_alloc_new Wd _
                have l11 : n0 ≤ X11.heap.size := Nat.le_trans hle0 b11.size
                have k11 : Below n0 w5 X11 := hK0.trans (b11.mono hle0)
                refine wpAnyH_ready (rs := [0, 6]) (by kernel_rfl) (by simp) ?_
                refine rdy_val (i := 0) rfl rfl (some 39) rfl (.slice (some ⟨Wd.heap.size, 0, none⟩) 0 0) X1 (by rw [hX1]; exact gp_mk0 rfl) k1 (fun hHeld => ?br16a) (rdy_val (i := 6) rfl rfl (some 45) rfl (.slice (some ⟨Wd.heap.size, 0, none⟩) 1 1) X11 (by rw [hX11]; exact gp_mk1 (x := .tmp 44) rfl (by kernel_rfl)) k11 (fun hHeld => ?br16b) rdy_nil)
                case br16a =>
                  simp only [Act.put, List.setIfInBounds_toArray, List.set_cons_succ, List.set_cons_zero]
                  obtain ⟨ga2, gc2, X2, r2, o2, g2⟩ := gpApp X1 n0 (.slice (some ⟨Wd.heap.size, 0, none⟩) 0 0) 0 [] o1 l1 fa p fc (S.take p) (HSA.out X1 k1) p (by omega) (by omega)
                  have l2 : n0 ≤ X2.heap.size := Nat.le_trans l1 g2.size
                  have k2 : Below n0 w5 X2 := k1.grown g2 l1 (fun b hb => (o1.lt b hb).1)
                  obtain ⟨X6, hX6⟩ : ∃ W, W = X1.alloc (.cells #[.int .i64 gf, .int .i64 gt] 25) := ⟨_, rfl⟩
                  have b6 : Below X1.heap.size X1 X6 := by rw [hX6]; exact (Below.refl _ X1).alloc (Nat.le_refl _) _
                  have e6 : X6.heap[X1.heap.size]? = some (.cells #[.int .i64 gf, .int .i64 gt] 25 (0, 0)) := by rw [hX6]; exact heap_alloc_new X1 _
                  have l6 : n0 ≤ X6.heap.size := Nat.le_trans l1 b6.size
                  have k6 : Below n0 w5 X6 := k1.trans (b6.mono l1)
                  have o6 := own_skip o1 b6
                  have d6 : Wd.heap.size ≠ X1.heap.size := by have := (Array.getElem?_eq_some_iff.1 q1).1; omega
                  refine wpAnyH_ready (rs := [4, 6]) (by kernel_rfl) (by simp) ?_
                  refine rdy_val (i := 4) rfl rfl (some 43) rfl (.slice ga2 p gc2) X2 (gp_appr (x := .tmp 39) (y := .tmp 42) rfl (by kernel_rfl) (by kernel_rfl) r2) k2 (fun hHeld => ?br10a) (rdy_val (i := 6) rfl rfl (some 45) rfl (.slice (some ⟨X1.heap.size, 0, none⟩) 1 1) X6 (by rw [hX6]; exact gp_mk1 (x := .tmp 44) rfl (by kernel_rfl)) k6 (fun hHeld => ?br10b) rdy_nil)
                  case br10a =>
                    simp only [Act.put, List.setIfInBounds_toArray, List.set_cons_succ, List.set_cons_zero]
                    obtain ⟨X3, hX3⟩ : ∃ W, W = X2.alloc (.cells #[.int .i64 gf, .int .i64 gt] 25) := ⟨_, rfl⟩
                    have b3 : Below X2.heap.size X2 X3 := by rw [hX3]; exact (Below.refl _ X2).alloc (Nat.le_refl _) _
                    have e3 : X3.heap[X2.heap.size]? = some (.cells #[.int .i64 gf, .int .i64 gt] 25 (0, 0)) := by rw [hX3]; exact heap_alloc_new X2 _
                    have l3 : n0 ≤ X3.heap.size := Nat.le_trans l2 b3.size
                    have k3 : Below n0 w5 X3 := k2.trans (b3.mono l2)
                    have o3 := own_skip o2 b3
                    refine wpAnyH_ready (rs := [6]) (by kernel_rfl) (by simp) ?_
                    refine rdy_val (i := 6) rfl rfl (some 45) rfl (.slice (some ⟨X2.heap.size, 0, none⟩) 1 1) X3 (by rw [hX3]; exact gp_mk1 (x := .tmp 44) rfl (by kernel_rfl)) k3 (fun hHeld => ?_) rdy_nil
                    simp only [Act.put, List.setIfInBounds_toArray, List.set_cons_succ, List.set_cons_zero]
                    obtain ⟨ga4, gc4, X4, r4, o4, g4⟩ := gpApp X3 n0 (.slice ga2 p gc2) p ([] ++ vgp (S.take p)) o3 l3 (some ⟨X2.heap.size, 0, none⟩) 1 1 [(⟨gf, gt⟩ : Gp)] (gp_n1 e3) kn1 (by omega) (by omega)
                    have l4 : n0 ≤ X4.heap.size := Nat.le_trans l3 g4.size
                    have k4 : Below n0 w5 X4 := k3.grown g4 l3 (fun b hb => (o3.lt b hb).1)
                    refine wpAnyH_ready (rs := [7]) (by kernel_rfl) (by simp) ?_
                    refine rdy_val (i := 7) rfl rfl (some 46) rfl (.slice ga4 kn1 gc4) X4 (gp_appr (x := .tmp 43) (y := .tmp 45) rfl (by kernel_rfl) (by kernel_rfl) r4) k4 (fun hHeld => ?_) rdy_nil
                    simp only [Act.put, List.setIfInBounds_toArray, List.set_cons_succ, List.set_cons_zero]
                    obtain ⟨ga5, gc5, X5, r5, o5, g5⟩ := gpApp X4 n0 (.slice ga4 kn1 gc4) kn1 ([] ++ vgp (S.take p) ++ vgp [(⟨gf, gt⟩ : Gp)]) o4 l4 a2 m2 c2 (S.drop p) (HSB.out X4 k4) n9 (by omega) (by omega)
                    have l5 : n0 ≤ X5.heap.size := Nat.le_trans l4 g5.size
                    have k5 : Below n0 w5 X5 := k4.grown g5 l4 (fun b hb => (o4.lt b hb).1)
                    refine wpAnyH_ready (rs := [11]) (by kernel_rfl) (by simp) ?_
                    refine rdy_val (i := 11) rfl rfl (some 50) rfl (.slice ga5 n9 gc5) X5 (gp_appr (x := .tmp 46) (y := .tmp 49) rfl (by kernel_rfl) (by kernel_rfl) r5) k5 (fun hHeld => ?_) rdy_nil
                    simp only [Act.put, List.setIfInBounds_toArray, List.set_cons_succ, List.set_cons_zero]
                    refine drawn_take (i := 12) (v := (.slice ga5 n9 gc5)) (some 3) rfl rfl (by kernel_rfl) (by kernel_rfl) (by kernel_rfl) (fun _ _ _ h => h) (Or.inl ⟨by kernel_rfl, fun wq hw => by go_simp⟩) hHeld ?_
                    simp only [Act.put, List.setIfInBounds_toArray, List.set_cons_succ, List.set_cons_zero]
                    refine wpAnyH_done (by kernel_rfl) ?_ _
                    refine NoPanic.normal ?_
                    clear hHeld
                    exact ⟨rfl, _, ⟨.slice (some ⟨Wd.heap.size, 0, none⟩) 0 0, .slice ga2 p gc2, .slice (some ⟨X2.heap.size, 0, none⟩) 1 1, .slice ga4 kn1 gc4, _, _, (), rfl, k5, o5⟩, by kernel_rfl⟩
                  case br10b =>
                    simp only [Act.put, List.setIfInBounds_toArray, List.set_cons_succ, List.set_cons_zero]
                    obtain ⟨ga7, gc7, X7, r7, o7, g7⟩ := gpApp X6 n0 (.slice (some ⟨Wd.heap.size, 0, none⟩) 0 0) 0 [] o6 l6 fa p fc (S.take p) (HSA.out X6 k6) p (by omega) (by omega)
                    have l7 : n0 ≤ X7.heap.size := Nat.le_trans l6 g7.size
                    have k7 : Below n0 w5 X7 := k6.grown g7 l6 (fun b hb => (o6.lt b hb).1)
                    have e7 := (g7.block X1.heap.size (Array.getElem?_eq_some_iff.1 e6).1 (fun e => d6 (Option.some.inj e).symm)).trans e6
                    refine wpAnyH_ready (rs := [4]) (by kernel_rfl) (by simp) ?_
                    refine rdy_val (i := 4) rfl rfl (some 43) rfl (.slice ga7 p gc7) X7 (gp_appr (x := .tmp 39) (y := .tmp 42) rfl (by kernel_rfl) (by kernel_rfl) r7) k7 (fun hHeld => ?_) rdy_nil
                    simp only [Act.put, List.setIfInBounds_toArray, List.set_cons_succ, List.set_cons_zero]
                    obtain ⟨ga8, gc8, X8, r8, o8, g8⟩ := gpApp X7 n0 (.slice ga7 p gc7) p ([] ++ vgp (S.take p)) o7 l7 (some ⟨X1.heap.size, 0, none⟩) 1 1 [(⟨gf, gt⟩ : Gp)] (gp_n1 e7) kn1 (by omega) (by omega)
                    have l8 : n0 ≤ X8.heap.size := Nat.le_trans l7 g8.size
                    have k8 : Below n0 w5 X8 := k7.grown g8 l7 (fun b hb => (o7.lt b hb).1)
                    refine wpAnyH_ready (rs := [7]) (by kernel_rfl) (by simp) ?_
                    refine rdy_val (i := 7) rfl rfl (some 46) rfl (.slice ga8 kn1 gc8) X8 (gp_appr (x := .tmp 43) (y := .tmp 45) rfl (by kernel_rfl) (by kernel_rfl) r8) k8 (fun hHeld => ?_) rdy_nil
                    simp only [Act.put, List.setIfInBounds_toArray, List.set_cons_succ, List.set_cons_zero]
                    obtain ⟨ga9, gc9, X9, r9, o9, g9⟩ := gpApp X8 n0 (.slice ga8 kn1 gc8) kn1 ([] ++ vgp (S.take p) ++ vgp [(⟨gf, gt⟩ : Gp)]) o8 l8 a2 m2 c2 (S.drop p) (HSB.out X8 k8) n9 (by omega) (by omega)
                    have l9 : n0 ≤ X9.heap.size := Nat.le_trans l8 g9.size
                    have k9 : Below n0 w5 X9 := k8.grown g9 l8 (fun b hb => (o8.lt b hb).1)
                    refine wpAnyH_ready (rs := [11]) (by kernel_rfl) (by simp) ?_
                    refine rdy_val (i := 11) rfl rfl (some 50) rfl (.slice ga9 n9 gc9) X9 (gp_appr (x := .tmp 46) (y := .tmp 49) rfl (by kernel_rfl) (by kernel_rfl) r9) k9 (fun hHeld => ?_) rdy_nil
                    simp only [Act.put, List.setIfInBounds_toArray, List.set_cons_succ, List.set_cons_zero]
                    refine drawn_take (i := 12) (v := (.slice ga9 n9 gc9)) (some 3) rfl rfl (by kernel_rfl) (by kernel_rfl) (by kernel_rfl) (fun _ _ _ h => h) (Or.inl ⟨by kernel_rfl, fun wq hw => by go_simp⟩) hHeld ?_
                    simp only [Act.put, List.setIfInBounds_toArray, List.set_cons_succ, List.set_cons_zero]
                    refine wpAnyH_done (by kernel_rfl) ?_ _
                    refine NoPanic.normal ?_
                    clear hHeld
                    exact ⟨rfl, _, ⟨.slice (some ⟨Wd.heap.size, 0, none⟩) 0 0, .slice ga7 p gc7, .slice (some ⟨X1.heap.size, 0, none⟩) 1 1, .slice ga8 kn1 gc8, _, _, (), rfl, k9, o9⟩, by kernel_rfl⟩
                case br16b =>
                  simp only [Act.put, List.setIfInBounds_toArray, List.set_cons_succ, List.set_cons_zero]
                  obtain ⟨X12, hX12⟩ : ∃ W, W = X11.alloc (.cells #[] 25) := ⟨_, rfl⟩
                  have b12 : Below X11.heap.size X11 X12 := by rw [hX12]; exact (Below.refl _ X11).alloc (Nat.le_refl _) _
                  have q12 : X12.heap[X11.heap.size]? = some (.cells #[] 25 (0, 0)) := by rw [hX12]; exact heap_alloc_new X11 _
                  have l12 : n0 ≤ X12.heap.size := Nat.le_trans l11 b12.size
                  have k12 : Below n0 w5 X12 := k11.trans (b12.mono l11)
                  have o12 := gp_empty q12 l11
                  have e12 := (b12.block Wd.heap.size (Array.getElem?_eq_some_iff.1 e11).1).trans e11
                  have d12 : X11.heap.size ≠ Wd.heap.size := by have := (Array.getElem?_eq_some_iff.1 e11).1; omega
                  refine wpAnyH_ready (rs := [0]) (by kernel_rfl) (by simp) ?_
                  refine rdy_val (i := 0) rfl rfl (some 39) rfl (.slice (some ⟨X11.heap.size, 0, none⟩) 0 0) X12 (by rw [hX12]; exact gp_mk0 rfl) k12 (fun hHeld => ?_) rdy_nil
                  simp only [Act.put, List.setIfInBounds_toArray, List.set_cons_succ, List.set_cons_zero]
                  obtain ⟨ga13, gc13, X13, r13, o13, g13⟩ := gpApp X12 n0 (.slice (some ⟨X11.heap.size, 0, none⟩) 0 0) 0 [] o12 l12 fa p fc (S.take p) (HSA.out X12 k12) p (by omega) (by omega)
                  have l13 : n0 ≤ X13.heap.size := Nat.le_trans l12 g13.size
                  have k13 : Below n0 w5 X13 := k12.grown g13 l12 (fun b hb => (o12.lt b hb).1)
                  have e13 := (g13.block Wd.heap.size (Array.getElem?_eq_some_iff.1 e12).1 (fun e => d12 (Option.some.inj e).symm)).trans e12
                  refine wpAnyH_ready (rs := [4]) (by kernel_rfl) (by simp) ?_
                  refine rdy_val (i := 4) rfl rfl (some 43) rfl (.slice ga13 p gc13) X13 (gp_appr (x := .tmp 39) (y := .tmp 42) rfl (by kernel_rfl) (by kernel_rfl) r13) k13 (fun hHeld => ?_) rdy_nil
                  simp only [Act.put, List.setIfInBounds_toArray, List.set_cons_succ, List.set_cons_zero]
                  obtain ⟨ga14, gc14, X14, r14, o14, g14⟩ := gpApp X13 n0 (.slice ga13 p gc13) p ([] ++ vgp (S.take p)) o13 l13 (some ⟨Wd.heap.size, 0, none⟩) 1 1 [(⟨gf, gt⟩ : Gp)] (gp_n1 e13) kn1 (by omega) (by omega)
                  have l14 : n0 ≤ X14.heap.size := Nat.le_trans l13 g14.size
                  have k14 : Below n0 w5 X14 := k13.grown g14 l13 (fun b hb => (o13.lt b hb).1)
                  refine wpAnyH_ready (rs := [7]) (by kernel_rfl) (by simp) ?_
                  refine rdy_val (i := 7) rfl rfl (some 46) rfl (.slice ga14 kn1 gc14) X14 (gp_appr (x := .tmp 43) (y := .tmp 45) rfl (by kernel_rfl) (by kernel_rfl) r14) k14 (fun hHeld => ?_) rdy_nil
                  simp only [Act.put, List.setIfInBounds_toArray, List.set_cons_succ, List.set_cons_zero]
                  obtain ⟨ga15, gc15, X15, r15, o15, g15⟩ := gpApp X14 n0 (.slice ga14 kn1 gc14) kn1 ([] ++ vgp (S.take p) ++ vgp [(⟨gf, gt⟩ : Gp)]) o14 l14 a2 m2 c2 (S.drop p) (HSB.out X14 k14) n9 (by omega) (by omega)
                  have l15 : n0 ≤ X15.heap.size := Nat.le_trans l14 g15.size
                  have k15 : Below n0 w5 X15 := k14.grown g15 l14 (fun b hb => (o14.lt b hb).1)
                  refine wpAnyH_ready (rs := [11]) (by kernel_rfl) (by simp) ?_
                  refine rdy_val (i := 11) rfl rfl (some 50) rfl (.slice ga15 n9 gc15) X15 (gp_appr (x := .tmp 46) (y := .tmp 49) rfl (by kernel_rfl) (by kernel_rfl) r15) k15 (fun hHeld => ?_) rdy_nil
                  simp only [Act.put, List.setIfInBounds_toArray, List.set_cons_succ, List.set_cons_zero]
                  refine drawn_take (i := 12) (v := (.slice ga15 n9 gc15)) (some 3) rfl rfl (by kernel_rfl) (by kernel_rfl) (by kernel_rfl) (fun _ _ _ h => h) (Or.inl ⟨by kernel_rfl, fun wq hw => by go_simp⟩) hHeld ?_
                  simp only [Act.put, List.setIfInBounds_toArray, List.set_cons_succ, List.set_cons_zero]
                  refine wpAnyH_done (by kernel_rfl) ?_ _
                  refine NoPanic.normal ?_
                  clear hHeld
                  exact ⟨rfl, _, ⟨.slice (some ⟨X11.heap.size, 0, none⟩) 0 0, .slice ga13 p gc13, .slice (some ⟨Wd.heap.size, 0, none⟩) 1 1, .slice ga14 kn1 gc14, _, _, (), rfl, k15, o15⟩, by kernel_rfl⟩
              · rintro li w6 ⟨x39, x43, x45, x46, ga, gc, _, rfl, hB6, ho6⟩
                have HB6 : Below w5.heap.size w5 w6 := by rw [← HNE.out]; exact hB6
                have hs5 : w.heap.size ≤ w5.heap.size := Nat.le_trans HB1.out.size HB3.out.size
                have HOO : Hid (w6.ownsRow w.heap.size 25 2 (.slice ga n9 gc) n9 (vgp (S.take p ++ [⟨gf, gt⟩] ++ S.drop p))) := hidn (by
                  rw [vgp_app, vgp_app]
                  exact own_lowG ho6 (by rw [HNE.out]; exact hs5))
                have HB7 := hidn (HB1.out.trans ((HB3.out.trans (HB6.mono HB3.out.size)).mono HB1.out.size))
                clear hB6 ho6 HB6
                simp only [gpPutAll, List.foldl_cons, List.foldl_nil, Act.put, List.setIfInBounds_toArray, List.set_cons_succ, List.set_cons_zero]
                go_wp2_with fail
                exact ⟨⟨k + 1, n9, _, by omega, by omega, by simp, HST, HOO, HB7⟩, by simp [intOf]; omega⟩
            · have hp1 : (0 : Int) < (p : Int) := by omega
              have hqi : (p : Int) - 1 = (q : Int) := by omega
              have hqN : (q : Int) < (N : Int) := by omega
              have hqN2 : q < N := by omega
              clear hpq HTAIL
              subst hfa
              have HR7 : Hid (∀ W, Below w5.heap.size w5 W → W.cell? ⟨xb, xo + q * 2, none⟩ = some (.int .i64 x) ∧ W.cell? ⟨wo.heap.size, 0, none⟩ = some (.int .i64 gf)) := hidn (fun W hW => ⟨(hW.cell (block_lt_of_cell cx)).trans cx, (hW.cell (block_lt_of_cell z0)).trans z0⟩)
              have HWQ : Hid (IntKind.i64.wrap (q : Int) = (q : Int)) := hidn (by unfold IntKind.wrap IntKind.bits IntKind.signed; simp; omega)
              clear cx
              go_wp2_with fail
              refine wp_region_noPanic ?_
              refine wp_region_held_drew (S := fun w' => Below w5.heap.size w5 w') (by kernel_rfl) ((Below.refl _ w5).drew) (fun hHeld => ?_)
              refine drawn_take (i := 0) (v := .int .i64 (p : Int)) (some 24) rfl rfl (by kernel_rfl) (by kernel_rfl) (by kernel_rfl) (fun _ _ _ h => h) (Or.inl ⟨by kernel_rfl, fun wq hw => by go_simp⟩) hHeld ?_
              simp only [Act.put, List.setIfInBounds_toArray, List.set_cons_succ, List.set_cons_zero]
              refine drawn_take (i := 1) (v := .bool true) (some 25) rfl rfl (by kernel_rfl) (by kernel_rfl) (by kernel_rfl) (fun _ _ _ h => h) (Or.inl ⟨by kernel_rfl, fun wq hw => by go_simp; omega⟩) hHeld ?_
              simp only [Act.put, List.setIfInBounds_toArray, List.set_cons_succ, List.set_cons_zero]
              refine drawn_take (i := 2) (v := .bool true) (some 26) rfl rfl (by kernel_rfl) (by kernel_rfl) (by kernel_rfl) (fun _ _ _ h => h) (Or.inl ⟨by kernel_rfl, fun wq hw => by go_simp⟩) hHeld ?_
              simp only [Act.put, List.setIfInBounds_toArray, List.set_cons_succ, List.set_cons_zero]
              refine drawn_take (i := 3) (v := .slice (some ⟨xb, xo, none⟩) N fc) (some 27) rfl rfl (by kernel_rfl) (by kernel_rfl) (by kernel_rfl) (fun _ _ _ h => h) (Or.inl ⟨by kernel_rfl, fun wq hw => by go_simp⟩) hHeld ?_
              simp only [Act.put, List.setIfInBounds_toArray, List.set_cons_succ, List.set_cons_zero]
              refine drawn_take (i := 4) (v := .int .i64 (p : Int)) (some 28) rfl rfl (by kernel_rfl) (by kernel_rfl) (by kernel_rfl) (fun _ _ _ h => h) (Or.inl ⟨by kernel_rfl, fun wq hw => by go_simp⟩) hHeld ?_
              simp only [Act.put, List.setIfInBounds_toArray, List.set_cons_succ, List.set_cons_zero]
              refine drawn_take (i := 5) (v := .int .i64 (q : Int)) (some 29) rfl rfl (by kernel_rfl) (by kernel_rfl) (by kernel_rfl) (fun _ _ _ h => h) (Or.inl ⟨by kernel_rfl, fun wq hw => by go_simp; exact HWQ.out⟩) hHeld ?_
              simp only [Act.put, List.setIfInBounds_toArray, List.set_cons_succ, List.set_cons_zero]
              refine drawn_take (i := 6) (v := .pointer (some ⟨xb, xo + q * 2, none⟩)) (some 30) rfl rfl (by kernel_rfl) (by kernel_rfl) (by kernel_rfl) (fun _ _ _ h => h) (Or.inl ⟨by kernel_rfl, fun wq hw => by go_simp⟩) hHeld ?_
              simp only [Act.put, List.setIfInBounds_toArray, List.set_cons_succ, List.set_cons_zero]
              refine drawn_take (i := 7) (v := .pointer (some ⟨xb, xo + q * 2, none⟩)) (some 31) rfl rfl (by kernel_rfl) (by kernel_rfl) (by kernel_rfl) (fun _ _ _ h => h) (Or.inl ⟨by kernel_rfl, fun wq hw => by go_simp⟩) hHeld ?_
              simp only [Act.put, List.setIfInBounds_toArray, List.set_cons_succ, List.set_cons_zero]
              refine drawn_take (i := 8) (v := .int .i64 x) (some 32) rfl rfl (by kernel_rfl) (by kernel_rfl) (by kernel_rfl) (fun _ _ _ h => h) (Or.inl ⟨by kernel_rfl, fun wq hw => by obtain ⟨q1, q2⟩ := HR7.out _ hw; go_simp⟩) hHeld ?_
              simp only [Act.put, List.setIfInBounds_toArray, List.set_cons_succ, List.set_cons_zero]
              refine drawn_take (i := 9) (v := .pointer (some ⟨wo.heap.size, 0, none⟩)) (some 33) rfl rfl (by kernel_rfl) (by kernel_rfl) (by kernel_rfl) (fun _ _ _ h => h) (Or.inl ⟨by kernel_rfl, fun wq hw => by go_simp⟩) hHeld ?_
              simp only [Act.put, List.setIfInBounds_toArray, List.set_cons_succ, List.set_cons_zero]
              refine drawn_take (i := 10) (v := .int .i64 gf) (some 34) rfl rfl (by kernel_rfl) (by kernel_rfl) (by kernel_rfl) (fun _ _ _ h => h) (Or.inl ⟨by kernel_rfl, fun wq hw => by obtain ⟨q1, q2⟩ := HR7.out _ hw; go_simp⟩) hHeld ?_
              simp only [Act.put, List.setIfInBounds_toArray, List.set_cons_succ, List.set_cons_zero]
              refine drawn_take (i := 11) (v := .bool false) (some 35) rfl rfl (by kernel_rfl) (by kernel_rfl) (by kernel_rfl) (fun _ _ _ h => h) (Or.inl ⟨by kernel_rfl, fun wq hw => by go_simp⟩) hHeld ?_
              simp only [Act.put, List.setIfInBounds_toArray, List.set_cons_succ, List.set_cons_zero]
              refine drawn_take (i := 12) (v := .bool false) (some 36) rfl rfl (by kernel_rfl) (by kernel_rfl) (by kernel_rfl) (fun _ _ _ h => h) (Or.inl ⟨by kernel_rfl, fun wq hw => by go_simp⟩) hHeld ?_
              simp only [Act.put, List.setIfInBounds_toArray, List.set_cons_succ, List.set_cons_zero]
              refine wpAnyH_done (by kernel_rfl) ?_ _
              refine NoPanic.normal ?_
              clear hHeld
              go_wp2_with fail
              refine gp_cut (fun li wx => ∃ (x39 x43 x45 x46 : Value) (ga : Option Addr) (gc : Nat) (u : Unit), li = [(40, .slice (some ⟨xb, xo, none⟩) N fc), (41, .int .i64 (p : Int)), (42, .slice (some ⟨xb, xo, none⟩) p fc), (44, .agg #[.int .i64 gf, .int .i64 gt]), (47, .slice (some ⟨xb, xo, none⟩) N fc), (48, .int .i64 (p : Int)), (49, .slice a2 m2 c2), (39, x39), (43, x43), (45, x45), (46, x46), (50, .slice ga n9 gc), (3, .slice ga n9 gc)] ∧ Below n0 w5 wx ∧ wx.ownsRow n0 25 2 (.slice ga n9 gc) n9 ([] ++ vgp (S.take p) ++ vgp [(⟨gf, gt⟩ : Gp)] ++ vgp (S.drop p))) ?_ ?_
              · obtain ⟨Wd, hWd⟩ : ∃ Wd, Wd = w5.drew.drew := ⟨_, rfl⟩
                have hK0 : Below n0 w5 Wd := by rw [hWd]; exact ((Below.refl n0 w5).drew).drew
                have hle0 : n0 ≤ Wd.heap.size := by rw [hWd, HNE.out]; exact Nat.le_refl _
                refine wp_region_noPanic ?_
                refine wp_region_held_drew (S := Below n0 w5) (by kernel_rfl) (((Below.refl n0 w5).drew).drew) (fun hHeld => ?_)
                rw [← hWd] at hHeld ⊢
                clear hWd
                refine drawn_take (i := 1) (v := .slice (some ⟨xb, xo, none⟩) N fc) (some 40) rfl rfl (by kernel_rfl) (by kernel_rfl) (by kernel_rfl) (fun _ _ _ h => h) (Or.inl ⟨by kernel_rfl, fun wq hw => by go_simp⟩) hHeld ?_
                simp only [Act.put, List.setIfInBounds_toArray, List.set_cons_succ, List.set_cons_zero]
                refine drawn_take (i := 2) (v := .int .i64 (p : Int)) (some 41) rfl rfl (by kernel_rfl) (by kernel_rfl) (by kernel_rfl) (fun _ _ _ h => h) (Or.inl ⟨by kernel_rfl, fun wq hw => by go_simp⟩) hHeld ?_
                simp only [Act.put, List.setIfInBounds_toArray, List.set_cons_succ, List.set_cons_zero]
                refine drawn_take (i := 3) (v := .slice (some ⟨xb, xo, none⟩) p fc) (some 42) rfl rfl (by kernel_rfl) (by kernel_rfl) (by kernel_rfl) (fun _ _ _ h => h) (Or.inl ⟨by kernel_rfl, fun wq hw => gp_slH (N := N) (x := .tmp 40) (z := .tmp 41) rfl (by kernel_rfl) (by kernel_rfl) hfp⟩) hHeld ?_
                simp only [Act.put, List.setIfInBounds_toArray, List.set_cons_succ, List.set_cons_zero]
                refine drawn_take (i := 5) (v := .agg #[.int .i64 gf, .int .i64 gt]) (some 44) rfl rfl (by kernel_rfl) (by kernel_rfl) (by kernel_rfl) (fun _ _ _ h => h) (Or.inl ⟨by kernel_rfl, fun wq hw => by obtain ⟨q1, q2⟩ := HBX.out _ hw; go_simp⟩) hHeld ?_
                simp only [Act.put, List.setIfInBounds_toArray, List.set_cons_succ, List.set_cons_zero]
                refine drawn_take (i := 8) (v := .slice (some ⟨xb, xo, none⟩) N fc) (some 47) rfl rfl (by kernel_rfl) (by kernel_rfl) (by kernel_rfl) (fun _ _ _ h => h) (Or.inl ⟨by kernel_rfl, fun wq hw => by go_simp⟩) hHeld ?_
                simp only [Act.put, List.setIfInBounds_toArray, List.set_cons_succ, List.set_cons_zero]
                refine drawn_take (i := 9) (v := .int .i64 (p : Int)) (some 48) rfl rfl (by kernel_rfl) (by kernel_rfl) (by kernel_rfl) (fun _ _ _ h => h) (Or.inl ⟨by kernel_rfl, fun wq hw => by go_simp⟩) hHeld ?_
                simp only [Act.put, List.setIfInBounds_toArray, List.set_cons_succ, List.set_cons_zero]
                refine drawn_take (i := 10) (v := .slice a2 m2 c2) (some 49) rfl rfl (by kernel_rfl) (by kernel_rfl) (by kernel_rfl) (fun _ _ _ h => h) (Or.inl ⟨by kernel_rfl, fun wq hw => gp_slL (x := .tmp 47) (z := .tmp 48) rfl (by kernel_rfl) (by kernel_rfl) hpN HA2 HM2 HC2⟩) hHeld ?_
                simp only [Act.put, List.setIfInBounds_toArray, List.set_cons_succ, List.set_cons_zero]
                obtain ⟨X1, hX1⟩ : ∃ W, W = Wd.alloc (.cells #[] 25) := ⟨_, rfl⟩
                have b1 : Below Wd.heap.size Wd X1 := by rw [hX1]; exact (Below.refl _ Wd).alloc (Nat.le_refl _) _
                have q1 : X1.heap[Wd.heap.size]? = some (.cells #[] 25 (0, 0)) := by rw [hX1]; exact heap_alloc_new Wd _
                have l1 : n0 ≤ X1.heap.size := Nat.le_trans hle0 b1.size
                have k1 : Below n0 w5 X1 := hK0.trans (b1.mono hle0)
                have o1 := gp_empty q1 hle0
                obtain ⟨X11, hX11⟩ : ∃ W, W = Wd.alloc (.cells #[.int .i64 gf, .int .i64 gt] 25) := ⟨_, rfl⟩
                have b11 : Below Wd.heap.size Wd X11 := by rw [hX11]; exact (Below.refl _ Wd).alloc (Nat.le_refl _) _
                have e11 : X11.heap[Wd.heap.size]? = some (.cells #[.int .i64 gf, .int .i64 gt] 25 (0, 0)) := by rw [hX11]; exact heap_alloc_new Wd _
                have l11 : n0 ≤ X11.heap.size := Nat.le_trans hle0 b11.size
                have k11 : Below n0 w5 X11 := hK0.trans (b11.mono hle0)
                refine wpAnyH_ready (rs := [0, 6]) (by kernel_rfl) (by simp) ?_
                refine rdy_val (i := 0) rfl rfl (some 39) rfl (.slice (some ⟨Wd.heap.size, 0, none⟩) 0 0) X1 (by rw [hX1]; exact gp_mk0 rfl) k1 (fun hHeld => ?br16a) (rdy_val (i := 6) rfl rfl (some 45) rfl (.slice (some ⟨Wd.heap.size, 0, none⟩) 1 1) X11 (by rw [hX11]; exact gp_mk1 (x := .tmp 44) rfl (by kernel_rfl)) k11 (fun hHeld => ?br16b) rdy_nil)
                case br16a =>
                  simp only [Act.put, List.setIfInBounds_toArray, List.set_cons_succ, List.set_cons_zero]
                  obtain ⟨ga2, gc2, X2, r2, o2, g2⟩ := gpApp X1 n0 (.slice (some ⟨Wd.heap.size, 0, none⟩) 0 0) 0 [] o1 l1 (some ⟨xb, xo, none⟩) p fc (S.take p) (HSA.out X1 k1) p (by omega) (by omega)
                  have l2 : n0 ≤ X2.heap.size := Nat.le_trans l1 g2.size
                  have k2 : Below n0 w5 X2 := k1.grown g2 l1 (fun b hb => (o1.lt b hb).1)
                  obtain ⟨X6, hX6⟩ : ∃ W, W = X1.alloc (.cells #[.int .i64 gf, .int .i64 gt] 25) := ⟨_, rfl⟩
                  have b6 : Below X1.heap.size X1 X6 := by rw [hX6]; exact (Below.refl _ X1).alloc (Nat.le_refl _) _
                  have e6 : X6.heap[X1.heap.size]? = some (.cells #[.int .i64 gf, .int .i64 gt] 25 (0, 0)) := by rw [hX6]; exact heap_alloc_new X1 _
                  have l6 : n0 ≤ X6.heap.size := Nat.le_trans l1 b6.size
                  have k6 : Below n0 w5 X6 := k1.trans (b6.mono l1)
                  have o6 := own_skip o1 b6
                  have d6 : Wd.heap.size ≠ X1.heap.size := by have := (Array.getElem?_eq_some_iff.1 q1).1; omega
                  refine wpAnyH_ready (rs := [4, 6]) (by kernel_rfl) (by simp) ?_
                  refine rdy_val (i := 4) rfl rfl (some 43) rfl (.slice ga2 p gc2) X2 (gp_appr (x := .tmp 39) (y := .tmp 42) rfl (by kernel_rfl) (by kernel_rfl) r2) k2 (fun hHeld => ?br10a) (rdy_val (i := 6) rfl rfl (some 45) rfl (.slice (some ⟨X1.heap.size, 0, none⟩) 1 1) X6 (by rw [hX6]; exact gp_mk1 (x := .tmp 44) rfl (by kernel_rfl)) k6 (fun hHeld => ?br10b) rdy_nil)
                  case br10a =>
                    simp only [Act.put, List.setIfInBounds_toArray, List.set_cons_succ, List.set_cons_zero]
                    obtain ⟨X3, hX3⟩ : ∃ W, W = X2.alloc (.cells #[.int .i64 gf, .int .i64 gt] 25) := ⟨_, rfl⟩
                    have b3 : Below X2.heap.size X2 X3 := by rw [hX3]; exact (Below.refl _ X2).alloc (Nat.le_refl _) _
                    have e3 : X3.heap[X2.heap.size]? = some (.cells #[.int .i64 gf, .int .i64 gt] 25 (0, 0)) := by rw [hX3]; exact heap_alloc_new X2 _
                    have l3 : n0 ≤ X3.heap.size := Nat.le_trans l2 b3.size
                    have k3 : Below n0 w5 X3 := k2.trans (b3.mono l2)
                    have o3 := own_skip o2 b3
                    refine wpAnyH_ready (rs := [6]) (by kernel_rfl) (by simp) ?_
                    refine rdy_val (i := 6) rfl rfl (some 45) rfl (.slice (some ⟨X2.heap.size, 0, none⟩) 1 1) X3 (by rw [hX3]; exact gp_mk1 (x := .tmp 44) rfl (by kernel_rfl)) k3 (fun hHeld => ?_) rdy_nil
                    simp only [Act.put, List.setIfInBounds_toArray, List.set_cons_succ, List.set_cons_zero]
                    obtain ⟨ga4, gc4, X4, r4, o4, g4⟩ := gpApp X3 n0 (.slice ga2 p gc2) p ([] ++ vgp (S.take p)) o3 l3 (some ⟨X2.heap.size, 0, none⟩) 1 1 [(⟨gf, gt⟩ : Gp)] (gp_n1 e3) kn1 (by omega) (by omega)
                    have l4 : n0 ≤ X4.heap.size := Nat.le_trans l3 g4.size
                    have k4 : Below n0 w5 X4 := k3.grown g4 l3 (fun b hb => (o3.lt b hb).1)
                    refine wpAnyH_ready (rs := [7]) (by kernel_rfl) (by simp) ?_
                    refine rdy_val (i := 7) rfl rfl (some 46) rfl (.slice ga4 kn1 gc4) X4 (gp_appr (x := .tmp 43) (y := .tmp 45) rfl (by kernel_rfl) (by kernel_rfl) r4) k4 (fun hHeld => ?_) rdy_nil
                    simp only [Act.put, List.setIfInBounds_toArray, List.set_cons_succ, List.set_cons_zero]
                    obtain ⟨ga5, gc5, X5, r5, o5, g5⟩ := gpApp X4 n0 (.slice ga4 kn1 gc4) kn1 ([] ++ vgp (S.take p) ++ vgp [(⟨gf, gt⟩ : Gp)]) o4 l4 a2 m2 c2 (S.drop p) (HSB.out X4 k4) n9 (by omega) (by omega)
                    have l5 : n0 ≤ X5.heap.size := Nat.le_trans l4 g5.size
                    have k5 : Below n0 w5 X5 := k4.grown g5 l4 (fun b hb => (o4.lt b hb).1)
                    refine wpAnyH_ready (rs := [11]) (by kernel_rfl) (by simp) ?_
                    refine rdy_val (i := 11) rfl rfl (some 50) rfl (.slice ga5 n9 gc5) X5 (gp_appr (x := .tmp 46) (y := .tmp 49) rfl (by kernel_rfl) (by kernel_rfl) r5) k5 (fun hHeld => ?_) rdy_nil
                    simp only [Act.put, List.setIfInBounds_toArray, List.set_cons_succ, List.set_cons_zero]
                    refine drawn_take (i := 12) (v := (.slice ga5 n9 gc5)) (some 3) rfl rfl (by kernel_rfl) (by kernel_rfl) (by kernel_rfl) (fun _ _ _ h => h) (Or.inl ⟨by kernel_rfl, fun wq hw => by go_simp⟩) hHeld ?_
                    simp only [Act.put, List.setIfInBounds_toArray, List.set_cons_succ, List.set_cons_zero]
                    refine wpAnyH_done (by kernel_rfl) ?_ _
                    refine NoPanic.normal ?_
                    clear hHeld
                    exact ⟨rfl, _, ⟨.slice (some ⟨Wd.heap.size, 0, none⟩) 0 0, .slice ga2 p gc2, .slice (some ⟨X2.heap.size, 0, none⟩) 1 1, .slice ga4 kn1 gc4, _, _, (), rfl, k5, o5⟩, by kernel_rfl⟩
                  case br10b =>
                    simp only [Act.put, List.setIfInBounds_toArray, List.set_cons_succ, List.set_cons_zero]
                    obtain ⟨ga7, gc7, X7, r7, o7, g7⟩ := gpApp X6 n0 (.slice (some ⟨Wd.heap.size, 0, none⟩) 0 0) 0 [] o6 l6 (some ⟨xb, xo, none⟩) p fc (S.take p) (HSA.out X6 k6) p (by omega) (by omega)
                    have l7 : n0 ≤ X7.heap.size := Nat.le_trans l6 g7.size
                    have k7 : Below n0 w5 X7 := k6.grown g7 l6 (fun b hb => (o6.lt b hb).1)
                    have e7 := (g7.block X1.heap.size (Array.getElem?_eq_some_iff.1 e6).1 (fun e => d6 (Option.some.inj e).symm)).trans e6
                    refine wpAnyH_ready (rs := [4]) (by kernel_rfl) (by simp) ?_
                    refine rdy_val (i := 4) rfl rfl (some 43) rfl (.slice ga7 p gc7) X7 (gp_appr (x := .tmp 39) (y := .tmp 42) rfl (by kernel_rfl) (by kernel_rfl) r7) k7 (fun hHeld => ?_) rdy_nil
                    simp only [Act.put, List.setIfInBounds_toArray, List.set_cons_succ, List.set_cons_zero]
                    obtain ⟨ga8, gc8, X8, r8, o8, g8⟩ := gpApp X7 n0 (.slice ga7 p gc7) p ([] ++ vgp (S.take p)) o7 l7 (some ⟨X1.heap.size, 0, none⟩) 1 1 [(⟨gf, gt⟩ : Gp)] (gp_n1 e7) kn1 (by omega) (by omega)
                    have l8 : n0 ≤ X8.heap.size := Nat.le_trans l7 g8.size
                    have k8 : Below n0 w5 X8 := k7.grown g8 l7 (fun b hb => (o7.lt b hb).1)
                    refine wpAnyH_ready (rs := [7]) (by kernel_rfl) (by simp) ?_
                    refine rdy_val (i := 7) rfl rfl (some 46) rfl (.slice ga8 kn1 gc8) X8 (gp_appr (x := .tmp 43) (y := .tmp 45) rfl (by kernel_rfl) (by kernel_rfl) r8) k8 (fun hHeld => ?_) rdy_nil
                    simp only [Act.put, List.setIfInBounds_toArray, List.set_cons_succ, List.set_cons_zero]
                    obtain ⟨ga9, gc9, X9, r9, o9, g9⟩ := gpApp X8 n0 (.slice ga8 kn1 gc8) kn1 ([] ++ vgp (S.take p) ++ vgp [(⟨gf, gt⟩ : Gp)]) o8 l8 a2 m2 c2 (S.drop p) (HSB.out X8 k8) n9 (by omega) (by omega)
                    have l9 : n0 ≤ X9.heap.size := Nat.le_trans l8 g9.size
                    have k9 : Below n0 w5 X9 := k8.grown g9 l8 (fun b hb => (o8.lt b hb).1)
                    refine wpAnyH_ready (rs := [11]) (by kernel_rfl) (by simp) ?_
                    refine rdy_val (i := 11) rfl rfl (some 50) rfl (.slice ga9 n9 gc9) X9 (gp_appr (x := .tmp 46) (y := .tmp 49) rfl (by kernel_rfl) (by kernel_rfl) r9) k9 (fun hHeld => ?_) rdy_nil
                    simp only [Act.put, List.setIfInBounds_toArray, List.set_cons_succ, List.set_cons_zero]
                    refine drawn_take (i := 12) (v := (.slice ga9 n9 gc9)) (some 3) rfl rfl (by kernel_rfl) (by kernel_rfl) (by kernel_rfl) (fun _ _ _ h => h) (Or.inl ⟨by kernel_rfl, fun wq hw => by go_simp⟩) hHeld ?_
                    simp only [Act.put, List.setIfInBounds_toArray, List.set_cons_succ, List.set_cons_zero]
                    refine wpAnyH_done (by kernel_rfl) ?_ _
                    refine NoPanic.normal ?_
                    clear hHeld
                    exact ⟨rfl, _, ⟨.slice (some ⟨Wd.heap.size, 0, none⟩) 0 0, .slice ga7 p gc7, .slice (some ⟨X1.heap.size, 0, none⟩) 1 1, .slice ga8 kn1 gc8, _, _, (), rfl, k9, o9⟩, by kernel_rfl⟩
                case br16b =>
                  simp only [Act.put, List.setIfInBounds_toArray, List.set_cons_succ, List.set_cons_zero]
                  obtain ⟨X12, hX12⟩ : ∃ W, W = X11.alloc (.cells #[] 25) := ⟨_, rfl⟩
                  have b12 : Below X11.heap.size X11 X12 := by rw [hX12]; exact (Below.refl _ X11).alloc (Nat.le_refl _) _
                  have q12 : X12.heap[X11.heap.size]? = some (.cells #[] 25 (0, 0)) := by rw [hX12]; exact heap_alloc_new X11 _
                  have l12 : n0 ≤ X12.heap.size := Nat.le_trans l11 b12.size
                  have k12 : Below n0 w5 X12 := k11.trans (b12.mono l11)
                  have o12 := gp_empty q12 l11
                  have e12 := (b12.block Wd.heap.size (Array.getElem?_eq_some_iff.1 e11).1).trans e11
                  have d12 : X11.heap.size ≠ Wd.heap.size := by have := (Array.getElem?_eq_some_iff.1 e11).1; omega
                  refine wpAnyH_ready (rs := [0]) (by kernel_rfl) (by simp) ?_
                  refine rdy_val (i := 0) rfl rfl (some 39) rfl (.slice (some ⟨X11.heap.size, 0, none⟩) 0 0) X12 (by rw [hX12]; exact gp_mk0 rfl) k12 (fun hHeld => ?_) rdy_nil
                  simp only [Act.put, List.setIfInBounds_toArray, List.set_cons_succ, List.set_cons_zero]
                  obtain ⟨ga13, gc13, X13, r13, o13, g13⟩ := gpApp X12 n0 (.slice (some ⟨X11.heap.size, 0, none⟩) 0 0) 0 [] o12 l12 (some ⟨xb, xo, none⟩) p fc (S.take p) (HSA.out X12 k12) p (by omega) (by omega)
                  have l13 : n0 ≤ X13.heap.size := Nat.le_trans l12 g13.size
                  have k13 : Below n0 w5 X13 := k12.grown g13 l12 (fun b hb => (o12.lt b hb).1)
                  have e13 := (g13.block Wd.heap.size (Array.getElem?_eq_some_iff.1 e12).1 (fun e => d12 (Option.some.inj e).symm)).trans e12
                  refine wpAnyH_ready (rs := [4]) (by kernel_rfl) (by simp) ?_
                  refine rdy_val (i := 4) rfl rfl (some 43) rfl (.slice ga13 p gc13) X13 (gp_appr (x := .tmp 39) (y := .tmp 42) rfl (by kernel_rfl) (by kernel_rfl) r13) k13 (fun hHeld => ?_) rdy_nil
                  simp only [Act.put, List.setIfInBounds_toArray, List.set_cons_succ, List.set_cons_zero]
                  obtain ⟨ga14, gc14, X14, r14, o14, g14⟩ := gpApp X13 n0 (.slice ga13 p gc13) p ([] ++ vgp (S.take p)) o13 l13 (some ⟨Wd.heap.size, 0, none⟩) 1 1 [(⟨gf, gt⟩ : Gp)] (gp_n1 e13) kn1 (by omega) (by omega)
                  have l14 : n0 ≤ X14.heap.size := Nat.le_trans l13 g14.size
                  have k14 : Below n0 w5 X14 := k13.grown g14 l13 (fun b hb => (o13.lt b hb).1)
                  refine wpAnyH_ready (rs := [7]) (by kernel_rfl) (by simp) ?_
                  refine rdy_val (i := 7) rfl rfl (some 46) rfl (.slice ga14 kn1 gc14) X14 (gp_appr (x := .tmp 43) (y := .tmp 45) rfl (by kernel_rfl) (by kernel_rfl) r14) k14 (fun hHeld => ?_) rdy_nil
                  simp only [Act.put, List.setIfInBounds_toArray, List.set_cons_succ, List.set_cons_zero]
                  obtain ⟨ga15, gc15, X15, r15, o15, g15⟩ := gpApp X14 n0 (.slice ga14 kn1 gc14) kn1 ([] ++ vgp (S.take p) ++ vgp [(⟨gf, gt⟩ : Gp)]) o14 l14 a2 m2 c2 (S.drop p) (HSB.out X14 k14) n9 (by omega) (by omega)
                  have l15 : n0 ≤ X15.heap.size := Nat.le_trans l14 g15.size
                  have k15 : Below n0 w5 X15 := k14.grown g15 l14 (fun b hb => (o14.lt b hb).1)
                  refine wpAnyH_ready (rs := [11]) (by kernel_rfl) (by simp) ?_
                  refine rdy_val (i := 11) rfl rfl (some 50) rfl (.slice ga15 n9 gc15) X15 (gp_appr (x := .tmp 46) (y := .tmp 49) rfl (by kernel_rfl) (by kernel_rfl) r15) k15 (fun hHeld => ?_) rdy_nil
                  simp only [Act.put, List.setIfInBounds_toArray, List.set_cons_succ, List.set_cons_zero]
                  refine drawn_take (i := 12) (v := (.slice ga15 n9 gc15)) (some 3) rfl rfl (by kernel_rfl) (by kernel_rfl) (by kernel_rfl) (fun _ _ _ h => h) (Or.inl ⟨by kernel_rfl, fun wq hw => by go_simp⟩) hHeld ?_
                  simp only [Act.put, List.setIfInBounds_toArray, List.set_cons_succ, List.set_cons_zero]
                  refine wpAnyH_done (by kernel_rfl) ?_ _
                  refine NoPanic.normal ?_
                  clear hHeld
                  exact ⟨rfl, _, ⟨.slice (some ⟨X11.heap.size, 0, none⟩) 0 0, .slice ga13 p gc13, .slice (some ⟨Wd.heap.size, 0, none⟩) 1 1, .slice ga14 kn1 gc14, _, _, (), rfl, k15, o15⟩, by kernel_rfl⟩
              · rintro li w6 ⟨x39, x43, x45, x46, ga, gc, _, rfl, hB6, ho6⟩
                have HB6 : Below w5.heap.size w5 w6 := by rw [← HNE.out]; exact hB6
                have hs5 : w.heap.size ≤ w5.heap.size := Nat.le_trans HB1.out.size HB3.out.size
                have HOO : Hid (w6.ownsRow w.heap.size 25 2 (.slice ga n9 gc) n9 (vgp (S.take p ++ [⟨gf, gt⟩] ++ S.drop p))) := hidn (by
                  rw [vgp_app, vgp_app]
                  exact own_lowG ho6 (by rw [HNE.out]; exact hs5))
                have HB7 := hidn (HB1.out.trans ((HB3.out.trans (HB6.mono HB3.out.size)).mono HB1.out.size))
                clear hB6 ho6 HB6
                simp only [gpPutAll, List.foldl_cons, List.foldl_nil, Act.put, List.setIfInBounds_toArray, List.set_cons_succ, List.set_cons_zero]
                go_wp2_with fail
                exact ⟨⟨k + 1, n9, _, by omega, by omega, by simp, HST, HOO, HB7⟩, by simp [intOf]; omega⟩
    · obtain rfl : k = len := by omega
      have HTK : Hid (l.take k = l) := hidn (List.take_of_length_le (by rw [HL.out]; omega))
      have hlt2 : ¬ (k : Int) < (k : Int) := by omega
      obtain ⟨w5, hw5⟩ : ∃ w5, w5 = wo := ⟨_, rfl⟩
      subst hw5
      obtain ⟨n, hn⟩ : ∃ n, n = N := ⟨_, rfl⟩
      subst hn
      have hso : SrtOf S l := by have := HS.out; rwa [HTK.out] at this
      obtain ⟨a5, c5, hv5, _, hgs5⟩ := gps_of_own HO.out
      subst hv5
      have HSO := hidn hso
      have HGS := hidn hgs5
      have HSL := hidn hgs5.1
      have HB5 := hidn HB.out
      have hsz5 : Hid (w.heap.size ≤ w5.heap.size) := hidn (HB5.out.size)
      clear hlt hso hgs5
      go_wp2_with fail
      go_loopw [7, 54] (fun jv iv wr => ∃ k m : Nat, k ≤ n ∧ m ≤ k ∧ iv = .int .i64 (k : Int) ∧ Hid (Below w5.heap.size w5 wr) ∧ Hid (wr.ownsRow w5.heap.size 25 2 jv m (vgp ((S.take k).foldl jstep [])))) (fun _ iv _ => n - (intOf iv).toNat)
      case atStart => exact ⟨0, 0, Nat.zero_le _, Nat.le_refl _, rfl, hidn (Below.refl _ _), hidn (World.ownsRow_nil _ _ _ _)⟩
      case round =>
        obtain ⟨k2, m, hk2, hmk, rfl, HX, HJ⟩ := hrel
        obtain ⟨wp, hwp⟩ : ∃ wp, wp = wr := ⟨_, rfl⟩
        subst hwp
        obtain ⟨aj, cj, hu7⟩ := own_slice HJ.out
        subst hu7
        by_cases hlt : k2 < n
        · have hlt3 : (k2 : Int) < (n : Int) := by omega
          obtain ⟨b, off, rfl, hb, hcl⟩ := HGS.out.pos (by omega)
          have c0 : wp.cell? ⟨b, off + k2 * 2, none⟩ = some (.int .i64 (gpD S k2).f) := (HX.out.cell (p := ⟨b, off + k2 * 2, none⟩) hb).trans (hcl k2 hlt).1
          have c1 : wp.cell? ⟨b, off + k2 * 2 + 1, none⟩ = some (.int .i64 (gpD S k2).t) := (HX.out.cell (p := ⟨b, off + k2 * 2 + 1, none⟩) hb).trans (hcl k2 hlt).2
          have HFM := hidn (fold_more S k2 (by rw [HSL.out]; exact hlt))
          obtain ⟨sf, hsf⟩ : ∃ x, x = (gpD S k2).f := ⟨_, rfl⟩
          obtain ⟨st, hst⟩ : ∃ x, x = (gpD S k2).t := ⟨_, rfl⟩
          rw [← hsf] at c0
          rw [← hst] at c1
          have HG : Hid (gpD S k2 = ⟨sf, st⟩) := hidn (by rw [hsf, hst])
          have hmem : ∀ i, i < S.length → gpD S i ∈ S := fun i hi => by
            unfold gpD
            rw [List.getD_eq_getElem?_getD, List.getElem?_eq_getElem hi]
            exact List.getElem_mem hi
          have HSK : Hid (GpOK ⟨sf, st⟩) := hidn (by
            have := (HSO.out.2.1 _ (hmem k2 (by rw [HSL.out]; exact hlt))).2
            rwa [HG.out] at this)
          obtain ⟨w6, hw6⟩ : ∃ w6, w6 = wp.alloc (.cells #[.int .i64 sf, .int .i64 st] 25) := ⟨_, rfl⟩
          have b6 : Below wp.heap.size wp w6 := by rw [hw6]; exact (Below.refl _ wp).alloc (Nat.le_refl _) _
          have q6 : w6.heap[wp.heap.size]? = some (.cells #[.int .i64 sf, .int .i64 st] 25 (0, 0)) := by rw [hw6]; exact heap_alloc_new wp _
          have s6 : wp.heap.size < w6.heap.size := (Array.getElem?_eq_some_iff.1 q6).1
          have HJK : Hid (∀ x ∈ (S.take k2).foldl jstep [], GpOK x) := hidn (fold_ok _ _ (by simp) (fun x hx => (HSO.out.2.1 x (List.mem_of_mem_take hx)).2))
          have HW6 := hidn hw6
          have HQ6 := hidn q6
          have HB6 : Hid (Below w5.heap.size w5 w6) := hidn (HX.out.trans (b6.mono HX.out.size))
          have HJ6 := hidn (own_skip HJ.out b6)
          have HS6 := hidn s6
          obtain ⟨J, hJ⟩ : ∃ J, J = (S.take k2).foldl jstep [] := ⟨_, rfl⟩
          rw [← hJ] at HJ HFM HJK HJ6
          clear hcl hsf hst hw6 b6 q6 s6 hmem hJ
          rcases List.eq_nil_or_concat J with hn | ⟨A, c, hn⟩
          · subst hn
            obtain rfl : m = 0 := by have := HJ.out.1; simp [vgp] at this; omega
            have HN : Hid ((S.take (k2 + 1)).foldl jstep [] = [] ++ [⟨sf, st⟩]) := hidn (by rw [HFM.out, HG.out]; rfl)
            obtain ⟨w7, hw7⟩ : ∃ w7, w7 = w6.drew.alloc (.cells #[.int .i64 sf, .int .i64 st] 25) := ⟨_, rfl⟩
            have b7 : Below w6.heap.size w6 w7 := by rw [hw7]; exact ((Below.refl _ w6).drew).alloc (Nat.le_refl _) _
            have q7 : w7.heap[w6.heap.size]? = some (.cells #[.int .i64 sf, .int .i64 st] 25 (0, 0)) := by rw [hw7]; exact heap_alloc_new w6.drew _
            obtain ⟨g, c', w8, hr, ho8, hg8⟩ := app_gap1 (own_skip HJ6.out b7) (Nat.le_trans HB6.out.size b7.size) (by omega) (⟨sf, st⟩ : Gp) ⟨w6.heap.size, 0, none⟩ (cell_of_row _ _ _ _ _ _ q7) (cell_of_row _ _ 1 _ _ _ q7)
            have HR := hidn hr
            have HW7 := hidn hw7
            have HW7' : Hid (w7 = (w6.alloc (.cells #[.int .i64 sf, .int .i64 st] 25)).drew) := hidn HW7.out
            have HB8 : Hid (Below w5.heap.size w5 w8) := hidn ((HB6.out.trans (b7.mono HB6.out.size)).grown hg8 (Nat.le_trans HB6.out.size b7.size) (fun k hk => (HJ6.out.lt k hk).1))
            have HJ8 : Hid (w8.ownsRow w5.heap.size 25 2 (.slice (some ⟨g, 0, none⟩) (0 + 1) c') (0 + 1) (vgp ((S.take (k2 + 1)).foldl jstep []))) := hidn (by rw [HN.out]; exact ho8)
            have e0 : w6.cell? ⟨wp.heap.size, 0, none⟩ = some (.int .i64 sf) := cell_of_row _ _ _ _ _ _ HQ6.out
            have e1 : w6.cell? ⟨wp.heap.size, 1, none⟩ = some (.int .i64 st) := cell_of_row _ _ _ _ _ _ HQ6.out
            clear hr hw7 b7 q7 ho8 hg8
            go_wp2_with fail
            rw [← HW6.out]
            refine wp_region_noPanic ?_
            refine wp_region_held_drew (S := fun w' => Below w6.heap.size w6 w') (by kernel_rfl) ((Below.refl _ w6).drew) (fun hHeld => ?_)
            refine drawn_take (i := 0) (v := .int .i64 (-1)) (some 61) rfl rfl (by kernel_rfl) (by kernel_rfl) (by kernel_rfl) (fun _ _ _ h => h) (Or.inl ⟨by kernel_rfl, fun wq hw => by go_simp⟩) hHeld ?_
            simp only [Act.put, List.setIfInBounds_toArray, List.set_cons_succ, List.set_cons_zero]
            refine drawn_take (i := 1) (v := .bool false) (some 62) rfl rfl (by kernel_rfl) (by kernel_rfl) (by kernel_rfl) (fun _ _ _ h => h) (Or.inl ⟨by kernel_rfl, fun wq hw => by go_simp⟩) hHeld ?_
            simp only [Act.put, List.setIfInBounds_toArray, List.set_cons_succ, List.set_cons_zero]
            refine drawn_take (i := 2) (v := .bool false) (some 63) rfl rfl (by kernel_rfl) (by kernel_rfl) (by kernel_rfl) (fun _ _ _ h => h) (Or.inl ⟨by kernel_rfl, fun wq hw => by go_simp⟩) hHeld ?_
            simp only [Act.put, List.setIfInBounds_toArray, List.set_cons_succ, List.set_cons_zero]
            refine drawn_take (i := 3) (v := undef) (some 64) rfl rfl (by kernel_rfl) (by kernel_rfl) (by kernel_rfl) (fun _ _ _ h => h) (Or.inr ⟨by kernel_rfl, rfl⟩) hHeld ?_
            simp only [Act.put, List.setIfInBounds_toArray, List.set_cons_succ, List.set_cons_zero]
            refine drawn_take (i := 4) (v := undef) (some 65) rfl rfl (by kernel_rfl) (by kernel_rfl) (by kernel_rfl) (fun _ _ _ h => h) (Or.inr ⟨by kernel_rfl, rfl⟩) hHeld ?_
            simp only [Act.put, List.setIfInBounds_toArray, List.set_cons_succ, List.set_cons_zero]
            refine drawn_take (i := 5) (v := undef) (some 66) rfl rfl (by kernel_rfl) (by kernel_rfl) (by kernel_rfl) (fun _ _ _ h => h) (Or.inr ⟨by kernel_rfl, rfl⟩) hHeld ?_
            simp only [Act.put, List.setIfInBounds_toArray, List.set_cons_succ, List.set_cons_zero]
            refine drawn_take (i := 6) (v := undef) (some 67) rfl rfl (by kernel_rfl) (by kernel_rfl) (by kernel_rfl) (fun _ _ _ h => h) (Or.inr ⟨by kernel_rfl, rfl⟩) hHeld ?_
            simp only [Act.put, List.setIfInBounds_toArray, List.set_cons_succ, List.set_cons_zero]
            refine drawn_take (i := 7) (v := undef) (some 68) rfl rfl (by kernel_rfl) (by kernel_rfl) (by kernel_rfl) (fun _ _ _ h => h) (Or.inr ⟨by kernel_rfl, rfl⟩) hHeld ?_
            simp only [Act.put, List.setIfInBounds_toArray, List.set_cons_succ, List.set_cons_zero]
            refine drawn_take (i := 8) (v := undef) (some 69) rfl rfl (by kernel_rfl) (by kernel_rfl) (by kernel_rfl) (fun _ _ _ h => h) (Or.inr ⟨by kernel_rfl, rfl⟩) hHeld ?_
            simp only [Act.put, List.setIfInBounds_toArray, List.set_cons_succ, List.set_cons_zero]
            refine drawn_take (i := 9) (v := undef) (some 70) rfl rfl (by kernel_rfl) (by kernel_rfl) (by kernel_rfl) (fun _ _ _ h => h) (Or.inr ⟨by kernel_rfl, rfl⟩) hHeld ?_
            simp only [Act.put, List.setIfInBounds_toArray, List.set_cons_succ, List.set_cons_zero]
            refine drawn_take (i := 10) (v := undef) (some 71) rfl rfl (by kernel_rfl) (by kernel_rfl) (by kernel_rfl) (fun _ _ _ h => h) (Or.inr ⟨by kernel_rfl, rfl⟩) hHeld ?_
            simp only [Act.put, List.setIfInBounds_toArray, List.set_cons_succ, List.set_cons_zero]
            refine drawn_take (i := 11) (v := undef) (some 72) rfl rfl (by kernel_rfl) (by kernel_rfl) (by kernel_rfl) (fun _ _ _ h => h) (Or.inr ⟨by kernel_rfl, rfl⟩) hHeld ?_
            simp only [Act.put, List.setIfInBounds_toArray, List.set_cons_succ, List.set_cons_zero]
            refine drawn_take (i := 12) (v := undef) (some 73) rfl rfl (by kernel_rfl) (by kernel_rfl) (by kernel_rfl) (fun _ _ _ h => h) (Or.inr ⟨by kernel_rfl, rfl⟩) hHeld ?_
            simp only [Act.put, List.setIfInBounds_toArray, List.set_cons_succ, List.set_cons_zero]
            refine drawn_take (i := 13) (v := undef) (some 74) rfl rfl (by kernel_rfl) (by kernel_rfl) (by kernel_rfl) (fun _ _ _ h => h) (Or.inr ⟨by kernel_rfl, rfl⟩) hHeld ?_
            simp only [Act.put, List.setIfInBounds_toArray, List.set_cons_succ, List.set_cons_zero]
            refine drawn_take (i := 14) (v := undef) (some 75) rfl rfl (by kernel_rfl) (by kernel_rfl) (by kernel_rfl) (fun _ _ _ h => h) (Or.inr ⟨by kernel_rfl, rfl⟩) hHeld ?_
            simp only [Act.put, List.setIfInBounds_toArray, List.set_cons_succ, List.set_cons_zero]
            refine drawn_take (i := 15) (v := undef) (some 76) rfl rfl (by kernel_rfl) (by kernel_rfl) (by kernel_rfl) (fun _ _ _ h => h) (Or.inr ⟨by kernel_rfl, rfl⟩) hHeld ?_
            simp only [Act.put, List.setIfInBounds_toArray, List.set_cons_succ, List.set_cons_zero]
            refine drawn_take (i := 16) (v := undef) (some 77) rfl rfl (by kernel_rfl) (by kernel_rfl) (by kernel_rfl) (fun _ _ _ h => h) (Or.inr ⟨by kernel_rfl, rfl⟩) hHeld ?_
            simp only [Act.put, List.setIfInBounds_toArray, List.set_cons_succ, List.set_cons_zero]
            refine drawn_take (i := 17) (v := undef) (some 78) rfl rfl (by kernel_rfl) (by kernel_rfl) (by kernel_rfl) (fun _ _ _ h => h) (Or.inr ⟨by kernel_rfl, rfl⟩) hHeld ?_
            simp only [Act.put, List.setIfInBounds_toArray, List.set_cons_succ, List.set_cons_zero]
            refine drawn_take (i := 18) (v := undef) (some 79) rfl rfl (by kernel_rfl) (by kernel_rfl) (by kernel_rfl) (fun _ _ _ h => h) (Or.inr ⟨by kernel_rfl, rfl⟩) hHeld ?_
            simp only [Act.put, List.setIfInBounds_toArray, List.set_cons_succ, List.set_cons_zero]
            refine drawn_take (i := 19) (v := undef) (some 80) rfl rfl (by kernel_rfl) (by kernel_rfl) (by kernel_rfl) (fun _ _ _ h => h) (Or.inr ⟨by kernel_rfl, rfl⟩) hHeld ?_
            simp only [Act.put, List.setIfInBounds_toArray, List.set_cons_succ, List.set_cons_zero]
            refine drawn_take (i := 20) (v := undef) (some 81) rfl rfl (by kernel_rfl) (by kernel_rfl) (by kernel_rfl) (fun _ _ _ h => h) (Or.inr ⟨by kernel_rfl, rfl⟩) hHeld ?_
            simp only [Act.put, List.setIfInBounds_toArray, List.set_cons_succ, List.set_cons_zero]
            refine drawn_take (i := 21) (v := undef) (some 82) rfl rfl (by kernel_rfl) (by kernel_rfl) (by kernel_rfl) (fun _ _ _ h => h) (Or.inr ⟨by kernel_rfl, rfl⟩) hHeld ?_
            simp only [Act.put, List.setIfInBounds_toArray, List.set_cons_succ, List.set_cons_zero]
            refine drawn_take (i := 22) (v := .bool false) (some 83) rfl rfl (by kernel_rfl) (by kernel_rfl) (by kernel_rfl) (fun _ _ _ h => h) (Or.inl ⟨by kernel_rfl, fun wq hw => by go_simp⟩) hHeld ?_
            simp only [Act.put, List.setIfInBounds_toArray, List.set_cons_succ, List.set_cons_zero]
            refine wpAnyH_done (by kernel_rfl) ?_ _
            refine NoPanic.normal ?_
            clear hHeld
            go_wp2_with (at_builtin; first | rw [← HW7.out] | rw [← HW7'.out]; refine wpList_app_run2 rfl (.tmp 96) (.tmp 98) 22 22 rfl rfl (.slice aj 0 cj) (.slice (some ⟨w6.heap.size, 0, none⟩) 1 1) _ rfl rfl HR.out ?_)
            go_roundw
            case rel => exact ⟨k2 + 1, 0 + 1, by omega, by omega, by first | rfl | simp, HB8, HJ8⟩
            case measure => simp [intOf]; omega
          · rw [List.concat_eq_append] at hn
            subst hn
            obtain ⟨p, hp⟩ : ∃ p, p = A.length := ⟨_, rfl⟩
            obtain rfl : m = p + 1 := by have := HJ.out.1; rw [vgp_len] at this; simp at this; omega
            obtain ⟨cf, ct⟩ := c
            have HCK : Hid (GpOK ⟨cf, ct⟩) := hidn (HJK.out _ (by simp))
            obtain ⟨q, hq⟩ : ∃ q, aj = some ⟨q, 0, none⟩ := by
              rcases HJ.out.2 with ⟨h1, h2⟩ | ⟨q, _, _, h1, _⟩
              · omega
              · injection h1 with h3; exact ⟨q, h3⟩
            subst hq
            have hq5 : w5.heap.size ≤ q := (HJ.out.lt q rfl).1
            obtain ⟨v0, v1⟩ := vgp_get (A ++ [⟨cf, ct⟩]) p (by simp; omega)
            rw [show gpD (A ++ [⟨cf, ct⟩]) p = ⟨cf, ct⟩ from by rw [hp]; exact gpD_last A _] at v0 v1
            have HRD : Hid (∀ w', Below w6.heap.size w6 w' → w'.cell? ⟨q, p * 2, none⟩ = some (.int .i64 cf) ∧ w'.cell? ⟨q, p * 2 + 1, none⟩ = some (.int .i64 ct) ∧ w'.cell? ⟨wp.heap.size, 0, none⟩ = some (.int .i64 sf) ∧ w'.cell? ⟨wp.heap.size, 1, none⟩ = some (.int .i64 st) ∧ w'.frozen? ⟨q, p * 2 + 1, none⟩ = false) := hidn (fun w' hb => by
              have ho' := own_skip HJ6.out hb
              have k0 := ho'.cells (g := q) rfl _ _ v0
              have k1 := ho'.cells (g := q) rfl _ _ v1
              rw [add_none, Nat.zero_add] at k0 k1
              obtain ⟨_, _, cur, hcur⟩ := own_blk ho'
              have q6' := (hb.block _ HS6.out).trans HQ6.out
              exact ⟨k0, k1, cell_of_row _ _ _ _ _ _ q6', cell_of_row _ _ _ _ _ _ q6', unfrozen_of_block hcur _⟩)
            have HP := hidn hp
            have e0 : w6.cell? ⟨wp.heap.size, 0, none⟩ = some (.int .i64 sf) := cell_of_row _ _ _ _ _ _ HQ6.out
            have e1 : w6.cell? ⟨wp.heap.size, 1, none⟩ = some (.int .i64 st) := cell_of_row _ _ _ _ _ _ HQ6.out
            have HWS : Hid (ct < sf → IntKind.i64.wrap (sf - 1) = sf - 1) := hidn (fun h9 => by have h1 := HCK.out.2.2.1; have h2 := HSK.out.2.1; simp only at h1 h2; unfold IntKind.wrap IntKind.bits IntKind.signed; simp; omega)
            obtain ⟨w9, hw9⟩ : ∃ w9, w9 = w6.drew := ⟨_, rfl⟩
            have h9 : Below w6.heap.size w6 w9 := by rw [hw9]; exact (Below.refl _ w6).drew
            have HW9 := hidn hw9
            have HBX : Hid (Below w5.heap.size w5 w9) := hidn (HB6.out.trans (h9.mono HB6.out.size))
            have HJ9 := hidn (own_skip HJ6.out h9)
            have HH9 := hidn h9
            clear v0 v1 hp hw9 h9
            by_cases hc1 : sf ≤ ct
            · have HBB : Hid (goesB ⟨cf, ct⟩ ⟨sf, st⟩ = true) := hidn (by unfold goesB; rw [decide_eq_true (show sf ≤ ct from hc1)]; rfl)
              go_wp2_with fail
              rw [← HW6.out]
              refine wp_region_noPanic ?_
              refine wp_region_held_drew (S := fun w' => Below w6.heap.size w6 w') (by kernel_rfl) ((Below.refl _ w6).drew) (fun hHeld => ?_)
              refine drawn_take (i := 0) (v := .int .i64 (p : Int)) (some 61) rfl rfl (by kernel_rfl) (by kernel_rfl) (by kernel_rfl) (fun _ _ _ h => h) (Or.inl ⟨by kernel_rfl, fun wq hw => by go_simp⟩) hHeld ?_
              simp only [Act.put, List.setIfInBounds_toArray, List.set_cons_succ, List.set_cons_zero]
              refine drawn_take (i := 1) (v := .bool true) (some 62) rfl rfl (by kernel_rfl) (by kernel_rfl) (by kernel_rfl) (fun _ _ _ h => h) (Or.inl ⟨by kernel_rfl, fun wq hw => by go_simp⟩) hHeld ?_
              simp only [Act.put, List.setIfInBounds_toArray, List.set_cons_succ, List.set_cons_zero]
              refine drawn_take (i := 2) (v := .bool true) (some 63) rfl rfl (by kernel_rfl) (by kernel_rfl) (by kernel_rfl) (fun _ _ _ h => h) (Or.inl ⟨by kernel_rfl, fun wq hw => by go_simp⟩) hHeld ?_
              simp only [Act.put, List.setIfInBounds_toArray, List.set_cons_succ, List.set_cons_zero]
              refine drawn_take (i := 3) (v := .pointer (some ⟨wp.heap.size, 0, none⟩)) (some 64) rfl rfl (by kernel_rfl) (by kernel_rfl) (by kernel_rfl) (fun _ _ _ h => h) (Or.inl ⟨by kernel_rfl, fun wq hw => by go_simp⟩) hHeld ?_
              simp only [Act.put, List.setIfInBounds_toArray, List.set_cons_succ, List.set_cons_zero]
              refine drawn_take (i := 4) (v := .int .i64 sf) (some 65) rfl rfl (by kernel_rfl) (by kernel_rfl) (by kernel_rfl) (fun _ _ _ h => h) (Or.inl ⟨by kernel_rfl, fun wq hw => by obtain ⟨q1, q2, q3, q4, q5⟩ := HRD.out _ hw; go_simp⟩) hHeld ?_
              simp only [Act.put, List.setIfInBounds_toArray, List.set_cons_succ, List.set_cons_zero]
              refine drawn_take (i := 5) (v := .slice (some ⟨q, 0, none⟩) (p + 1) cj) (some 66) rfl rfl (by kernel_rfl) (by kernel_rfl) (by kernel_rfl) (fun _ _ _ h => h) (Or.inl ⟨by kernel_rfl, fun wq hw => by go_simp⟩) hHeld ?_
              simp only [Act.put, List.setIfInBounds_toArray, List.set_cons_succ, List.set_cons_zero]
              refine drawn_take (i := 6) (v := .int .i64 (p : Int)) (some 67) rfl rfl (by kernel_rfl) (by kernel_rfl) (by kernel_rfl) (fun _ _ _ h => h) (Or.inl ⟨by kernel_rfl, fun wq hw => by go_simp⟩) hHeld ?_
              simp only [Act.put, List.setIfInBounds_toArray, List.set_cons_succ, List.set_cons_zero]
              refine drawn_take (i := 7) (v := .pointer (some ⟨q, p * 2, none⟩)) (some 68) rfl rfl (by kernel_rfl) (by kernel_rfl) (by kernel_rfl) (fun _ _ _ h => h) (Or.inl ⟨by kernel_rfl, fun wq hw => by go_simp <;> (intro h8; exfalso; omega)⟩) hHeld ?_
              simp only [Act.put, List.setIfInBounds_toArray, List.set_cons_succ, List.set_cons_zero]
              refine drawn_take (i := 8) (v := .pointer (some ⟨q, p * 2 + 1, none⟩)) (some 69) rfl rfl (by kernel_rfl) (by kernel_rfl) (by kernel_rfl) (fun _ _ _ h => h) (Or.inl ⟨by kernel_rfl, fun wq hw => by go_simp⟩) hHeld ?_
              simp only [Act.put, List.setIfInBounds_toArray, List.set_cons_succ, List.set_cons_zero]
              refine drawn_take (i := 9) (v := .int .i64 ct) (some 70) rfl rfl (by kernel_rfl) (by kernel_rfl) (by kernel_rfl) (fun _ _ _ h => h) (Or.inl ⟨by kernel_rfl, fun wq hw => by obtain ⟨q1, q2, q3, q4, q5⟩ := HRD.out _ hw; go_simp⟩) hHeld ?_
              simp only [Act.put, List.setIfInBounds_toArray, List.set_cons_succ, List.set_cons_zero]
              refine drawn_take (i := 10) (v := .bool true) (some 71) rfl rfl (by kernel_rfl) (by kernel_rfl) (by kernel_rfl) (fun _ _ _ h => h) (Or.inl ⟨by kernel_rfl, fun wq hw => by go_simp <;> omega⟩) hHeld ?_
              simp only [Act.put, List.setIfInBounds_toArray, List.set_cons_succ, List.set_cons_zero]
              refine drawn_take (i := 11) (v := .bool true) (some 72) rfl rfl (by kernel_rfl) (by kernel_rfl) (by kernel_rfl) (fun _ _ _ h => h) (Or.inl ⟨by kernel_rfl, fun wq hw => by go_simp⟩) hHeld ?_
              simp only [Act.put, List.setIfInBounds_toArray, List.set_cons_succ, List.set_cons_zero]
              refine drawn_take (i := 12) (v := undef) (some 73) rfl rfl (by kernel_rfl) (by kernel_rfl) (by kernel_rfl) (fun _ _ _ h => h) (Or.inr ⟨by kernel_rfl, rfl⟩) hHeld ?_
              simp only [Act.put, List.setIfInBounds_toArray, List.set_cons_succ, List.set_cons_zero]
              refine drawn_take (i := 13) (v := undef) (some 74) rfl rfl (by kernel_rfl) (by kernel_rfl) (by kernel_rfl) (fun _ _ _ h => h) (Or.inr ⟨by kernel_rfl, rfl⟩) hHeld ?_
              simp only [Act.put, List.setIfInBounds_toArray, List.set_cons_succ, List.set_cons_zero]
              refine drawn_take (i := 14) (v := undef) (some 75) rfl rfl (by kernel_rfl) (by kernel_rfl) (by kernel_rfl) (fun _ _ _ h => h) (Or.inr ⟨by kernel_rfl, rfl⟩) hHeld ?_
              simp only [Act.put, List.setIfInBounds_toArray, List.set_cons_succ, List.set_cons_zero]
              refine drawn_take (i := 15) (v := undef) (some 76) rfl rfl (by kernel_rfl) (by kernel_rfl) (by kernel_rfl) (fun _ _ _ h => h) (Or.inr ⟨by kernel_rfl, rfl⟩) hHeld ?_
              simp only [Act.put, List.setIfInBounds_toArray, List.set_cons_succ, List.set_cons_zero]
              refine drawn_take (i := 16) (v := undef) (some 77) rfl rfl (by kernel_rfl) (by kernel_rfl) (by kernel_rfl) (fun _ _ _ h => h) (Or.inr ⟨by kernel_rfl, rfl⟩) hHeld ?_
              simp only [Act.put, List.setIfInBounds_toArray, List.set_cons_succ, List.set_cons_zero]
              refine drawn_take (i := 17) (v := undef) (some 78) rfl rfl (by kernel_rfl) (by kernel_rfl) (by kernel_rfl) (fun _ _ _ h => h) (Or.inr ⟨by kernel_rfl, rfl⟩) hHeld ?_
              simp only [Act.put, List.setIfInBounds_toArray, List.set_cons_succ, List.set_cons_zero]
              refine drawn_take (i := 18) (v := undef) (some 79) rfl rfl (by kernel_rfl) (by kernel_rfl) (by kernel_rfl) (fun _ _ _ h => h) (Or.inr ⟨by kernel_rfl, rfl⟩) hHeld ?_
              simp only [Act.put, List.setIfInBounds_toArray, List.set_cons_succ, List.set_cons_zero]
              refine drawn_take (i := 19) (v := undef) (some 80) rfl rfl (by kernel_rfl) (by kernel_rfl) (by kernel_rfl) (fun _ _ _ h => h) (Or.inr ⟨by kernel_rfl, rfl⟩) hHeld ?_
              simp only [Act.put, List.setIfInBounds_toArray, List.set_cons_succ, List.set_cons_zero]
              refine drawn_take (i := 20) (v := undef) (some 81) rfl rfl (by kernel_rfl) (by kernel_rfl) (by kernel_rfl) (fun _ _ _ h => h) (Or.inr ⟨by kernel_rfl, rfl⟩) hHeld ?_
              simp only [Act.put, List.setIfInBounds_toArray, List.set_cons_succ, List.set_cons_zero]
              refine drawn_take (i := 21) (v := .bool true) (some 82) rfl rfl (by kernel_rfl) (by kernel_rfl) (by kernel_rfl) (fun _ _ _ h => h) (Or.inl ⟨by kernel_rfl, fun wq hw => by go_simp⟩) hHeld ?_
              simp only [Act.put, List.setIfInBounds_toArray, List.set_cons_succ, List.set_cons_zero]
              refine drawn_take (i := 22) (v := .bool true) (some 83) rfl rfl (by kernel_rfl) (by kernel_rfl) (by kernel_rfl) (fun _ _ _ h => h) (Or.inl ⟨by kernel_rfl, fun wq hw => by go_simp⟩) hHeld ?_
              simp only [Act.put, List.setIfInBounds_toArray, List.set_cons_succ, List.set_cons_zero]
              refine wpAnyH_done (by kernel_rfl) ?_ _
              refine NoPanic.normal ?_
              clear hHeld
              rw [← HW9.out]
              obtain ⟨z0, z1, z2, z3, z4⟩ := HRD.out w9 HH9.out
              obtain ⟨x, hx⟩ : ∃ x, x = max ct st := ⟨_, rfl⟩
              have HN : Hid ((S.take (k2 + 1)).foldl jstep [] = A ++ [⟨cf, x⟩]) := hidn (by rw [HFM.out, HG.out, jstep_yes A _ _ HBB.out, hx])
              have m1 : max ct st = x := hx.symm
              have m3 : (if ct < st then st else ct) = x := by rw [hx]; split <;> omega
              have HBY : Hid (Below w5.heap.size w5 ((w9.setCell ⟨q, p * 2 + 1, none⟩ (.int .i64 x)).drew)) := hidn ((HBX.out.setCell (p := ⟨q, p * 2 + 1, none⟩) hq5 _).drew)
              have HJY : Hid ((w9.setCell ⟨q, p * 2 + 1, none⟩ (.int .i64 x)).drew.ownsRow w5.heap.size 25 2 (.slice (some ⟨q, 0, none⟩) (p + 1) cj) (p + 1) (vgp ((S.take (k2 + 1)).foldl jstep []))) := hidn (by
                have h6 := (HJ9.out.stored (p * 2 + 1) (.int .i64 x)).1
                rw [vgp_set A _ x p HP.out] at h6
                rw [HN.out]
                exact own_skip h6 ((Below.refl _ _).drew))
              clear hx
              go_wp2_with fail
              go_region
              go_wp2_with fail
              go_roundw
              case rel => exact ⟨k2 + 1, p + 1, by omega, by omega, by first | rfl | simp, HBY, HJY⟩
              case measure => simp [intOf]; omega
            · by_cases hc2 : sf - 1 = ct
              · have hc3 : ct < sf := by omega
                have HWS := hidn (HWS.out hc3)
                have HBB : Hid (goesB ⟨cf, ct⟩ ⟨sf, st⟩ = true) := hidn (by unfold goesB; rw [decide_eq_true (show sf - 1 = ct from hc2)]; simp)
                go_wp2_with fail
                rw [← HW6.out]
                refine wp_region_noPanic ?_
                refine wp_region_held_drew (S := fun w' => Below w6.heap.size w6 w') (by kernel_rfl) ((Below.refl _ w6).drew) (fun hHeld => ?_)
                refine drawn_take (i := 0) (v := .int .i64 (p : Int)) (some 61) rfl rfl (by kernel_rfl) (by kernel_rfl) (by kernel_rfl) (fun _ _ _ h => h) (Or.inl ⟨by kernel_rfl, fun wq hw => by go_simp⟩) hHeld ?_
                simp only [Act.put, List.setIfInBounds_toArray, List.set_cons_succ, List.set_cons_zero]
                refine drawn_take (i := 1) (v := .bool true) (some 62) rfl rfl (by kernel_rfl) (by kernel_rfl) (by kernel_rfl) (fun _ _ _ h => h) (Or.inl ⟨by kernel_rfl, fun wq hw => by go_simp⟩) hHeld ?_
                simp only [Act.put, List.setIfInBounds_toArray, List.set_cons_succ, List.set_cons_zero]
                refine drawn_take (i := 2) (v := .bool true) (some 63) rfl rfl (by kernel_rfl) (by kernel_rfl) (by kernel_rfl) (fun _ _ _ h => h) (Or.inl ⟨by kernel_rfl, fun wq hw => by go_simp⟩) hHeld ?_
                simp only [Act.put, List.setIfInBounds_toArray, List.set_cons_succ, List.set_cons_zero]
                refine drawn_take (i := 3) (v := .pointer (some ⟨wp.heap.size, 0, none⟩)) (some 64) rfl rfl (by kernel_rfl) (by kernel_rfl) (by kernel_rfl) (fun _ _ _ h => h) (Or.inl ⟨by kernel_rfl, fun wq hw => by go_simp⟩) hHeld ?_
                simp only [Act.put, List.setIfInBounds_toArray, List.set_cons_succ, List.set_cons_zero]
                refine drawn_take (i := 4) (v := .int .i64 sf) (some 65) rfl rfl (by kernel_rfl) (by kernel_rfl) (by kernel_rfl) (fun _ _ _ h => h) (Or.inl ⟨by kernel_rfl, fun wq hw => by obtain ⟨q1, q2, q3, q4, q5⟩ := HRD.out _ hw; go_simp⟩) hHeld ?_
                simp only [Act.put, List.setIfInBounds_toArray, List.set_cons_succ, List.set_cons_zero]
                refine drawn_take (i := 5) (v := .slice (some ⟨q, 0, none⟩) (p + 1) cj) (some 66) rfl rfl (by kernel_rfl) (by kernel_rfl) (by kernel_rfl) (fun _ _ _ h => h) (Or.inl ⟨by kernel_rfl, fun wq hw => by go_simp⟩) hHeld ?_
                simp only [Act.put, List.setIfInBounds_toArray, List.set_cons_succ, List.set_cons_zero]
                refine drawn_take (i := 6) (v := .int .i64 (p : Int)) (some 67) rfl rfl (by kernel_rfl) (by kernel_rfl) (by kernel_rfl) (fun _ _ _ h => h) (Or.inl ⟨by kernel_rfl, fun wq hw => by go_simp⟩) hHeld ?_
                simp only [Act.put, List.setIfInBounds_toArray, List.set_cons_succ, List.set_cons_zero]
                refine drawn_take (i := 7) (v := .pointer (some ⟨q, p * 2, none⟩)) (some 68) rfl rfl (by kernel_rfl) (by kernel_rfl) (by kernel_rfl) (fun _ _ _ h => h) (Or.inl ⟨by kernel_rfl, fun wq hw => by go_simp <;> (intro h8; exfalso; omega)⟩) hHeld ?_
                simp only [Act.put, List.setIfInBounds_toArray, List.set_cons_succ, List.set_cons_zero]
                refine drawn_take (i := 8) (v := .pointer (some ⟨q, p * 2 + 1, none⟩)) (some 69) rfl rfl (by kernel_rfl) (by kernel_rfl) (by kernel_rfl) (fun _ _ _ h => h) (Or.inl ⟨by kernel_rfl, fun wq hw => by go_simp⟩) hHeld ?_
                simp only [Act.put, List.setIfInBounds_toArray, List.set_cons_succ, List.set_cons_zero]
                refine drawn_take (i := 9) (v := .int .i64 ct) (some 70) rfl rfl (by kernel_rfl) (by kernel_rfl) (by kernel_rfl) (fun _ _ _ h => h) (Or.inl ⟨by kernel_rfl, fun wq hw => by obtain ⟨q1, q2, q3, q4, q5⟩ := HRD.out _ hw; go_simp⟩) hHeld ?_
                simp only [Act.put, List.setIfInBounds_toArray, List.set_cons_succ, List.set_cons_zero]
                refine drawn_take (i := 10) (v := .bool false) (some 71) rfl rfl (by kernel_rfl) (by kernel_rfl) (by kernel_rfl) (fun _ _ _ h => h) (Or.inl ⟨by kernel_rfl, fun wq hw => by go_simp <;> omega⟩) hHeld ?_
                simp only [Act.put, List.setIfInBounds_toArray, List.set_cons_succ, List.set_cons_zero]
                refine drawn_take (i := 11) (v := .bool false) (some 72) rfl rfl (by kernel_rfl) (by kernel_rfl) (by kernel_rfl) (fun _ _ _ h => h) (Or.inl ⟨by kernel_rfl, fun wq hw => by go_simp⟩) hHeld ?_
                simp only [Act.put, List.setIfInBounds_toArray, List.set_cons_succ, List.set_cons_zero]
                refine drawn_take (i := 12) (v := .pointer (some ⟨wp.heap.size, 0, none⟩)) (some 73) rfl rfl (by kernel_rfl) (by kernel_rfl) (by kernel_rfl) (fun _ _ _ h => h) (Or.inl ⟨by kernel_rfl, fun wq hw => by go_simp⟩) hHeld ?_
                simp only [Act.put, List.setIfInBounds_toArray, List.set_cons_succ, List.set_cons_zero]
                refine drawn_take (i := 13) (v := .int .i64 sf) (some 74) rfl rfl (by kernel_rfl) (by kernel_rfl) (by kernel_rfl) (fun _ _ _ h => h) (Or.inl ⟨by kernel_rfl, fun wq hw => by obtain ⟨q1, q2, q3, q4, q5⟩ := HRD.out _ hw; go_simp⟩) hHeld ?_
                simp only [Act.put, List.setIfInBounds_toArray, List.set_cons_succ, List.set_cons_zero]
                refine drawn_take (i := 14) (v := .int .i64 (sf - 1)) (some 75) rfl rfl (by kernel_rfl) (by kernel_rfl) (by kernel_rfl) (fun _ _ _ h => h) (Or.inl ⟨by kernel_rfl, fun wq hw => by go_simp; first | exact HWS.out | (have h9 := HWS.out; rw [hc2] at h9; exact h9)⟩) hHeld ?_
                simp only [Act.put, List.setIfInBounds_toArray, List.set_cons_succ, List.set_cons_zero]
                refine drawn_take (i := 15) (v := .slice (some ⟨q, 0, none⟩) (p + 1) cj) (some 76) rfl rfl (by kernel_rfl) (by kernel_rfl) (by kernel_rfl) (fun _ _ _ h => h) (Or.inl ⟨by kernel_rfl, fun wq hw => by go_simp⟩) hHeld ?_
                simp only [Act.put, List.setIfInBounds_toArray, List.set_cons_succ, List.set_cons_zero]
                refine drawn_take (i := 16) (v := .int .i64 (p : Int)) (some 77) rfl rfl (by kernel_rfl) (by kernel_rfl) (by kernel_rfl) (fun _ _ _ h => h) (Or.inl ⟨by kernel_rfl, fun wq hw => by go_simp⟩) hHeld ?_
                simp only [Act.put, List.setIfInBounds_toArray, List.set_cons_succ, List.set_cons_zero]
                refine drawn_take (i := 17) (v := .pointer (some ⟨q, p * 2, none⟩)) (some 78) rfl rfl (by kernel_rfl) (by kernel_rfl) (by kernel_rfl) (fun _ _ _ h => h) (Or.inl ⟨by kernel_rfl, fun wq hw => by go_simp <;> (intro h8; exfalso; omega)⟩) hHeld ?_
                simp only [Act.put, List.setIfInBounds_toArray, List.set_cons_succ, List.set_cons_zero]
                refine drawn_take (i := 18) (v := .pointer (some ⟨q, p * 2 + 1, none⟩)) (some 79) rfl rfl (by kernel_rfl) (by kernel_rfl) (by kernel_rfl) (fun _ _ _ h => h) (Or.inl ⟨by kernel_rfl, fun wq hw => by go_simp⟩) hHeld ?_
                simp only [Act.put, List.setIfInBounds_toArray, List.set_cons_succ, List.set_cons_zero]
                refine drawn_take (i := 19) (v := .int .i64 ct) (some 80) rfl rfl (by kernel_rfl) (by kernel_rfl) (by kernel_rfl) (fun _ _ _ h => h) (Or.inl ⟨by kernel_rfl, fun wq hw => by obtain ⟨q1, q2, q3, q4, q5⟩ := HRD.out _ hw; go_simp⟩) hHeld ?_
                simp only [Act.put, List.setIfInBounds_toArray, List.set_cons_succ, List.set_cons_zero]
                refine drawn_take (i := 20) (v := .bool true) (some 81) rfl rfl (by kernel_rfl) (by kernel_rfl) (by kernel_rfl) (fun _ _ _ h => h) (Or.inl ⟨by kernel_rfl, fun wq hw => by go_simp <;> omega⟩) hHeld ?_
                simp only [Act.put, List.setIfInBounds_toArray, List.set_cons_succ, List.set_cons_zero]
                refine drawn_take (i := 21) (v := .bool true) (some 82) rfl rfl (by kernel_rfl) (by kernel_rfl) (by kernel_rfl) (fun _ _ _ h => h) (Or.inl ⟨by kernel_rfl, fun wq hw => by go_simp⟩) hHeld ?_
                simp only [Act.put, List.setIfInBounds_toArray, List.set_cons_succ, List.set_cons_zero]
                refine drawn_take (i := 22) (v := .bool true) (some 83) rfl rfl (by kernel_rfl) (by kernel_rfl) (by kernel_rfl) (fun _ _ _ h => h) (Or.inl ⟨by kernel_rfl, fun wq hw => by go_simp⟩) hHeld ?_
                simp only [Act.put, List.setIfInBounds_toArray, List.set_cons_succ, List.set_cons_zero]
                refine wpAnyH_done (by kernel_rfl) ?_ _
                refine NoPanic.normal ?_
                clear hHeld
                rw [← HW9.out]
                obtain ⟨z0, z1, z2, z3, z4⟩ := HRD.out w9 HH9.out
                clear hc2
                obtain ⟨x, hx⟩ : ∃ x, x = max ct st := ⟨_, rfl⟩
                have HN : Hid ((S.take (k2 + 1)).foldl jstep [] = A ++ [⟨cf, x⟩]) := hidn (by rw [HFM.out, HG.out, jstep_yes A _ _ HBB.out, hx])
                have m1 : max ct st = x := hx.symm
                have m3 : (if ct < st then st else ct) = x := by rw [hx]; split <;> omega
                have HBY : Hid (Below w5.heap.size w5 ((w9.setCell ⟨q, p * 2 + 1, none⟩ (.int .i64 x)).drew)) := hidn ((HBX.out.setCell (p := ⟨q, p * 2 + 1, none⟩) hq5 _).drew)
                have HJY : Hid ((w9.setCell ⟨q, p * 2 + 1, none⟩ (.int .i64 x)).drew.ownsRow w5.heap.size 25 2 (.slice (some ⟨q, 0, none⟩) (p + 1) cj) (p + 1) (vgp ((S.take (k2 + 1)).foldl jstep []))) := hidn (by
                  have h6 := (HJ9.out.stored (p * 2 + 1) (.int .i64 x)).1
                  rw [vgp_set A _ x p HP.out] at h6
                  rw [HN.out]
                  exact own_skip h6 ((Below.refl _ _).drew))
                clear hx
                go_wp2_with fail
                go_region
                go_wp2_with fail
                go_roundw
                case rel => exact ⟨k2 + 1, p + 1, by omega, by omega, by first | rfl | simp, HBY, HJY⟩
                case measure => simp [intOf]; omega
              · have hc3 : ct < sf := by omega
                have HWS := hidn (HWS.out hc3)
                have HBB : Hid (goesB ⟨cf, ct⟩ ⟨sf, st⟩ = false) := hidn (by unfold goesB; rw [decide_eq_false (show ¬ sf - 1 = ct from hc2), decide_eq_false (show ¬ sf ≤ ct from hc1)]; rfl)
                go_wp2_with fail
                rw [← HW6.out]
                refine wp_region_noPanic ?_
                refine wp_region_held_drew (S := fun w' => Below w6.heap.size w6 w') (by kernel_rfl) ((Below.refl _ w6).drew) (fun hHeld => ?_)
                refine drawn_take (i := 0) (v := .int .i64 (p : Int)) (some 61) rfl rfl (by kernel_rfl) (by kernel_rfl) (by kernel_rfl) (fun _ _ _ h => h) (Or.inl ⟨by kernel_rfl, fun wq hw => by go_simp⟩) hHeld ?_
                simp only [Act.put, List.setIfInBounds_toArray, List.set_cons_succ, List.set_cons_zero]
                refine drawn_take (i := 1) (v := .bool true) (some 62) rfl rfl (by kernel_rfl) (by kernel_rfl) (by kernel_rfl) (fun _ _ _ h => h) (Or.inl ⟨by kernel_rfl, fun wq hw => by go_simp⟩) hHeld ?_
                simp only [Act.put, List.setIfInBounds_toArray, List.set_cons_succ, List.set_cons_zero]
                refine drawn_take (i := 2) (v := .bool true) (some 63) rfl rfl (by kernel_rfl) (by kernel_rfl) (by kernel_rfl) (fun _ _ _ h => h) (Or.inl ⟨by kernel_rfl, fun wq hw => by go_simp⟩) hHeld ?_
                simp only [Act.put, List.setIfInBounds_toArray, List.set_cons_succ, List.set_cons_zero]
                refine drawn_take (i := 3) (v := .pointer (some ⟨wp.heap.size, 0, none⟩)) (some 64) rfl rfl (by kernel_rfl) (by kernel_rfl) (by kernel_rfl) (fun _ _ _ h => h) (Or.inl ⟨by kernel_rfl, fun wq hw => by go_simp⟩) hHeld ?_
                simp only [Act.put, List.setIfInBounds_toArray, List.set_cons_succ, List.set_cons_zero]
                refine drawn_take (i := 4) (v := .int .i64 sf) (some 65) rfl rfl (by kernel_rfl) (by kernel_rfl) (by kernel_rfl) (fun _ _ _ h => h) (Or.inl ⟨by kernel_rfl, fun wq hw => by obtain ⟨q1, q2, q3, q4, q5⟩ := HRD.out _ hw; go_simp⟩) hHeld ?_
                simp only [Act.put, List.setIfInBounds_toArray, List.set_cons_succ, List.set_cons_zero]
                refine drawn_take (i := 5) (v := .slice (some ⟨q, 0, none⟩) (p + 1) cj) (some 66) rfl rfl (by kernel_rfl) (by kernel_rfl) (by kernel_rfl) (fun _ _ _ h => h) (Or.inl ⟨by kernel_rfl, fun wq hw => by go_simp⟩) hHeld ?_
                simp only [Act.put, List.setIfInBounds_toArray, List.set_cons_succ, List.set_cons_zero]
                refine drawn_take (i := 6) (v := .int .i64 (p : Int)) (some 67) rfl rfl (by kernel_rfl) (by kernel_rfl) (by kernel_rfl) (fun _ _ _ h => h) (Or.inl ⟨by kernel_rfl, fun wq hw => by go_simp⟩) hHeld ?_
                simp only [Act.put, List.setIfInBounds_toArray, List.set_cons_succ, List.set_cons_zero]
                refine drawn_take (i := 7) (v := .pointer (some ⟨q, p * 2, none⟩)) (some 68) rfl rfl (by kernel_rfl) (by kernel_rfl) (by kernel_rfl) (fun _ _ _ h => h) (Or.inl ⟨by kernel_rfl, fun wq hw => by go_simp <;> (intro h8; exfalso; omega)⟩) hHeld ?_
                simp only [Act.put, List.setIfInBounds_toArray, List.set_cons_succ, List.set_cons_zero]
                refine drawn_take (i := 8) (v := .pointer (some ⟨q, p * 2 + 1, none⟩)) (some 69) rfl rfl (by kernel_rfl) (by kernel_rfl) (by kernel_rfl) (fun _ _ _ h => h) (Or.inl ⟨by kernel_rfl, fun wq hw => by go_simp⟩) hHeld ?_
                simp only [Act.put, List.setIfInBounds_toArray, List.set_cons_succ, List.set_cons_zero]
                refine drawn_take (i := 9) (v := .int .i64 ct) (some 70) rfl rfl (by kernel_rfl) (by kernel_rfl) (by kernel_rfl) (fun _ _ _ h => h) (Or.inl ⟨by kernel_rfl, fun wq hw => by obtain ⟨q1, q2, q3, q4, q5⟩ := HRD.out _ hw; go_simp⟩) hHeld ?_
                simp only [Act.put, List.setIfInBounds_toArray, List.set_cons_succ, List.set_cons_zero]
                refine drawn_take (i := 10) (v := .bool false) (some 71) rfl rfl (by kernel_rfl) (by kernel_rfl) (by kernel_rfl) (fun _ _ _ h => h) (Or.inl ⟨by kernel_rfl, fun wq hw => by go_simp <;> omega⟩) hHeld ?_
                simp only [Act.put, List.setIfInBounds_toArray, List.set_cons_succ, List.set_cons_zero]
                refine drawn_take (i := 11) (v := .bool false) (some 72) rfl rfl (by kernel_rfl) (by kernel_rfl) (by kernel_rfl) (fun _ _ _ h => h) (Or.inl ⟨by kernel_rfl, fun wq hw => by go_simp⟩) hHeld ?_
                simp only [Act.put, List.setIfInBounds_toArray, List.set_cons_succ, List.set_cons_zero]
                refine drawn_take (i := 12) (v := .pointer (some ⟨wp.heap.size, 0, none⟩)) (some 73) rfl rfl (by kernel_rfl) (by kernel_rfl) (by kernel_rfl) (fun _ _ _ h => h) (Or.inl ⟨by kernel_rfl, fun wq hw => by go_simp⟩) hHeld ?_
                simp only [Act.put, List.setIfInBounds_toArray, List.set_cons_succ, List.set_cons_zero]
                refine drawn_take (i := 13) (v := .int .i64 sf) (some 74) rfl rfl (by kernel_rfl) (by kernel_rfl) (by kernel_rfl) (fun _ _ _ h => h) (Or.inl ⟨by kernel_rfl, fun wq hw => by obtain ⟨q1, q2, q3, q4, q5⟩ := HRD.out _ hw; go_simp⟩) hHeld ?_
                simp only [Act.put, List.setIfInBounds_toArray, List.set_cons_succ, List.set_cons_zero]
                refine drawn_take (i := 14) (v := .int .i64 (sf - 1)) (some 75) rfl rfl (by kernel_rfl) (by kernel_rfl) (by kernel_rfl) (fun _ _ _ h => h) (Or.inl ⟨by kernel_rfl, fun wq hw => by go_simp; first | exact HWS.out | (have h9 := HWS.out; rw [hc2] at h9; exact h9)⟩) hHeld ?_
                simp only [Act.put, List.setIfInBounds_toArray, List.set_cons_succ, List.set_cons_zero]
                refine drawn_take (i := 15) (v := .slice (some ⟨q, 0, none⟩) (p + 1) cj) (some 76) rfl rfl (by kernel_rfl) (by kernel_rfl) (by kernel_rfl) (fun _ _ _ h => h) (Or.inl ⟨by kernel_rfl, fun wq hw => by go_simp⟩) hHeld ?_
                simp only [Act.put, List.setIfInBounds_toArray, List.set_cons_succ, List.set_cons_zero]
                refine drawn_take (i := 16) (v := .int .i64 (p : Int)) (some 77) rfl rfl (by kernel_rfl) (by kernel_rfl) (by kernel_rfl) (fun _ _ _ h => h) (Or.inl ⟨by kernel_rfl, fun wq hw => by go_simp⟩) hHeld ?_
                simp only [Act.put, List.setIfInBounds_toArray, List.set_cons_succ, List.set_cons_zero]
                refine drawn_take (i := 17) (v := .pointer (some ⟨q, p * 2, none⟩)) (some 78) rfl rfl (by kernel_rfl) (by kernel_rfl) (by kernel_rfl) (fun _ _ _ h => h) (Or.inl ⟨by kernel_rfl, fun wq hw => by go_simp <;> (intro h8; exfalso; omega)⟩) hHeld ?_
                simp only [Act.put, List.setIfInBounds_toArray, List.set_cons_succ, List.set_cons_zero]
                refine drawn_take (i := 18) (v := .pointer (some ⟨q, p * 2 + 1, none⟩)) (some 79) rfl rfl (by kernel_rfl) (by kernel_rfl) (by kernel_rfl) (fun _ _ _ h => h) (Or.inl ⟨by kernel_rfl, fun wq hw => by go_simp⟩) hHeld ?_
                simp only [Act.put, List.setIfInBounds_toArray, List.set_cons_succ, List.set_cons_zero]
                refine drawn_take (i := 19) (v := .int .i64 ct) (some 80) rfl rfl (by kernel_rfl) (by kernel_rfl) (by kernel_rfl) (fun _ _ _ h => h) (Or.inl ⟨by kernel_rfl, fun wq hw => by obtain ⟨q1, q2, q3, q4, q5⟩ := HRD.out _ hw; go_simp⟩) hHeld ?_
                simp only [Act.put, List.setIfInBounds_toArray, List.set_cons_succ, List.set_cons_zero]
                refine drawn_take (i := 20) (v := .bool false) (some 81) rfl rfl (by kernel_rfl) (by kernel_rfl) (by kernel_rfl) (fun _ _ _ h => h) (Or.inl ⟨by kernel_rfl, fun wq hw => by go_simp <;> omega⟩) hHeld ?_
                simp only [Act.put, List.setIfInBounds_toArray, List.set_cons_succ, List.set_cons_zero]
                refine drawn_take (i := 21) (v := .bool false) (some 82) rfl rfl (by kernel_rfl) (by kernel_rfl) (by kernel_rfl) (fun _ _ _ h => h) (Or.inl ⟨by kernel_rfl, fun wq hw => by go_simp⟩) hHeld ?_
                simp only [Act.put, List.setIfInBounds_toArray, List.set_cons_succ, List.set_cons_zero]
                refine drawn_take (i := 22) (v := .bool false) (some 83) rfl rfl (by kernel_rfl) (by kernel_rfl) (by kernel_rfl) (fun _ _ _ h => h) (Or.inl ⟨by kernel_rfl, fun wq hw => by go_simp⟩) hHeld ?_
                simp only [Act.put, List.setIfInBounds_toArray, List.set_cons_succ, List.set_cons_zero]
                refine wpAnyH_done (by kernel_rfl) ?_ _
                refine NoPanic.normal ?_
                clear hHeld
                rw [← HW9.out]
                obtain ⟨z0, z1, z2, z3, z4⟩ := HRD.out w9 HH9.out
                have HN : Hid ((S.take (k2 + 1)).foldl jstep [] = A ++ [⟨cf, ct⟩] ++ [⟨sf, st⟩]) := hidn (by rw [HFM.out, HG.out, jstep_no A _ _ HBB.out])
                obtain ⟨w7, hw7⟩ : ∃ w7, w7 = w9.alloc (.cells #[.int .i64 sf, .int .i64 st] 25) := ⟨_, rfl⟩
                have b7 : Below w9.heap.size w9 w7 := by rw [hw7]; exact (Below.refl _ w9).alloc (Nat.le_refl _) _
                have q7 : w7.heap[w9.heap.size]? = some (.cells #[.int .i64 sf, .int .i64 st] 25 (0, 0)) := by rw [hw7]; exact heap_alloc_new w9 _
                obtain ⟨g, c', w8, hr, ho8, hg8⟩ := app_gap1 (own_skip HJ9.out b7) (Nat.le_trans HBX.out.size b7.size) (by omega) (⟨sf, st⟩ : Gp) ⟨w9.heap.size, 0, none⟩ (cell_of_row _ _ _ _ _ _ q7) (cell_of_row _ _ 1 _ _ _ q7)
                have HR := hidn hr
                have HW7 := hidn hw7
                have HB8 : Hid (Below w5.heap.size w5 w8) := hidn ((HBX.out.trans (b7.mono HBX.out.size)).grown hg8 (Nat.le_trans HBX.out.size b7.size) (fun k hk => (HJ9.out.lt k hk).1))
                have HJ8 : Hid (w8.ownsRow w5.heap.size 25 2 (.slice (some ⟨g, 0, none⟩) (p + 1 + 1) c') (p + 1 + 1) (vgp ((S.take (k2 + 1)).foldl jstep []))) := hidn (by rw [HN.out]; exact ho8)
                clear hr hw7 b7 q7 ho8 hg8 z0 z1 z4
                go_wp2_with (at_builtin; rw [← HW7.out]; refine wpList_app_run2 rfl (.tmp 96) (.tmp 98) 22 22 rfl rfl (.slice (some ⟨q, 0, none⟩) (p + 1) cj) (.slice (some ⟨w9.heap.size, 0, none⟩) 1 1) _ rfl rfl HR.out ?_)
                go_roundw
                case rel => exact ⟨k2 + 1, p + 1 + 1, by omega, by omega, by first | rfl | simp, HB8, HJ8⟩
                case measure => simp [intOf]; omega
        · obtain rfl : k2 = n := by omega
          have hlt3 : ¬ (k2 : Int) < (k2 : Int) := by omega
          have HTK2 : Hid ((S.take k2).foldl jstep [] = joinG S) := hidn (by rw [List.take_of_length_le (by rw [HSL.out]; omega), fold_join])
          clear hlt
          go_wp2_with fail
          go_ret
          exact ⟨_, m, S, rfl, HSO.out, own_lowG (by rw [← HTK2.out]; exact HJ.out) hsz5.out, HB5.out.trans (HX.out.mono hsz5.out)⟩
end Go.Proofs.Ytkhihochfmgibaa
