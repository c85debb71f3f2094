/- The document's disk: Crash. -/
import Derived.Test.YtocfbokgbpaneaaRyR
import Derived.Test.YtocfbokgbpaneaaRyW
namespace Go.Proofs.Ytocfbokgbpaneaa
open Go.RowKit Go.Maps
set_option linter.unusedVariables false

set_option maxRecDepth 100000 in
set_option maxHeartbeats 32000000 in
theorem crashY_any (w : World) (y : Nat) (F : Nat → Prop) (fa : Option Addr) (fc : Nat) (R : List Yf) (room fuse : Int) (h : RyOf w y F fa fc R room fuse) (hF : ∀ k, F k → k < w.heap.size) (hR : R.length ≤ 1000000) (hsm : sumL R ≤ 100000) (la : Option Addr) (ll lc : Nat) (ks : List Kp) (hks : Kps w la ll ks) (hkF : ∀ x, la = some x → 0 < ll → ¬ F x.block) :
    Calls Try.prog 24 #[.pointer (some ⟨y, 0, none⟩), .slice la ll lc] w (RyPost w y F (fun R2 => R2.length = R.length ∧ ∀ (k : Nat) f, R[k]? = some f → ∃ f', R2[k]? = some f' ∧ f'.name = f.name ∧ f'.l.map Yc.x = fellL (kfOf ks f.name.data.toList) (f.l.map Yc.x)) room (-1) 0) := by
  have HI0 := hidn (CrI.start (w := w) (kfOf ks) h (Gr.refl _ _) hF)
  have c1 : w.cell? ⟨y, 1, none⟩ = some (.slice fa R.length fc) := by rw [cell_of_row _ _ _ _ _ _ h.disk]; rfl
  obtain ⟨N, hN⟩ : ∃ N, N = R.length := ⟨_, rfl⟩
  have hNb : N ≤ 1000000 := by rw [hN]; exact hR
  rw [← hN] at c1
  have HNN := hidn hN
  have HKs := hidn hks
  have HKF := hidn hkF
  have hllb := hks.2.1
  have HLL := hidn hks.1
  have HSM : Hid (∀ (k : Nat) f, R[k]? = some f → f.l.length ≤ 100000) := hidn (fun k f hk => by
    have h1 := sumL_take R k f hk
    have h2 := sumL_le R (k + 1)
    omega)
  clear hN hks hkF h hF hR hsm
  go_enter Try.func24, Try.ntmps24
  go_wp2_with fail
  clear c1
  go_loopw [17] (fun iv wr => ∃ j : Nat, j ≤ N ∧ iv = .int .i64 (j : Int) ∧ Hid (CrI w y F fa fc R room fuse (kfOf ks) (uptoY j 0) wr)) (fun iv _ => N - (intOf iv).toNat)
  case atStart => exact ⟨0, Nat.zero_le _, rfl, HI0⟩
  case round =>
    clear HI0
    obtain ⟨j, hj, rfl, HI⟩ := hrel
    obtain ⟨wo, hwo⟩ : ∃ wo, wo = wr := ⟨_, rfl⟩
    subst hwo
    by_cases hlt : j < N
    · have hlt2 : (j : Int) < (N : Int) := by omega
      obtain ⟨f, hf⟩ : ∃ f, R[j]? = some f := ⟨_, List.getElem?_eq_getElem (by rw [← HNN.out]; exact hlt)⟩
      have HFK := hidn hf
      have hflb0 := HSM.out j f hf
      obtain ⟨g, b6, fg, fl, fcc, nm, hfa, hc0, hc1, HB6, HI6, HGG, HFL, HNM, hflb, hb6e⟩ : ∃ g b6 fg fl fcc nm, fa = some ⟨g, 0, none⟩ ∧ wo.cell? ⟨g, j * 2, none⟩ = some (.string nm) ∧ wo.cell? ⟨g, j * 2 + 1, none⟩ = some (.slice (some ⟨fg, 0, none⟩) fl fcc) ∧ Hid ((wo.alloc (.cells #[.string nm, .slice (some ⟨fg, 0, none⟩) fl fcc] 55)).heap[b6]? = some (.cells #[.string nm, .slice (some ⟨fg, 0, none⟩) fl fcc] 55 (0, 0))) ∧ Hid (CrI w y F fa fc R room fuse (kfOf ks) (uptoY j 0) (wo.alloc (.cells #[.string nm, .slice (some ⟨fg, 0, none⟩) fl fcc] 55))) ∧ Hid (fg = f.g) ∧ Hid (fl = f.l.length) ∧ Hid (nm = f.name) ∧ fl ≤ 100000 ∧ Hid (b6 = wo.heap.size) := by
        obtain ⟨F', R', h3, h4, h5, h6, h7⟩ := HI.out
        obtain ⟨f', a1, a2, a3, a4, a5⟩ := h7 j f hf
        obtain ⟨g, hfa, _, hc0, hc1⟩ := h3.at a1
        have hll : f'.l.length = f.l.length := by
          have h1 := congrArg List.length a5
          rwa [fellTo_length, List.length_map, List.length_map] at h1
        refine ⟨g, wo.heap.size, f.g, f.l.length, f'.c, f.name, hfa, by rw [hc0, a2], by rw [hc1]; unfold Yf.row; rw [a3, hll], hidn (heap_alloc_new _ _), hidn (HI.out.skip ((Below.refl _ _).alloc (Nat.le_refl _) _)), hidn rfl, hidn rfl, hidn rfl, hflb0, hidn rfl⟩
      subst hfa
      obtain ⟨w1, hw1⟩ : ∃ w1, w1 = wo.alloc (.cells #[.string nm, .slice (some ⟨fg, 0, none⟩) fl fcc] 55) := ⟨_, rfl⟩
      rw [← hw1] at HB6 HI6
      clear hf HI hflb0
      go_wp2_with fail
      rw [← hw1]
      rw [← hb6e.out]
      clear hc0 hc1 hw1
      go_loopw [24] (fun iv wi => ∃ i : Nat, i ≤ fl ∧ iv = .int .i64 (i : Int) ∧ Hid (CrI w y F (some ⟨g, 0, none⟩) fc R room fuse (kfOf ks) (uptoY j i) wi) ∧ Hid (wi.heap[b6]? = some (.cells #[.string nm, .slice (some ⟨fg, 0, none⟩) fl fcc] 55 (0, 0)))) (fun iv _ => fl - (intOf iv).toNat)
      case atStart => exact ⟨0, Nat.zero_le _, rfl, HI6, HB6⟩
      case round =>
        clear HI6 HB6
        obtain ⟨i, hi, rfl, HI, HBi⟩ := hrel
        obtain ⟨wi, hwi⟩ : ∃ wi, wi = wr := ⟨_, rfl⟩
        subst hwi
        have cb0 : wi.cell? ⟨b6, 0, none⟩ = some (.string nm) := by rw [cell_of_row _ _ _ _ _ _ HBi.out]; rfl
        have cb1 : wi.cell? ⟨b6, 1, none⟩ = some (.slice (some ⟨fg, 0, none⟩) fl fcc) := by rw [cell_of_row _ _ _ _ _ _ HBi.out]; rfl
        by_cases hlti : i < fl
        · have hlti2 : (i : Int) < (fl : Int) := by omega
          obtain ⟨F', R', h3, h4, h5, h6, h7⟩ := HI.out
          obtain ⟨f', a1, a2, a3, a4, a5⟩ := h7 j f HFK.out
          have hll : f'.l.length = f.l.length := by
            have h1 := congrArg List.length a5
            rwa [fellTo_length, List.length_map, List.length_map] at h1
          obtain ⟨c, hc⟩ : ∃ c, f'.l[i]? = some c := ⟨_, List.getElem?_eq_getElem (by rw [hll, ← HFL.out]; exact hlti)⟩
          have hm := List.mem_of_getElem? a1
          obtain ⟨d0, d1, d2, d3, d4⟩ := h3.ext hm hc
          have HG : Hid (f'.g = fg) := hidn (by rw [HGG.out]; exact a3)
          rw [HG.out] at d4
          have H3 := hidn h3
          have H4 := hidn h4
          have H5 := hidn h5
          have H6 := hidn h6
          have H7 := hidn h7
          have HF1 := hidn a1
          have HCI := hidn hc
          clear d0 d1 d2 d3 h3 h4 h5 h6 h7 a1 a2 a3 a4 a5 hll hc hm
          cases hwt : c.x.waits with
          | false =>
            rw [hwt] at d4
            have HN := hidn (CrI.calm HFK.out H3.out H4.out H5.out H6.out H7.out HF1.out HCI.out hwt)
            clear hwt HI H3 H4 H5 H6 H7 HF1 HCI
            go_wp2
            go_roundw
            case rel => exact ⟨i + 1, hlti, by simp, HN, HBi⟩
            case measure => simp [intOf]; omega
          | true =>
            rw [hwt] at d4
            have HWT := hidn hwt
            clear hwt HI
            obtain ⟨z, hz⟩ : ∃ z : Nat, z = 0 := ⟨_, rfl⟩
            have HZ := hidn hz
            have HKi := hidn (Kps.gr HKs.out HKF.out H4.out)
            clear hz
            go_wp2_with fail
            clear d4
            go_loopw [9, 38] (fun nv iv wk => ∃ m : Nat, m ≤ ll ∧ iv = .int .i64 (m : Int) ∧ nv = .int .i64 (z : Int) ∧ Hid (∀ m' < m, ∀ k, ks[m']? = some k → ¬ (k.nm = nm ∧ k.i = (i : Int))) ∧ Hid (Below wi.heap.size wi wk)) (fun _ iv _ => ll - (intOf iv).toNat)
            case atStart => exact ⟨0, Nat.zero_le _, rfl, by rw [HZ.out]; rfl, hidn (fun m' hm' => by omega), hidn (Below.refl _ _)⟩
            case round =>
              obtain ⟨m, hm, rfl, rfl, HNo, HBk⟩ := hrel
              obtain ⟨wk, hwk⟩ : ∃ wk, wk = wr := ⟨_, rfl⟩
              subst hwk
              have cb0k : wk.cell? ⟨b6, 0, none⟩ = some (.string nm) := (HBk.out.cell (p := ⟨b6, 0, none⟩) (Array.getElem?_eq_some_iff.1 HBi.out).1).trans cb0
              by_cases hltm : m < ll
              · have hltm2 : (m : Int) < (ll : Int) := by omega
                obtain ⟨kk, hkk⟩ : ∃ kk, ks[m]? = some kk := ⟨_, List.getElem?_eq_getElem (by rw [HLL.out]; exact hltm)⟩
                obtain ⟨kb, koff, rfl, k0, k1, k2⟩ := (HKi.out.below HBk.out).at hkk
                have HKK := hidn hkk
                obtain ⟨knm, hknm⟩ : ∃ x, x = kk.nm := ⟨_, rfl⟩
                obtain ⟨ki, hki⟩ : ∃ x, x = kk.i := ⟨_, rfl⟩
                obtain ⟨kn, hkn⟩ : ∃ x, x = kk.n := ⟨_, rfl⟩
                rw [← hknm] at k0
                rw [← hki] at k1
                rw [← hkn] at k2
                have HKM := hidn (And.intro hknm (And.intro hki hkn))
                have hse := str_eq_dec knm nm
                have cb0a : (wk.alloc (.cells #[.string knm, .int .i64 ki, .int .i64 kn] 90)).cell? ⟨b6, 0, none⟩ = some (.string nm) := (((Below.refl wk.heap.size wk).alloc (Nat.le_refl _) _).cell (p := ⟨b6, 0, none⟩) (block_lt_of_cell cb0k)).trans cb0k
                clear hkk hknm hki hkn
                by_cases hs : knm = nm
                · have hse' : (knm.toList == nm.toList) = true := by rw [hse]; simpa using hs
                  have HE := hidn hs
                  clear hse hs
                  by_cases hii : ki = (i : Int)
                  · have hie : (ki == (i : Int)) = true := by simpa using hii
                    obtain ⟨km, hkm⟩ : ∃ km, (if kn < 0 then (0 : Int) else kn) = km := ⟨_, rfl⟩
                    obtain ⟨nk, hnk⟩ : ∃ nk, nk = clampK kn := ⟨_, rfl⟩
                    have hkm2 : (if (128 : Int) < km then (128 : Int) else km) = (nk : Int) := by rw [hnk, ← hkm]; exact clampK_eq kn
                    have hmm : min (max kn 0) (128 : Int) = (nk : Int) := by
                      rw [← hkm2, ← hkm]
                      split <;> split <;> omega
                    have hnk128 : nk ≤ 128 := by
                      have h1 := clampK_eq kn
                      rw [← hnk] at h1
                      split at h1 <;> split at h1 <;> omega
                    have HNK : Hid (nk = clampK (kfOf ks f.name.data.toList (i : Int))) := hidn (by
                      rw [← HNM.out, kget_some ks nm (i : Int) m kk HKK.out HNo.out (HKM.out.1 ▸ HE.out) (HKM.out.2.1 ▸ hii), ← HKM.out.2.2]
                      exact hnk)
                    obtain ⟨w6, hw6⟩ : ∃ w6, w6 = wk.alloc (.cells #[.string knm, .int .i64 ki, .int .i64 kn] 90) := ⟨_, rfl⟩
                    have hb6 : Below wi.heap.size wi w6 := by rw [hw6]; exact HBk.out.alloc HBk.out.size _
                    have HB6 : Hid (w6.heap[b6]? = some (.cells #[.string nm, .slice (some ⟨fg, 0, none⟩) fl fcc] 55 (0, 0))) := hidn ((hb6.block b6 (Array.getElem?_eq_some_iff.1 HBi.out).1).trans HBi.out)
                    clear hnk hii
                    have h3 := H3.out.below H5.out hb6
                    have h4 := H4.out.trans (Gr.of (Keeps.of_below hb6))
                    have h5 : ∀ b, F' b → b < w6.heap.size := fun b hb' => Nat.lt_of_lt_of_le (H5.out b hb') hb6.size
                    have hm := List.mem_of_getElem? HF1.out
                    have hcm : c ∈ f'.l := List.mem_of_getElem? HCI.out
                    obtain ⟨d0, d1, d2, d3, d4⟩ := h3.ext hm HCI.out
                    obtain ⟨x0, x1, x2, x3⟩ := h3.ims _ hm c hcm
                    obtain ⟨f0, f1, f2, f3⟩ := h3.fi _ hm c hcm
                    have hokc := (h3.ok _ hm).2.2 c hcm
                    obtain ⟨⟨p0, r0⟩, hq0⟩ : ∃ q, q = c.q0 := ⟨_, rfl⟩
                    obtain ⟨⟨p1, r1⟩, hq1⟩ : ∃ q, q = c.q1 := ⟨_, rfl⟩
                    obtain ⟨⟨p3, r3⟩, hq3⟩ : ∃ q, q = c.q3 := ⟨_, rfl⟩
                    rw [← hq1] at d1 x1 f1
                    rw [← hq3] at d3 x3 f3
                    obtain ⟨zw, hzw⟩ : ∃ zw, zw = c.x.wri := ⟨_, rfl⟩
                    obtain ⟨zd, hzd⟩ : ∃ zd, zd = c.x.dur := ⟨_, rfl⟩
                    rw [← hzw] at x3
                    rw [← hzd] at x1
                    have hlw : zw.length = 128 := by rw [hzw]; exact hokc.2.2.1
                    have hld : zd.length = 128 := by rw [hzd]; exact hokc.1.1
                    have hr3 : 128 ≤ r3 := by
                      rcases files_at x3 with ⟨h0, _⟩ | ⟨g, _, hle⟩
                      · cases h0
                      · exact hle
                    have hr1 : 128 ≤ r1 := by
                      rcases files_at x1 with ⟨h0, _⟩ | ⟨g, _, hle⟩
                      · cases h0
                      · exact hle
                    have hnkr : nk ≤ r3 := by omega
                    obtain ⟨n0, hn0⟩ : ∃ n0, n0 = w6.heap.size := ⟨_, rfl⟩
                    have HNE := hidn hn0
                    have hfg' : f'.g = fg := HG.out
                    rw [hfg'] at d0 d1 d3 d4
                    have lfg0 : fg < n0 := by rw [hn0, ← hfg']; exact h5 _ (h3.fr _ hm)
                    obtain ⟨m2, hm2⟩ : ∃ m2, m2 = 128 - nk := ⟨_, rfl⟩
                    obtain ⟨c2, hc2⟩ : ∃ c2, c2 = r1 - nk := ⟨_, rfl⟩
                    obtain ⟨a2, ha2⟩ : ∃ a2 : Addr, a2 = if r1 = nk then ⟨p1, 0, none⟩ else ⟨p1, nk, none⟩ := ⟨_, rfl⟩
                    have HM2 := hidn hm2
                    have HC2 := hidn hc2
                    have HA2 := hidn ha2
                    have l1 : p1 < n0 := by rw [hn0]; exact h5 _ f1
                    have l3 : p3 < n0 := by rw [hn0]; exact h5 _ f3
                    have HSA : Hid ((vb (zw.take nk)).length = nk ∧ ∀ W, Below n0 w6 W → ∀ j u, (vb (zw.take nk))[j]? = some u → W.cell? ((⟨p3, 0, none⟩ : Addr).add j) = some u) := hidn ⟨by rw [length_vb, List.length_take]; omega, fun W hb j u hu => by
                      rw [vb_take, List.getElem?_take] at hu
                      split at hu
                      · have h1 := x3.cells (g := p3) rfl j u hu
                        rw [add_none] at h1 ⊢
                        exact (hb.cell (p := ⟨p3, 0 + j, none⟩) l3).trans h1
                      · cases hu⟩
                    have HSB : Hid ((vb (zd.drop nk)).length = m2 ∧ ∀ W, Below n0 w6 W → ∀ j u, (vb (zd.drop nk))[j]? = some u → W.cell? (a2.add j) = some u) := hidn ⟨by rw [length_vb, List.length_drop, hm2, hld], fun W hb j u hu => by
                      have hjl := (List.getElem?_eq_some_iff.1 hu).1
                      rw [length_vb, List.length_drop, hld] at hjl
                      rw [vb_drop, List.getElem?_drop] at hu
                      have h1 := x1.cells (g := p1) rfl (nk + j) u hu
                      rw [add_none, Nat.zero_add] at h1
                      rw [ha2, if_neg (by omega), add_none]
                      exact (hb.cell (p := ⟨p1, nk + j, none⟩) l1).trans h1⟩
                    obtain ⟨fcur, hfrow⟩ := own_ty (h3.rows _ hm) (g := f'.g) rfl
                    rw [hfg'] at hfrow
                    have HW8 := hidn (fun (W : World) => CrI.wait HFK.out h3 h4 h5 H6.out H7.out HF1.out HCI.out HWT.out nk HNK.out W)
                    rw [hfg', ← hzw, ← hzd] at HW8
                    have hnb6 : b6 ≠ fg := by rw [← hfg']; exact Ne.symm (own_ne (h3.rows _ hm) (g := f'.g) rfl HB6.out (Ne.symm tyDF.2.2.2.1))
                    have lb6 : b6 < w6.heap.size := (Array.getElem?_eq_some_iff.1 HB6.out).1
                    have hm2' : nk + m2 = 128 := by omega
                    clear h3 h4 h5 hm hcm d0 d2 d4 x0 x1 x2 x3 f0 f1 f2 f3 hokc hq0 hq1 hq3 hzw hzd hn0 hm2 hc2 ha2 hfg' hlw hld
                    go_wp2_with fail
                    rw [← hw6]
                    clear hw6 k0 k1 k2 cb0a cb0k
                    refine region_cut (fun l w' => ∃ (b59 : Nat) (aA : Option Addr) (cA : Nat) (aB : Option Addr) (cB : Nat) (W : World), l = [(58, .pointer (some ⟨fg, i * 5, none⟩)), (59, .slice (some ⟨b59, 0, none⟩) 0 0), (60, .pointer (some ⟨fg, i * 5, none⟩)), (61, .pointer (some ⟨fg, i * 5, none⟩)), (62, .pointer (some ⟨fg, i * 5 + 3, none⟩)), (63, .slice (some ⟨p3, 0, none⟩) 128 r3), (64, .int .i64 (nk : Int)), (65, .slice (some ⟨p3, 0, none⟩) nk r3), (66, .slice aA nk cA), (67, .pointer (some ⟨fg, i * 5, none⟩)), (68, .pointer (some ⟨fg, i * 5, none⟩)), (69, .pointer (some ⟨fg, i * 5 + 1, none⟩)), (70, .slice (some ⟨p1, 0, none⟩) 128 r1), (71, .int .i64 (nk : Int)), (72, .slice (some a2) m2 c2), (73, .slice aB 128 cB), (74, .pointer (some ⟨fg, i * 5, none⟩)), (75, .pointer (some ⟨fg, i * 5 + 1, none⟩))] ∧ w' = W.setCell ⟨fg, i * 5 + 1, none⟩ (.slice aB 128 cB) ∧ Below n0 w6 W ∧ W.ownsRow n0 5 1 (.slice aB 128 cB) 128 (vb (zw.take nk) ++ vb (zd.drop nk))) ?_ ?_
                    · skip
                      refine wp_region_noPanic ?_
                      refine wp_region_heldZ (S := Below n0 w6) 18 (by kernel_rfl) ((Below.refl n0 w6).drew) (fun hHeld => ?_)
                      obtain ⟨Wd, hWd⟩ : ∃ Wd, Wd = w6.drew := ⟨_, rfl⟩
                      have hle0 : n0 ≤ Wd.heap.size := by rw [hWd]; exact Nat.le_of_eq HNE.out
                      have hK0 : Below n0 w6 Wd := by rw [hWd]; exact (Below.refl n0 w6).drew
                      rw [← hWd] at hHeld ⊢
                      clear hWd
                      refine drawnZ_take (i := 0) (v := .pointer (some ⟨fg, i * 5, none⟩)) (some 58) rfl (by kernel_rfl) rfl (by kernel_rfl) (by kernel_rfl) (by kernel_rfl) (fun _ _ _ h => h) (Or.inl ⟨by kernel_rfl, fun wq hw => by go_simp⟩) hHeld ?_
                      simp only [Act.put, List.setIfInBounds_toArray, List.set_cons_succ, List.set_cons_zero]
                      refine drawnZ_take (i := 2) (v := .pointer (some ⟨fg, i * 5, none⟩)) (some 60) rfl (by kernel_rfl) rfl (by kernel_rfl) (by kernel_rfl) (by kernel_rfl) (fun _ _ _ h => h) (Or.inl ⟨by kernel_rfl, fun wq hw => by go_simp⟩) hHeld ?_
                      simp only [Act.put, List.setIfInBounds_toArray, List.set_cons_succ, List.set_cons_zero]
                      refine drawnZ_take (i := 3) (v := .pointer (some ⟨fg, i * 5, none⟩)) (some 61) rfl (by kernel_rfl) rfl (by kernel_rfl) (by kernel_rfl) (by kernel_rfl) (fun _ _ _ h => h) (Or.inl ⟨by kernel_rfl, fun wq hw => by go_simp⟩) hHeld ?_
                      simp only [Act.put, List.setIfInBounds_toArray, List.set_cons_succ, List.set_cons_zero]
                      refine drawnZ_take (i := 4) (v := .pointer (some ⟨fg, i * 5 + 3, none⟩)) (some 62) rfl (by kernel_rfl) rfl (by kernel_rfl) (by kernel_rfl) (by kernel_rfl) (fun _ _ _ h => h) (Or.inl ⟨by kernel_rfl, fun wq hw => by go_simp⟩) hHeld ?_
                      simp only [Act.put, List.setIfInBounds_toArray, List.set_cons_succ, List.set_cons_zero]
                      refine drawnZ_take (i := 5) (v := .slice (some ⟨p3, 0, none⟩) 128 r3) (some 63) rfl (by kernel_rfl) rfl (by kernel_rfl) (by kernel_rfl) (by kernel_rfl) (fun _ _ _ h => h) (Or.inl ⟨by kernel_rfl, fun wq hw => by have q := (hw.cell (p := ⟨fg, i * 5 + 3, none⟩) lfg0).trans d3; go_simp⟩) hHeld ?_
                      simp only [Act.put, List.setIfInBounds_toArray, List.set_cons_succ, List.set_cons_zero]
                      refine drawnZ_take (i := 6) (v := .int .i64 (nk : Int)) (some 64) rfl (by kernel_rfl) rfl (by kernel_rfl) (by kernel_rfl) (by kernel_rfl) (fun _ _ _ h => h) (Or.inl ⟨by kernel_rfl, fun wq hw => by go_simp⟩) hHeld ?_
                      simp only [Act.put, List.setIfInBounds_toArray, List.set_cons_succ, List.set_cons_zero]
                      refine drawnZ_take (i := 7) (v := .slice (some ⟨p3, 0, none⟩) nk r3) (some 65) rfl (by kernel_rfl) rfl (by kernel_rfl) (by kernel_rfl) (by kernel_rfl) (fun _ _ _ h => h) (Or.inl ⟨by kernel_rfl, fun wq hw => bsH_run (x := .tmp 63) (z := .tmp 64) (N := 128) rfl (by kernel_rfl) (by kernel_rfl) hnkr⟩) hHeld ?_
                      simp only [Act.put, List.setIfInBounds_toArray, List.set_cons_succ, List.set_cons_zero]
                      refine drawnZ_take (i := 9) (v := .pointer (some ⟨fg, i * 5, none⟩)) (some 67) rfl (by kernel_rfl) rfl (by kernel_rfl) (by kernel_rfl) (by kernel_rfl) (fun _ _ _ h => h) (Or.inl ⟨by kernel_rfl, fun wq hw => by go_simp⟩) hHeld ?_
                      simp only [Act.put, List.setIfInBounds_toArray, List.set_cons_succ, List.set_cons_zero]
                      refine drawnZ_take (i := 10) (v := .pointer (some ⟨fg, i * 5, none⟩)) (some 68) rfl (by kernel_rfl) rfl (by kernel_rfl) (by kernel_rfl) (by kernel_rfl) (fun _ _ _ h => h) (Or.inl ⟨by kernel_rfl, fun wq hw => by go_simp⟩) hHeld ?_
                      simp only [Act.put, List.setIfInBounds_toArray, List.set_cons_succ, List.set_cons_zero]
                      refine drawnZ_take (i := 11) (v := .pointer (some ⟨fg, i * 5 + 1, none⟩)) (some 69) rfl (by kernel_rfl) rfl (by kernel_rfl) (by kernel_rfl) (by kernel_rfl) (fun _ _ _ h => h) (Or.inl ⟨by kernel_rfl, fun wq hw => by go_simp⟩) hHeld ?_
                      simp only [Act.put, List.setIfInBounds_toArray, List.set_cons_succ, List.set_cons_zero]
                      refine drawnZ_take (i := 12) (v := .slice (some ⟨p1, 0, none⟩) 128 r1) (some 70) rfl (by kernel_rfl) rfl (by kernel_rfl) (by kernel_rfl) (by kernel_rfl) (fun _ _ _ h => h) (Or.inl ⟨by kernel_rfl, fun wq hw => by have q := (hw.cell (p := ⟨fg, i * 5 + 1, none⟩) lfg0).trans d1; go_simp⟩) hHeld ?_
                      simp only [Act.put, List.setIfInBounds_toArray, List.set_cons_succ, List.set_cons_zero]
                      refine drawnZ_take (i := 13) (v := .int .i64 (nk : Int)) (some 71) rfl (by kernel_rfl) rfl (by kernel_rfl) (by kernel_rfl) (by kernel_rfl) (fun _ _ _ h => h) (Or.inl ⟨by kernel_rfl, fun wq hw => by go_simp⟩) hHeld ?_
                      simp only [Act.put, List.setIfInBounds_toArray, List.set_cons_succ, List.set_cons_zero]
                      refine drawnZ_take (i := 14) (v := .slice (some a2) m2 c2) (some 72) rfl (by kernel_rfl) rfl (by kernel_rfl) (by kernel_rfl) (by kernel_rfl) (fun _ _ _ h => h) (Or.inl ⟨by kernel_rfl, fun wq hw => bsL_run (x := .tmp 70) (z := .tmp 71) (g := p1) (N := 128) (fc := r1) (k1 := nk) rfl (by kernel_rfl) (by kernel_rfl) hnk128 HA2 HM2 HC2⟩) hHeld ?_
                      simp only [Act.put, List.setIfInBounds_toArray, List.set_cons_succ, List.set_cons_zero]
                      refine wpAnyZ_ready (rs := [1]) (by kernel_rfl) (by simp) ?_
                      refine rdyZ_val (i := 1) rfl rfl (some 59) rfl (.slice (some ⟨Wd.heap.size, 0, none⟩) 0 0) (Wd.alloc (.cells #[] 5)) (mk0_run rfl) (hK0.alloc (hle0) _) (fun hHeld => ?_) rdyZ_nil
                      simp only [Act.put, List.setIfInBounds_toArray, List.set_cons_succ, List.set_cons_zero]
                      have he1 := heap_alloc_new Wd (.cells #[] 5)
                      have hK1 := hK0.alloc (hle0) (.cells #[] 5)
                      have hg1 : Wd.grownBy (Wd.alloc (.cells #[] 5)) none := grown_alloc Wd _
                      obtain ⟨b1, hb1⟩ : ∃ b, b = Wd.heap.size := ⟨_, rfl⟩
                      obtain ⟨W1, hW1⟩ : ∃ W', W' = Wd.alloc (.cells #[] 5) := ⟨_, rfl⟩
                      rw [← hW1] at hHeld hK1 hg1
                      rw [← hb1, ← hW1] at he1
                      rw [← hb1, ← hW1]
                      have hn1 : n0 ≤ b1 := by rw [hb1]; exact hle0
                      have ho1 : W1.ownsRow n0 5 1 (.slice (some ⟨b1, 0, none⟩) 0 0) 0 [] := own_emptyN he1 hn1
                      clear hW1
                      refine wpAnyZ_ready (rs := [8]) (by kernel_rfl) (by simp) ?_
                      obtain ⟨ga2, gc2, W2, hr2, ho2, hg2⟩ := appBy W1 n0 (some ⟨b1, 0, none⟩) 0 0 [] ho1 (Nat.le_trans (hle0) hg1.size) ⟨p3, 0, none⟩ nk r3 (vb (zw.take nk)) HSA.out.1 (vb_one _) (HSA.out.2 W1 hK1) nk (by omega) (by omega)
                      refine rdyZ_val (i := 8) rfl rfl (some 66) rfl (.slice ga2 nk gc2) W2 (app_run3 (x := .tmp 59) (y := .tmp 65) rfl (by kernel_rfl) (by kernel_rfl) hr2) (hK1.grown hg2 (Nat.le_trans (hle0) hg1.size) (fun b hb => (ho1.lt b hb).1)) (fun hHeld => ?_) rdyZ_nil
                      simp only [Act.put, List.setIfInBounds_toArray, List.set_cons_succ, List.set_cons_zero]
                      clear hr2
                      have hK2 := hK1.grown hg2 (Nat.le_trans (hle0) hg1.size) (fun b hb => (ho1.lt b hb).1)
                      refine wpAnyZ_ready (rs := [15]) (by kernel_rfl) (by simp) ?_
                      obtain ⟨ga3, gc3, W3, hr3, ho3, hg3⟩ := appBy W2 n0 ga2 nk gc2 (vb (zw.take nk)) ho2 (Nat.le_trans (Nat.le_trans (hle0) hg1.size) hg2.size) a2 m2 c2 (vb (zd.drop nk)) HSB.out.1 (vb_one _) (HSB.out.2 W2 hK2) 128 (by omega) (by omega)
                      refine rdyZ_val (i := 15) rfl rfl (some 73) rfl (.slice ga3 128 gc3) W3 (app_run3 (x := .tmp 66) (y := .tmp 72) rfl (by kernel_rfl) (by kernel_rfl) hr3) (hK2.grown hg3 (Nat.le_trans (Nat.le_trans (hle0) hg1.size) hg2.size) (fun b hb => (ho2.lt b hb).1)) (fun hHeld => ?_) rdyZ_nil
                      simp only [Act.put, List.setIfInBounds_toArray, List.set_cons_succ, List.set_cons_zero]
                      clear hr3
                      have hK3 := hK2.grown hg3 (Nat.le_trans (Nat.le_trans (hle0) hg1.size) hg2.size) (fun b hb => (ho2.lt b hb).1)
                      refine wpAnyZ_ready (rs := [16]) (by kernel_rfl) (by simp) ?_
                      refine rdyZ_val (i := 16) rfl rfl (some 74) rfl (.pointer (some ⟨fg, i * 5, none⟩)) W3 (by go_simp) hK3 (fun hHeld => ?_) rdyZ_nil
                      simp only [Act.put, List.setIfInBounds_toArray, List.set_cons_succ, List.set_cons_zero]
                      refine wpAnyZ_ready (rs := [17]) (by kernel_rfl) (by simp) ?_
                      refine rdyZ_val (i := 17) rfl rfl (some 75) rfl (.pointer (some ⟨fg, i * 5 + 1, none⟩)) W3 (by go_simp) hK3 (fun hHeld => ?_) rdyZ_nil
                      simp only [Act.put, List.setIfInBounds_toArray, List.set_cons_succ, List.set_cons_zero]
                      refine wpAnyZ_ready (rs := [18]) (by kernel_rfl) (by simp) ?_
                      have hcf := (hK3.cell (p := ⟨fg, i * 5 + 1, none⟩) lfg0).trans d1
                      have hfz := frozen_of_row _ _ (i * 5 + 1) _ _ ((hK3.block fg lfg0).trans hfrow)
                      refine rdyZ_last (z := 18) rfl rfl rfl (W3.setCell ⟨fg, i * 5 + 1, none⟩ (.slice ga3 128 gc3)) (by go_simp) ?_
                      simp only [Act.put]
                      refine wpAnyZ_done (by kernel_rfl) ?_ _
                      refine NoPanic.normal ?_
                      exact ⟨rfl, _, ⟨b1, ga2, gc2, ga3, gc3, W3, rfl, rfl, hK3, ho3⟩, by kernel_rfl⟩
                    · rintro l9 w9 ⟨b59, aA, cA, aB, cB, W, rfl, rfl, hBW, hoW⟩
                      obtain ⟨gq, rfl⟩ : ∃ gq, aB = some ⟨gq, 0, none⟩ := by
                        rcases files_at hoW with ⟨_, h0, _⟩ | ⟨g, h0, _⟩
                        · omega
                        · exact ⟨g, h0⟩
                      have hIm : Im W (gq, cB) (zw.take nk ++ zd.drop nk) := by
                        show W.ownsRow 0 _ 1 _ 128 (vb (zw.take nk ++ zd.drop nk))
                        rw [vb_append]
                        exact own_base hoW
                      have hgq := (hoW.lt gq rfl).1
                      obtain ⟨⟨pr, prc⟩, W8, hr8, z1, z0, z4, ⟨cur8, hcur8⟩, hCr, hblk⟩ := HW8.out W (by rw [← HNE.out]; exact hBW) (gq, cB) hIm (by rw [← HNE.out]; exact hgq)
                      have HR1 := hidn hr8
                      have fz0 := frozen_of_row _ _ (i * 5) _ _ hcur8
                      have fz4 := frozen_of_row _ _ (i * 5 + 4) _ _ hcur8
                      have HCr := hidn hCr
                      have HB8 := hidn ((hblk b6 lb6 hnb6).trans HB6.out)
                      obtain ⟨w7, hw7⟩ : ∃ w7, w7 = W.setCell ⟨fg, i * 5 + 1, none⟩ (.slice (some ⟨gq, 0, none⟩) 128 cB) := ⟨_, rfl⟩
                      rw [← hw7]
                      rw [← hw7] at HR1
                      have z1' : w7.cell? ⟨fg, i * 5 + 1, none⟩ = some (.slice (some ⟨gq, 0, none⟩) 128 cB) := by rw [hw7]; exact z1
                      have za : (w7.alloc (.cells #[] 5)).cell? ⟨fg, i * 5 + 1, none⟩ = some (.slice (some ⟨gq, 0, none⟩) 128 cB) := (((Below.refl w7.heap.size w7).alloc (Nat.le_refl _) _).cell (p := ⟨fg, i * 5 + 1, none⟩) (block_lt_of_cell z1')).trans z1'
                      clear z1 z1'
                      clear hw7 hBW hoW hIm hgq hr8 hcur8 hCr hblk HW8 d1 d3 hfrow
                      simp only [putAll, List.foldl, Act.put, List.setIfInBounds_toArray, List.set_cons_succ, List.set_cons_zero]
                      go_wp2_with (at_builtin; refine wpList_app_run2 rfl _ _ 29 29 rfl rfl (.slice (some ⟨w7.heap.size, 0, none⟩) 0 0) _ _ rfl rfl HR1.out ?_)
                      go_roundw
                      case rel => exact ⟨i + 1, hlti, by simp, HCr, HB8⟩
                      case measure => simp [intOf]; omega
                  · have hie : (ki == (i : Int)) = false := by simpa using hii
                    have HNo2 : Hid (∀ m' < m + 1, ∀ k, ks[m']? = some k → ¬ (k.nm = nm ∧ k.i = (i : Int))) := hidn (fun m' hm' k hk => by
                      by_cases e : m' = m
                      · subst e
                        rw [HKK.out] at hk
                        cases hk
                        rintro ⟨_, e2⟩
                        exact hii (HKM.out.2.1.trans e2)
                      · exact HNo.out m' (by omega) k hk)
                    clear hii
                    go_wp2
                    go_roundw
                    case rel => exact ⟨m + 1, hltm, by simp, rfl, HNo2, hidn (HBk.out.alloc HBk.out.size _)⟩
                    case measure => simp [intOf]; omega
                · have hse' : (knm.toList == nm.toList) = false := by rw [hse]; simpa using hs
                  have HNo2 : Hid (∀ m' < m + 1, ∀ k, ks[m']? = some k → ¬ (k.nm = nm ∧ k.i = (i : Int))) := hidn (fun m' hm' k hk => by
                    by_cases e : m' = m
                    · subst e
                      rw [HKK.out] at hk
                      cases hk
                      rintro ⟨e2, _⟩
                      exact hs (HKM.out.1.trans e2)
                    · exact HNo.out m' (by omega) k hk)
                  clear hse hs
                  go_wp2
                  go_roundw
                  case rel => exact ⟨m + 1, hltm, by simp, rfl, HNo2, hidn (HBk.out.alloc HBk.out.size _)⟩
                  case measure => simp [intOf]; omega
              · have hltm2 : ¬ (m : Int) < (ll : Int) := by omega
                have hme : m = ll := by omega
                obtain ⟨nk, hnk⟩ : ∃ nk, nk = z := ⟨_, rfl⟩
                have hnk128 : nk ≤ 128 := by rw [hnk, HZ.out]; omega
                have HNK : Hid (nk = clampK (kfOf ks f.name.data.toList (i : Int))) := hidn (by
                  rw [← HNM.out, kget_none ks nm (i : Int) (fun m' k hk => HNo.out m' (by rw [hme, ← HLL.out]; exact (List.getElem?_eq_some_iff.1 hk).1) k hk), hnk, HZ.out]
                  rfl)
                have hb6 : Below wi.heap.size wi wk := HBk.out
                obtain ⟨w6, hw6⟩ : ∃ w6, w6 = wk := ⟨_, rfl⟩
                rw [← hw6] at hb6
                have HB6 : Hid (w6.heap[b6]? = some (.cells #[.string nm, .slice (some ⟨fg, 0, none⟩) fl fcc] 55 (0, 0))) := hidn ((hb6.block b6 (Array.getElem?_eq_some_iff.1 HBi.out).1).trans HBi.out)
                rw [← hw6, ← hnk]
                clear hme hnk hw6
                have h3 := H3.out.below H5.out hb6
                have h4 := H4.out.trans (Gr.of (Keeps.of_below hb6))
                have h5 : ∀ b, F' b → b < w6.heap.size := fun b hb' => Nat.lt_of_lt_of_le (H5.out b hb') hb6.size
                have hm := List.mem_of_getElem? HF1.out
                have hcm : c ∈ f'.l := List.mem_of_getElem? HCI.out
                obtain ⟨d0, d1, d2, d3, d4⟩ := h3.ext hm HCI.out
                obtain ⟨x0, x1, x2, x3⟩ := h3.ims _ hm c hcm
                obtain ⟨f0, f1, f2, f3⟩ := h3.fi _ hm c hcm
                have hokc := (h3.ok _ hm).2.2 c hcm
                obtain ⟨⟨p0, r0⟩, hq0⟩ : ∃ q, q = c.q0 := ⟨_, rfl⟩
                obtain ⟨⟨p1, r1⟩, hq1⟩ : ∃ q, q = c.q1 := ⟨_, rfl⟩
                obtain ⟨⟨p3, r3⟩, hq3⟩ : ∃ q, q = c.q3 := ⟨_, rfl⟩
                rw [← hq1] at d1 x1 f1
                rw [← hq3] at d3 x3 f3
                obtain ⟨zw, hzw⟩ : ∃ zw, zw = c.x.wri := ⟨_, rfl⟩
                obtain ⟨zd, hzd⟩ : ∃ zd, zd = c.x.dur := ⟨_, rfl⟩
                rw [← hzw] at x3
                rw [← hzd] at x1
                have hlw : zw.length = 128 := by rw [hzw]; exact hokc.2.2.1
                have hld : zd.length = 128 := by rw [hzd]; exact hokc.1.1
                have hr3 : 128 ≤ r3 := by
                  rcases files_at x3 with ⟨h0, _⟩ | ⟨g, _, hle⟩
                  · cases h0
                  · exact hle
                have hr1 : 128 ≤ r1 := by
                  rcases files_at x1 with ⟨h0, _⟩ | ⟨g, _, hle⟩
                  · cases h0
                  · exact hle
                have hnkr : nk ≤ r3 := by omega
                obtain ⟨n0, hn0⟩ : ∃ n0, n0 = w6.heap.size := ⟨_, rfl⟩
                have HNE := hidn hn0
                have hfg' : f'.g = fg := HG.out
                rw [hfg'] at d0 d1 d3 d4
                have lfg0 : fg < n0 := by rw [hn0, ← hfg']; exact h5 _ (h3.fr _ hm)
                obtain ⟨m2, hm2⟩ : ∃ m2, m2 = 128 - nk := ⟨_, rfl⟩
                obtain ⟨c2, hc2⟩ : ∃ c2, c2 = r1 - nk := ⟨_, rfl⟩
                obtain ⟨a2, ha2⟩ : ∃ a2 : Addr, a2 = if r1 = nk then ⟨p1, 0, none⟩ else ⟨p1, nk, none⟩ := ⟨_, rfl⟩
                have HM2 := hidn hm2
                have HC2 := hidn hc2
                have HA2 := hidn ha2
                have l1 : p1 < n0 := by rw [hn0]; exact h5 _ f1
                have l3 : p3 < n0 := by rw [hn0]; exact h5 _ f3
                have HSA : Hid ((vb (zw.take nk)).length = nk ∧ ∀ W, Below n0 w6 W → ∀ j u, (vb (zw.take nk))[j]? = some u → W.cell? ((⟨p3, 0, none⟩ : Addr).add j) = some u) := hidn ⟨by rw [length_vb, List.length_take]; omega, fun W hb j u hu => by
                  rw [vb_take, List.getElem?_take] at hu
                  split at hu
                  · have h1 := x3.cells (g := p3) rfl j u hu
                    rw [add_none] at h1 ⊢
                    exact (hb.cell (p := ⟨p3, 0 + j, none⟩) l3).trans h1
                  · cases hu⟩
                have HSB : Hid ((vb (zd.drop nk)).length = m2 ∧ ∀ W, Below n0 w6 W → ∀ j u, (vb (zd.drop nk))[j]? = some u → W.cell? (a2.add j) = some u) := hidn ⟨by rw [length_vb, List.length_drop, hm2, hld], fun W hb j u hu => by
                  have hjl := (List.getElem?_eq_some_iff.1 hu).1
                  rw [length_vb, List.length_drop, hld] at hjl
                  rw [vb_drop, List.getElem?_drop] at hu
                  have h1 := x1.cells (g := p1) rfl (nk + j) u hu
                  rw [add_none, Nat.zero_add] at h1
                  rw [ha2, if_neg (by omega), add_none]
                  exact (hb.cell (p := ⟨p1, nk + j, none⟩) l1).trans h1⟩
                obtain ⟨fcur, hfrow⟩ := own_ty (h3.rows _ hm) (g := f'.g) rfl
                rw [hfg'] at hfrow
                have HW8 := hidn (fun (W : World) => CrI.wait HFK.out h3 h4 h5 H6.out H7.out HF1.out HCI.out HWT.out nk HNK.out W)
                rw [hfg', ← hzw, ← hzd] at HW8
                have hnb6 : b6 ≠ fg := by rw [← hfg']; exact Ne.symm (own_ne (h3.rows _ hm) (g := f'.g) rfl HB6.out (Ne.symm tyDF.2.2.2.1))
                have lb6 : b6 < w6.heap.size := (Array.getElem?_eq_some_iff.1 HB6.out).1
                have hm2' : nk + m2 = 128 := by omega
                clear h3 h4 h5 hm hcm d0 d2 d4 x0 x1 x2 x3 f0 f1 f2 f3 hokc hq0 hq1 hq3 hzw hzd hn0 hm2 hc2 ha2 hfg' hlw hld
                go_wp2_with fail
                clear cb0k
                refine region_cut (fun l w' => ∃ (b59 : Nat) (aA : Option Addr) (cA : Nat) (aB : Option Addr) (cB : Nat) (W : World), l = [(58, .pointer (some ⟨fg, i * 5, none⟩)), (59, .slice (some ⟨b59, 0, none⟩) 0 0), (60, .pointer (some ⟨fg, i * 5, none⟩)), (61, .pointer (some ⟨fg, i * 5, none⟩)), (62, .pointer (some ⟨fg, i * 5 + 3, none⟩)), (63, .slice (some ⟨p3, 0, none⟩) 128 r3), (64, .int .i64 (nk : Int)), (65, .slice (some ⟨p3, 0, none⟩) nk r3), (66, .slice aA nk cA), (67, .pointer (some ⟨fg, i * 5, none⟩)), (68, .pointer (some ⟨fg, i * 5, none⟩)), (69, .pointer (some ⟨fg, i * 5 + 1, none⟩)), (70, .slice (some ⟨p1, 0, none⟩) 128 r1), (71, .int .i64 (nk : Int)), (72, .slice (some a2) m2 c2), (73, .slice aB 128 cB), (74, .pointer (some ⟨fg, i * 5, none⟩)), (75, .pointer (some ⟨fg, i * 5 + 1, none⟩))] ∧ w' = W.setCell ⟨fg, i * 5 + 1, none⟩ (.slice aB 128 cB) ∧ Below n0 w6 W ∧ W.ownsRow n0 5 1 (.slice aB 128 cB) 128 (vb (zw.take nk) ++ vb (zd.drop nk))) ?_ ?_
                · skip
                  refine wp_region_noPanic ?_
                  refine wp_region_heldZ (S := Below n0 w6) 18 (by kernel_rfl) ((Below.refl n0 w6).drew) (fun hHeld => ?_)
                  obtain ⟨Wd, hWd⟩ : ∃ Wd, Wd = w6.drew := ⟨_, rfl⟩
                  have hle0 : n0 ≤ Wd.heap.size := by rw [hWd]; exact Nat.le_of_eq HNE.out
                  have hK0 : Below n0 w6 Wd := by rw [hWd]; exact (Below.refl n0 w6).drew
                  rw [← hWd] at hHeld ⊢
                  clear hWd
                  refine drawnZ_take (i := 0) (v := .pointer (some ⟨fg, i * 5, none⟩)) (some 58) rfl (by kernel_rfl) rfl (by kernel_rfl) (by kernel_rfl) (by kernel_rfl) (fun _ _ _ h => h) (Or.inl ⟨by kernel_rfl, fun wq hw => by go_simp⟩) hHeld ?_
                  simp only [Act.put, List.setIfInBounds_toArray, List.set_cons_succ, List.set_cons_zero]
                  refine drawnZ_take (i := 2) (v := .pointer (some ⟨fg, i * 5, none⟩)) (some 60) rfl (by kernel_rfl) rfl (by kernel_rfl) (by kernel_rfl) (by kernel_rfl) (fun _ _ _ h => h) (Or.inl ⟨by kernel_rfl, fun wq hw => by go_simp⟩) hHeld ?_
                  simp only [Act.put, List.setIfInBounds_toArray, List.set_cons_succ, List.set_cons_zero]
                  refine drawnZ_take (i := 3) (v := .pointer (some ⟨fg, i * 5, none⟩)) (some 61) rfl (by kernel_rfl) rfl (by kernel_rfl) (by kernel_rfl) (by kernel_rfl) (fun _ _ _ h => h) (Or.inl ⟨by kernel_rfl, fun wq hw => by go_simp⟩) hHeld ?_
                  simp only [Act.put, List.setIfInBounds_toArray, List.set_cons_succ, List.set_cons_zero]
                  refine drawnZ_take (i := 4) (v := .pointer (some ⟨fg, i * 5 + 3, none⟩)) (some 62) rfl (by kernel_rfl) rfl (by kernel_rfl) (by kernel_rfl) (by kernel_rfl) (fun _ _ _ h => h) (Or.inl ⟨by kernel_rfl, fun wq hw => by go_simp⟩) hHeld ?_
                  simp only [Act.put, List.setIfInBounds_toArray, List.set_cons_succ, List.set_cons_zero]
                  refine drawnZ_take (i := 5) (v := .slice (some ⟨p3, 0, none⟩) 128 r3) (some 63) rfl (by kernel_rfl) rfl (by kernel_rfl) (by kernel_rfl) (by kernel_rfl) (fun _ _ _ h => h) (Or.inl ⟨by kernel_rfl, fun wq hw => by have q := (hw.cell (p := ⟨fg, i * 5 + 3, none⟩) lfg0).trans d3; go_simp⟩) hHeld ?_
                  simp only [Act.put, List.setIfInBounds_toArray, List.set_cons_succ, List.set_cons_zero]
                  refine drawnZ_take (i := 6) (v := .int .i64 (nk : Int)) (some 64) rfl (by kernel_rfl) rfl (by kernel_rfl) (by kernel_rfl) (by kernel_rfl) (fun _ _ _ h => h) (Or.inl ⟨by kernel_rfl, fun wq hw => by go_simp⟩) hHeld ?_
                  simp only [Act.put, List.setIfInBounds_toArray, List.set_cons_succ, List.set_cons_zero]
                  refine drawnZ_take (i := 7) (v := .slice (some ⟨p3, 0, none⟩) nk r3) (some 65) rfl (by kernel_rfl) rfl (by kernel_rfl) (by kernel_rfl) (by kernel_rfl) (fun _ _ _ h => h) (Or.inl ⟨by kernel_rfl, fun wq hw => bsH_run (x := .tmp 63) (z := .tmp 64) (N := 128) rfl (by kernel_rfl) (by kernel_rfl) hnkr⟩) hHeld ?_
                  simp only [Act.put, List.setIfInBounds_toArray, List.set_cons_succ, List.set_cons_zero]
                  refine drawnZ_take (i := 9) (v := .pointer (some ⟨fg, i * 5, none⟩)) (some 67) rfl (by kernel_rfl) rfl (by kernel_rfl) (by kernel_rfl) (by kernel_rfl) (fun _ _ _ h => h) (Or.inl ⟨by kernel_rfl, fun wq hw => by go_simp⟩) hHeld ?_
                  simp only [Act.put, List.setIfInBounds_toArray, List.set_cons_succ, List.set_cons_zero]
                  refine drawnZ_take (i := 10) (v := .pointer (some ⟨fg, i * 5, none⟩)) (some 68) rfl (by kernel_rfl) rfl (by kernel_rfl) (by kernel_rfl) (by kernel_rfl) (fun _ _ _ h => h) (Or.inl ⟨by kernel_rfl, fun wq hw => by go_simp⟩) hHeld ?_
                  simp only [Act.put, List.setIfInBounds_toArray, List.set_cons_succ, List.set_cons_zero]
                  refine drawnZ_take (i := 11) (v := .pointer (some ⟨fg, i * 5 + 1, none⟩)) (some 69) rfl (by kernel_rfl) rfl (by kernel_rfl) (by kernel_rfl) (by kernel_rfl) (fun _ _ _ h => h) (Or.inl ⟨by kernel_rfl, fun wq hw => by go_simp⟩) hHeld ?_
                  simp only [Act.put, List.setIfInBounds_toArray, List.set_cons_succ, List.set_cons_zero]
                  refine drawnZ_take (i := 12) (v := .slice (some ⟨p1, 0, none⟩) 128 r1) (some 70) rfl (by kernel_rfl) rfl (by kernel_rfl) (by kernel_rfl) (by kernel_rfl) (fun _ _ _ h => h) (Or.inl ⟨by kernel_rfl, fun wq hw => by have q := (hw.cell (p := ⟨fg, i * 5 + 1, none⟩) lfg0).trans d1; go_simp⟩) hHeld ?_
                  simp only [Act.put, List.setIfInBounds_toArray, List.set_cons_succ, List.set_cons_zero]
                  refine drawnZ_take (i := 13) (v := .int .i64 (nk : Int)) (some 71) rfl (by kernel_rfl) rfl (by kernel_rfl) (by kernel_rfl) (by kernel_rfl) (fun _ _ _ h => h) (Or.inl ⟨by kernel_rfl, fun wq hw => by go_simp⟩) hHeld ?_
                  simp only [Act.put, List.setIfInBounds_toArray, List.set_cons_succ, List.set_cons_zero]
                  refine drawnZ_take (i := 14) (v := .slice (some a2) m2 c2) (some 72) rfl (by kernel_rfl) rfl (by kernel_rfl) (by kernel_rfl) (by kernel_rfl) (fun _ _ _ h => h) (Or.inl ⟨by kernel_rfl, fun wq hw => bsL_run (x := .tmp 70) (z := .tmp 71) (g := p1) (N := 128) (fc := r1) (k1 := nk) rfl (by kernel_rfl) (by kernel_rfl) hnk128 HA2 HM2 HC2⟩) hHeld ?_
                  simp only [Act.put, List.setIfInBounds_toArray, List.set_cons_succ, List.set_cons_zero]
                  refine wpAnyZ_ready (rs := [1]) (by kernel_rfl) (by simp) ?_
                  refine rdyZ_val (i := 1) rfl rfl (some 59) rfl (.slice (some ⟨Wd.heap.size, 0, none⟩) 0 0) (Wd.alloc (.cells #[] 5)) (mk0_run rfl) (hK0.alloc (hle0) _) (fun hHeld => ?_) rdyZ_nil
                  simp only [Act.put, List.setIfInBounds_toArray, List.set_cons_succ, List.set_cons_zero]
                  have he1 := heap_alloc_new Wd (.cells #[] 5)
                  have hK1 := hK0.alloc (hle0) (.cells #[] 5)
                  have hg1 : Wd.grownBy (Wd.alloc (.cells #[] 5)) none := grown_alloc Wd _
                  obtain ⟨b1, hb1⟩ : ∃ b, b = Wd.heap.size := ⟨_, rfl⟩
                  obtain ⟨W1, hW1⟩ : ∃ W', W' = Wd.alloc (.cells #[] 5) := ⟨_, rfl⟩
                  rw [← hW1] at hHeld hK1 hg1
                  rw [← hb1, ← hW1] at he1
                  rw [← hb1, ← hW1]
                  have hn1 : n0 ≤ b1 := by rw [hb1]; exact hle0
                  have ho1 : W1.ownsRow n0 5 1 (.slice (some ⟨b1, 0, none⟩) 0 0) 0 [] := own_emptyN he1 hn1
                  clear hW1
                  refine wpAnyZ_ready (rs := [8]) (by kernel_rfl) (by simp) ?_
                  obtain ⟨ga2, gc2, W2, hr2, ho2, hg2⟩ := appBy W1 n0 (some ⟨b1, 0, none⟩) 0 0 [] ho1 (Nat.le_trans (hle0) hg1.size) ⟨p3, 0, none⟩ nk r3 (vb (zw.take nk)) HSA.out.1 (vb_one _) (HSA.out.2 W1 hK1) nk (by omega) (by omega)
                  refine rdyZ_val (i := 8) rfl rfl (some 66) rfl (.slice ga2 nk gc2) W2 (app_run3 (x := .tmp 59) (y := .tmp 65) rfl (by kernel_rfl) (by kernel_rfl) hr2) (hK1.grown hg2 (Nat.le_trans (hle0) hg1.size) (fun b hb => (ho1.lt b hb).1)) (fun hHeld => ?_) rdyZ_nil
                  simp only [Act.put, List.setIfInBounds_toArray, List.set_cons_succ, List.set_cons_zero]
                  clear hr2
                  have hK2 := hK1.grown hg2 (Nat.le_trans (hle0) hg1.size) (fun b hb => (ho1.lt b hb).1)
                  refine wpAnyZ_ready (rs := [15]) (by kernel_rfl) (by simp) ?_
                  obtain ⟨ga3, gc3, W3, hr3, ho3, hg3⟩ := appBy W2 n0 ga2 nk gc2 (vb (zw.take nk)) ho2 (Nat.le_trans (Nat.le_trans (hle0) hg1.size) hg2.size) a2 m2 c2 (vb (zd.drop nk)) HSB.out.1 (vb_one _) (HSB.out.2 W2 hK2) 128 (by omega) (by omega)
                  refine rdyZ_val (i := 15) rfl rfl (some 73) rfl (.slice ga3 128 gc3) W3 (app_run3 (x := .tmp 66) (y := .tmp 72) rfl (by kernel_rfl) (by kernel_rfl) hr3) (hK2.grown hg3 (Nat.le_trans (Nat.le_trans (hle0) hg1.size) hg2.size) (fun b hb => (ho2.lt b hb).1)) (fun hHeld => ?_) rdyZ_nil
                  simp only [Act.put, List.setIfInBounds_toArray, List.set_cons_succ, List.set_cons_zero]
                  clear hr3
                  have hK3 := hK2.grown hg3 (Nat.le_trans (Nat.le_trans (hle0) hg1.size) hg2.size) (fun b hb => (ho2.lt b hb).1)
                  refine wpAnyZ_ready (rs := [16]) (by kernel_rfl) (by simp) ?_
                  refine rdyZ_val (i := 16) rfl rfl (some 74) rfl (.pointer (some ⟨fg, i * 5, none⟩)) W3 (by go_simp) hK3 (fun hHeld => ?_) rdyZ_nil
                  simp only [Act.put, List.setIfInBounds_toArray, List.set_cons_succ, List.set_cons_zero]
                  refine wpAnyZ_ready (rs := [17]) (by kernel_rfl) (by simp) ?_
                  refine rdyZ_val (i := 17) rfl rfl (some 75) rfl (.pointer (some ⟨fg, i * 5 + 1, none⟩)) W3 (by go_simp) hK3 (fun hHeld => ?_) rdyZ_nil
                  simp only [Act.put, List.setIfInBounds_toArray, List.set_cons_succ, List.set_cons_zero]
                  refine wpAnyZ_ready (rs := [18]) (by kernel_rfl) (by simp) ?_
                  have hcf := (hK3.cell (p := ⟨fg, i * 5 + 1, none⟩) lfg0).trans d1
                  have hfz := frozen_of_row _ _ (i * 5 + 1) _ _ ((hK3.block fg lfg0).trans hfrow)
                  refine rdyZ_last (z := 18) rfl rfl rfl (W3.setCell ⟨fg, i * 5 + 1, none⟩ (.slice ga3 128 gc3)) (by go_simp) ?_
                  simp only [Act.put]
                  refine wpAnyZ_done (by kernel_rfl) ?_ _
                  refine NoPanic.normal ?_
                  exact ⟨rfl, _, ⟨b1, ga2, gc2, ga3, gc3, W3, rfl, rfl, hK3, ho3⟩, by kernel_rfl⟩
                · rintro l9 w9 ⟨b59, aA, cA, aB, cB, W, rfl, rfl, hBW, hoW⟩
                  obtain ⟨gq, rfl⟩ : ∃ gq, aB = some ⟨gq, 0, none⟩ := by
                    rcases files_at hoW with ⟨_, h0, _⟩ | ⟨g, h0, _⟩
                    · omega
                    · exact ⟨g, h0⟩
                  have hIm : Im W (gq, cB) (zw.take nk ++ zd.drop nk) := by
                    show W.ownsRow 0 _ 1 _ 128 (vb (zw.take nk ++ zd.drop nk))
                    rw [vb_append]
                    exact own_base hoW
                  have hgq := (hoW.lt gq rfl).1
                  obtain ⟨⟨pr, prc⟩, W8, hr8, z1, z0, z4, ⟨cur8, hcur8⟩, hCr, hblk⟩ := HW8.out W (by rw [← HNE.out]; exact hBW) (gq, cB) hIm (by rw [← HNE.out]; exact hgq)
                  have HR1 := hidn hr8
                  have fz0 := frozen_of_row _ _ (i * 5) _ _ hcur8
                  have fz4 := frozen_of_row _ _ (i * 5 + 4) _ _ hcur8
                  have HCr := hidn hCr
                  have HB8 := hidn ((hblk b6 lb6 hnb6).trans HB6.out)
                  obtain ⟨w7, hw7⟩ : ∃ w7, w7 = W.setCell ⟨fg, i * 5 + 1, none⟩ (.slice (some ⟨gq, 0, none⟩) 128 cB) := ⟨_, rfl⟩
                  rw [← hw7]
                  rw [← hw7] at HR1
                  have z1' : w7.cell? ⟨fg, i * 5 + 1, none⟩ = some (.slice (some ⟨gq, 0, none⟩) 128 cB) := by rw [hw7]; exact z1
                  have za : (w7.alloc (.cells #[] 5)).cell? ⟨fg, i * 5 + 1, none⟩ = some (.slice (some ⟨gq, 0, none⟩) 128 cB) := (((Below.refl w7.heap.size w7).alloc (Nat.le_refl _) _).cell (p := ⟨fg, i * 5 + 1, none⟩) (block_lt_of_cell z1')).trans z1'
                  clear z1 z1'
                  clear hw7 hBW hoW hIm hgq hr8 hcur8 hCr hblk HW8 d1 d3 hfrow
                  simp only [putAll, List.foldl, Act.put, List.setIfInBounds_toArray, List.set_cons_succ, List.set_cons_zero]
                  go_wp2_with (at_builtin; refine wpList_app_run2 rfl _ _ 29 29 rfl rfl (.slice (some ⟨w7.heap.size, 0, none⟩) 0 0) _ _ rfl rfl HR1.out ?_)
                  go_roundw
                  case rel => exact ⟨i + 1, hlti, by simp, HCr, HB8⟩
                  case measure => simp [intOf]; omega
        · have hlti2 : ¬ (i : Int) < (fl : Int) := by omega
          have hif : i = fl := by omega
          have HN := hidn (CrI.next HFK.out (by rw [hif, HFL.out]; exact Nat.le_refl _) (Nat.le_trans (HSM.out j f HFK.out) (by omega)) HI.out)
          clear hif HI
          go_wp2
          go_roundw
          case rel => exact ⟨j + 1, hlt, by simp, HN⟩
          case measure => simp [intOf]; omega
    · have hlt2 : ¬ (j : Int) < (N : Int) := by omega
      have hjN : j = N := by omega
      obtain ⟨F', R', h3, h4, h5, h6, h7⟩ := HI.out
      have c2 : wo.cell? ⟨y, 2, none⟩ = some (.int .i64 fuse) := by rw [cell_of_row _ _ _ _ _ _ h3.disk]; rfl
      have fzy := frozen_of_row _ _ 2 _ _ h3.disk
      have HR := hidn (And.intro (h3.fused (-1)) (h4.trans (ryGr (y := y) h3.fy 2 (.int .i64 (-1)))))
      have HL : Hid (R'.length = R.length ∧ ∀ (k : Nat) f, R[k]? = some f → ∃ f', R'[k]? = some f' ∧ f'.name = f.name ∧ f'.l.map Yc.x = fellL (kfOf ks f.name.data.toList) (f.l.map Yc.x)) := hidn ⟨h6, fun k f hk => by
        obtain ⟨f', a1, a2, a3, a4, a5⟩ := h7 k f hk
        have hkl : k < N := by rw [HNN.out]; exact (List.getElem?_eq_some_iff.1 hk).1
        have e : uptoY j 0 k = 1000000 := by unfold uptoY; rw [if_pos (by omega)]
        refine ⟨f', a1, a2, ?_⟩
        rw [a5, e, fellTo_big _ _ _ (by rw [List.length_map]; have := HSM.out k f hk; omega)]⟩
      clear h3 h4 h5 h6 h7 hjN HI
      go_wp2
      go_ret
      exact ⟨rfl, F', _, _, R', HR.out.1, HL.out, HR.out.2⟩
end Go.Proofs.Ytocfbokgbpaneaa
