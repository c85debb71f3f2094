/- merge: outside, at any samples, floor and gaps. -/
import Derived.Test.YtccjgciknaooaaaHiA
import Derived.Test.YtccjgciknaooaaaGpJ
import Derived.Test.YtccjgciknaooaaaGpT
import Derived.Test.YtccjgciknaooaaaMgJ
import Derived.BigRegion
namespace Go.Proofs.Ytccjgciknaooaaa
open Go.RowKit Go.Joins
set_option linter.unusedVariables false

set_option maxHeartbeats 16000000 in
set_option maxRecDepth 100000 in
theorem outside_any (a : Option Addr) (len cap : Nat) (l : List Sam) (floor : Int) (ga : Option Addr) (gl gc : Nat) (G : List Gp) (w : World) (h : Sm w a len l) (hm : len ≤ 1000000) (hup : UpZ l) (hg : Gps w ga gl G) (hgl : gl ≤ 1000) (hgo : ∀ i, GpOK (gpD G i)) :
    Calls Try.prog 23 #[.slice a len cap, .int .i64 floor, .slice ga gl gc] w fun e w' => ∃ v, e = .returned v ∧ w'.ownsRow w.heap.size 36 2 v (outL l floor G).length (vsm (outL l floor G)) ∧ Below w.heap.size w w' := by
  have HJ := hidn (joined_any ga gl gc G w hg hgl hgo)
  have HL := hidn h.1
  have H := hidn h
  have HUP := hidn hup
  clear h hup hg hgo
  go_enter Try.func23, Try.ntmps23
  go_wp2_with fail
  refine HJ.out.mono ?_
  rintro e wJ ⟨v, n, S, rfl, hso, hoJ, hbJ⟩
  obtain ⟨hsep, hcov, hlen, hokJ⟩ := join_of hso
  obtain ⟨J, hJ⟩ : ∃ J, J = joinG S := ⟨_, rfl⟩
  rw [← hJ] at hsep hcov hoJ
  obtain ⟨aj, cj, rfl, hcj, hgj⟩ := gps_of_own hoJ
  have HSEP := hidn hsep
  have HCOV := hidn hcov
  have HNJ := hidn hgj.1
  have HGJ := hidn hgj
  have HBJ := hidn hbJ
  clear hso hoJ hbJ hsep hcov hlen hokJ hJ hgj HJ
  go_wp2_with fail
  go_loopw [7, 8, 16] (fun tv gv iv wr => ∃ (k m r q : Nat) (aa : Option Addr) (cc : Nat), k ≤ len ∧ m + r = n ∧ q ≤ k ∧ iv = .int .i64 (k : Int) ∧ gv = .slice aa r cc ∧ r ≤ cc ∧ Hid (Gps wJ aa r (J.drop m)) ∧ Hid (Below wJ.heap.size wJ wr) ∧ Hid (wr.ownsRow wJ.heap.size 36 2 tv q (vsm (outL (l.take k) floor J))) ∧ Hid (∀ i, i < m → ∀ j, k ≤ j → j < len → (gpD J i).t < (samD l j).t)) (fun _ _ iv _ => len - (intOf iv).toNat)
  case atStart => exact ⟨0, 0, n, 0, aj, cj, Nat.zero_le _, by omega, Nat.le_refl _, rfl, rfl, hcj, HGJ, hidn (Below.refl _ _), hidn (World.ownsRow_nil _ _ _ _), hidn (fun i hi => by omega)⟩
  case round =>
    obtain ⟨k, m, r, q, aa, cc, hk, hmr, hqk, rfl, rfl, hrc, HG, HB, HO, HM⟩ := hrel
    obtain ⟨wo, hwo⟩ : ∃ wo, wo = wr := ⟨_, rfl⟩
    subst hwo
    by_cases hlt : k < len
    · have hlt2 : (k : Int) < (len : Int) := by omega
      obtain ⟨b0, off0, rfl, hbs, hcl⟩ := H.out.pos (by omega)
      have hc := hcl k hlt
      have hb := HBJ.out.trans (HB.out.mono HBJ.out.size)
      have c0 : wo.cell? ⟨b0, off0 + k * 2, none⟩ = some (.int .i64 (samD l k).t) := (hb.cell (p := ⟨b0, off0 + k * 2, none⟩) hbs).trans hc.1
      have c1 : wo.cell? ⟨b0, off0 + k * 2 + 1, none⟩ = some (.int .u64 ((samD l k).v : Int)) := (hb.cell (p := ⟨b0, off0 + k * 2 + 1, none⟩) hbs).trans hc.2
      obtain ⟨tk, htk⟩ : ∃ tk, tk = (samD l k).t := ⟨_, rfl⟩
      obtain ⟨vk, hvk⟩ : ∃ vk, vk = (samD l k).v := ⟨_, rfl⟩
      rw [← htk] at c0
      rw [← hvk] at c1
      obtain ⟨w1, hw1⟩ : ∃ w1, w1 = wo.alloc (.cells #[.int .i64 tk, .int .u64 (vk : Int)] 36) := ⟨_, rfl⟩
      have hb1 : Below wo.heap.size wo w1 := by rw [hw1]; exact (Below.refl _ wo).alloc (Nat.le_refl _) _
      have q1 : w1.heap[wo.heap.size]? = some (.cells #[.int .i64 tk, .int .u64 (vk : Int)] 36 (0, 0)) := by rw [hw1]; exact heap_alloc_new wo _
      have HW1 := hidn hw1
      have HB1 := hidn hb1
      have HQ1 := hidn q1
      have HTK := hidn htk
      have HSM : Hid ((⟨tk, vk⟩ : Sam) = samD l k) := hidn (by rw [htk, hvk])
      have HM2 : Hid (∀ i, i < m → (gpD J i).t < tk) := hidn (fun i hi => by rw [htk]; exact HM.out i hi k (Nat.le_refl _) hlt)
      clear htk hvk hcl hc hb hw1 hb1 q1
      go_wp2_with fail
      rw [← HW1.out]
      go_loopw [8] (fun gv wx => ∃ (m r : Nat) (aa : Option Addr) (cc : Nat), m + r = n ∧ gv = .slice aa r cc ∧ r ≤ cc ∧ Hid (Gps wJ aa r (J.drop m)) ∧ Hid (Below w1.heap.size w1 wx) ∧ Hid (∀ i, i < m → (gpD J i).t < tk)) (fun gv _ => sln gv)
      case atStart => exact ⟨m, r, aa, cc, hmr, rfl, hrc, HG, hidn (Below.refl _ _), HM2⟩
      case round =>
        clear hmr hrc HG HM HM2
        obtain ⟨m, r, aa, cc, hmr, rfl, hrc, HG, HBX, HLT⟩ := hrel
        obtain ⟨wx, hwx⟩ : ∃ wx, wx = wr := ⟨_, rfl⟩
        subst hwx
        have s1 : wo.heap.size < w1.heap.size := (Array.getElem?_eq_some_iff.1 HQ1.out).1
        have HQX : Hid (wx.heap[wo.heap.size]? = some (.cells #[.int .i64 tk, .int .u64 (vk : Int)] 36 (0, 0))) := hidn ((HBX.out.block _ s1).trans HQ1.out)
        have HOX : Hid (Below wo.heap.size wo wx) := hidn (HB1.out.trans (HBX.out.mono HB1.out.size))
        clear s1
        have f0 : wx.cell? ⟨wo.heap.size, 0, none⟩ = some (.int .i64 tk) := cell_of_row _ _ _ _ _ _ HQX.out
        go_wp2_with fail
        by_cases hr0 : r = 0
        · subst hr0
          refine wp_region_noPanic ?_
          refine wp_region_held_drew (S := fun w' => Below wx.heap.size wx w') (by kernel_rfl) ((Below.refl _ wx).drew) (fun hHeld => ?_)
          refine drawn_take (i := 0) (v := .slice aa 0 cc) (some 20) rfl rfl (by kernel_rfl) (by kernel_rfl) (by kernel_rfl) (fun _ _ _ h => h) (Or.inl ⟨by kernel_rfl, fun wq hw => by go_simp⟩) hHeld ?_
          simp only [Act.put, List.setIfInBounds_toArray, List.set_cons_succ, List.set_cons_zero]
          refine drawn_take (i := 1) (v := .int .i64 0) (some 21) rfl rfl (by kernel_rfl) (by kernel_rfl) (by kernel_rfl) (fun _ _ _ h => h) (Or.inl ⟨by kernel_rfl, fun wq hw => by go_simp⟩) hHeld ?_
          simp only [Act.put, List.setIfInBounds_toArray, List.set_cons_succ, List.set_cons_zero]
          refine drawn_take (i := 2) (v := .bool false) (some 22) rfl rfl (by kernel_rfl) (by kernel_rfl) (by kernel_rfl) (fun _ _ _ h => h) (Or.inl ⟨by kernel_rfl, fun wq hw => by go_simp⟩) hHeld ?_
          simp only [Act.put, List.setIfInBounds_toArray, List.set_cons_succ, List.set_cons_zero]
          refine drawn_take (i := 3) (v := .bool false) (some 23) rfl rfl (by kernel_rfl) (by kernel_rfl) (by kernel_rfl) (fun _ _ _ h => h) (Or.inl ⟨by kernel_rfl, fun wq hw => by go_simp⟩) hHeld ?_
          simp only [Act.put, List.setIfInBounds_toArray, List.set_cons_succ, List.set_cons_zero]
          refine drawn_take (i := 4) (v := undef) (some 24) rfl rfl (by kernel_rfl) (by kernel_rfl) (by kernel_rfl) (fun _ _ _ h => h) (Or.inr ⟨by kernel_rfl, rfl⟩) hHeld ?_
          simp only [Act.put, List.setIfInBounds_toArray, List.set_cons_succ, List.set_cons_zero]
          refine drawn_take (i := 5) (v := undef) (some 25) rfl rfl (by kernel_rfl) (by kernel_rfl) (by kernel_rfl) (fun _ _ _ h => h) (Or.inr ⟨by kernel_rfl, rfl⟩) hHeld ?_
          simp only [Act.put, List.setIfInBounds_toArray, List.set_cons_succ, List.set_cons_zero]
          refine drawn_take (i := 6) (v := undef) (some 26) rfl rfl (by kernel_rfl) (by kernel_rfl) (by kernel_rfl) (fun _ _ _ h => h) (Or.inr ⟨by kernel_rfl, rfl⟩) hHeld ?_
          simp only [Act.put, List.setIfInBounds_toArray, List.set_cons_succ, List.set_cons_zero]
          refine drawn_take (i := 7) (v := undef) (some 27) rfl rfl (by kernel_rfl) (by kernel_rfl) (by kernel_rfl) (fun _ _ _ h => h) (Or.inr ⟨by kernel_rfl, rfl⟩) hHeld ?_
          simp only [Act.put, List.setIfInBounds_toArray, List.set_cons_succ, List.set_cons_zero]
          refine drawn_take (i := 8) (v := undef) (some 28) rfl rfl (by kernel_rfl) (by kernel_rfl) (by kernel_rfl) (fun _ _ _ h => h) (Or.inr ⟨by kernel_rfl, rfl⟩) hHeld ?_
          simp only [Act.put, List.setIfInBounds_toArray, List.set_cons_succ, List.set_cons_zero]
          refine drawn_take (i := 9) (v := undef) (some 29) rfl rfl (by kernel_rfl) (by kernel_rfl) (by kernel_rfl) (fun _ _ _ h => h) (Or.inr ⟨by kernel_rfl, rfl⟩) hHeld ?_
          simp only [Act.put, List.setIfInBounds_toArray, List.set_cons_succ, List.set_cons_zero]
          refine drawn_take (i := 10) (v := undef) (some 30) rfl rfl (by kernel_rfl) (by kernel_rfl) (by kernel_rfl) (fun _ _ _ h => h) (Or.inr ⟨by kernel_rfl, rfl⟩) hHeld ?_
          simp only [Act.put, List.setIfInBounds_toArray, List.set_cons_succ, List.set_cons_zero]
          refine drawn_take (i := 11) (v := .bool false) (some 31) rfl rfl (by kernel_rfl) (by kernel_rfl) (by kernel_rfl) (fun _ _ _ h => h) (Or.inl ⟨by kernel_rfl, fun wq hw => by go_simp⟩) hHeld ?_
          simp only [Act.put, List.setIfInBounds_toArray, List.set_cons_succ, List.set_cons_zero]
          refine wpAnyH_done (by kernel_rfl) ?_ _
          refine NoPanic.normal ?_
          clear hHeld
          obtain ⟨wy, hwy⟩ : ∃ wy, wy = wx.drew := ⟨_, rfl⟩
          rw [← hwy]
          have HYX : Hid (Below wx.heap.size wx wy) := hidn (by rw [hwy]; exact (Below.refl _ wx).drew)
          clear hwy
          go_wp2_with fail
          have HMN : Hid (∀ i, i < m → ∀ j, k + 1 ≤ j → j < len → (gpD J i).t < (samD l j).t) := hidn (fun i hi j h1 h2 => by
            have h3 := HLT.out i hi
            have h4 := HUP.out k j (by omega) (by rw [HL.out]; exact h2)
            rw [← HTK.out] at h4
            omega)
          have HG2 := hidn HG.out
          refine wp_region_noPanic ?_
          refine wp_region_held_drew (S := fun w' => Below wy.heap.size wy w') (by kernel_rfl) ((Below.refl _ wy).drew) (fun hHeld => ?_)
          refine drawn_take (i := 0) (v := .slice aa 0 cc) (some 34) rfl rfl (by kernel_rfl) (by kernel_rfl) (by kernel_rfl) (fun _ _ _ h => h) (Or.inl ⟨by kernel_rfl, fun wq hw => by go_simp⟩) hHeld ?_
          simp only [Act.put, List.setIfInBounds_toArray, List.set_cons_succ, List.set_cons_zero]
          refine drawn_take (i := 1) (v := .int .i64 0) (some 35) rfl rfl (by kernel_rfl) (by kernel_rfl) (by kernel_rfl) (fun _ _ _ h => h) (Or.inl ⟨by kernel_rfl, fun wq hw => by go_simp⟩) hHeld ?_
          simp only [Act.put, List.setIfInBounds_toArray, List.set_cons_succ, List.set_cons_zero]
          refine drawn_take (i := 2) (v := .bool false) (some 36) rfl rfl (by kernel_rfl) (by kernel_rfl) (by kernel_rfl) (fun _ _ _ h => h) (Or.inl ⟨by kernel_rfl, fun wq hw => by go_simp⟩) hHeld ?_
          simp only [Act.put, List.setIfInBounds_toArray, List.set_cons_succ, List.set_cons_zero]
          refine drawn_take (i := 3) (v := .bool false) (some 37) rfl rfl (by kernel_rfl) (by kernel_rfl) (by kernel_rfl) (fun _ _ _ h => h) (Or.inl ⟨by kernel_rfl, fun wq hw => by go_simp⟩) hHeld ?_
          simp only [Act.put, List.setIfInBounds_toArray, List.set_cons_succ, List.set_cons_zero]
          refine drawn_take (i := 4) (v := undef) (some 38) rfl rfl (by kernel_rfl) (by kernel_rfl) (by kernel_rfl) (fun _ _ _ h => h) (Or.inr ⟨by kernel_rfl, rfl⟩) hHeld ?_
          simp only [Act.put, List.setIfInBounds_toArray, List.set_cons_succ, List.set_cons_zero]
          refine drawn_take (i := 5) (v := undef) (some 39) rfl rfl (by kernel_rfl) (by kernel_rfl) (by kernel_rfl) (fun _ _ _ h => h) (Or.inr ⟨by kernel_rfl, rfl⟩) hHeld ?_
          simp only [Act.put, List.setIfInBounds_toArray, List.set_cons_succ, List.set_cons_zero]
          refine drawn_take (i := 6) (v := undef) (some 40) rfl rfl (by kernel_rfl) (by kernel_rfl) (by kernel_rfl) (fun _ _ _ h => h) (Or.inr ⟨by kernel_rfl, rfl⟩) hHeld ?_
          simp only [Act.put, List.setIfInBounds_toArray, List.set_cons_succ, List.set_cons_zero]
          refine drawn_take (i := 7) (v := undef) (some 41) rfl rfl (by kernel_rfl) (by kernel_rfl) (by kernel_rfl) (fun _ _ _ h => h) (Or.inr ⟨by kernel_rfl, rfl⟩) hHeld ?_
          simp only [Act.put, List.setIfInBounds_toArray, List.set_cons_succ, List.set_cons_zero]
          refine drawn_take (i := 8) (v := undef) (some 42) rfl rfl (by kernel_rfl) (by kernel_rfl) (by kernel_rfl) (fun _ _ _ h => h) (Or.inr ⟨by kernel_rfl, rfl⟩) hHeld ?_
          simp only [Act.put, List.setIfInBounds_toArray, List.set_cons_succ, List.set_cons_zero]
          refine drawn_take (i := 9) (v := undef) (some 43) rfl rfl (by kernel_rfl) (by kernel_rfl) (by kernel_rfl) (fun _ _ _ h => h) (Or.inr ⟨by kernel_rfl, rfl⟩) hHeld ?_
          simp only [Act.put, List.setIfInBounds_toArray, List.set_cons_succ, List.set_cons_zero]
          refine drawn_take (i := 10) (v := undef) (some 44) rfl rfl (by kernel_rfl) (by kernel_rfl) (by kernel_rfl) (fun _ _ _ h => h) (Or.inr ⟨by kernel_rfl, rfl⟩) hHeld ?_
          simp only [Act.put, List.setIfInBounds_toArray, List.set_cons_succ, List.set_cons_zero]
          refine drawn_take (i := 11) (v := .bool false) (some 45) rfl rfl (by kernel_rfl) (by kernel_rfl) (by kernel_rfl) (fun _ _ _ h => h) (Or.inl ⟨by kernel_rfl, fun wq hw => by go_simp⟩) hHeld ?_
          simp only [Act.put, List.setIfInBounds_toArray, List.set_cons_succ, List.set_cons_zero]
          refine drawn_take (i := 12) (v := .bool false) (some 11) rfl rfl (by kernel_rfl) (by kernel_rfl) (by kernel_rfl) (fun _ _ _ h => h) (Or.inl ⟨by kernel_rfl, fun wq hw => by go_simp⟩) hHeld ?_
          simp only [Act.put, List.setIfInBounds_toArray, List.set_cons_succ, List.set_cons_zero]
          refine wpAnyH_done (by kernel_rfl) ?_ _
          refine NoPanic.normal ?_
          clear hHeld
          obtain ⟨wz, hwz⟩ : ∃ wz, wz = wy.drew := ⟨_, rfl⟩
          rw [← hwz]
          have hzx : Below wx.heap.size wx wz := HYX.out.trans (show Below wx.heap.size wy wz by rw [hwz]; exact ((Below.refl _ wy).drew).mono HYX.out.size)
          have qZ : wz.heap[wo.heap.size]? = some (.cells #[.int .i64 tk, .int .u64 (vk : Int)] 36 (0, 0)) := (hzx.block _ (Array.getElem?_eq_some_iff.1 HQX.out).1).trans HQX.out
          have e0 : wz.cell? ⟨wo.heap.size, 0, none⟩ = some (.int .i64 tk) := cell_of_row _ _ _ _ _ _ qZ
          have e1 : wz.cell? ⟨wo.heap.size, 1, none⟩ = some (.int .u64 (vk : Int)) := cell_of_row _ _ _ _ _ _ qZ
          have hoz : Below wo.heap.size wo wz := HOX.out.trans (hzx.mono HOX.out.size)
          have HZ : Hid (Below wo.heap.size wo wz) := hidn hoz
          have HINB : Hid (inB J tk = false) := hidn (hole_none (fun i hi => by rw [HNJ.out] at hi; exact HLT.out i (by omega)))
          clear hwz hzx qZ hoz
          by_cases hfl : floor ≤ tk
          · obtain ⟨w3, hw3⟩ : ∃ w3, w3 = wz.alloc (.cells #[.int .i64 tk, .int .u64 (vk : Int)] 36) := ⟨_, rfl⟩
            have b3 : Below wz.heap.size wz w3 := by rw [hw3]; exact (Below.refl _ wz).alloc (Nat.le_refl _) _
            have q3 : w3.heap[wz.heap.size]? = some (.cells #[.int .i64 tk, .int .u64 (vk : Int)] 36 (0, 0)) := by rw [hw3]; exact heap_alloc_new wz _
            have b03 : Below wo.heap.size wo w3 := HZ.out.trans (b3.mono HZ.out.size)
            obtain ⟨g, c', w4, hr, ho4, hg4⟩ := app_sam1 (own_skip HO.out b03) (Nat.le_trans HB.out.size b03.size) (by omega) (⟨tk, vk⟩ : Sam) ⟨wz.heap.size, 0, none⟩ (cell_of_row _ _ _ _ _ _ q3) (cell_of_row _ _ 1 _ _ _ q3)
            have HR := hidn hr
            have HW3 := hidn hw3
            have HBN : Hid (Below wJ.heap.size wJ w4) := hidn ((HB.out.trans (b03.mono HB.out.size)).grown hg4 (Nat.le_trans HB.out.size b03.size) (fun k hk => (HO.out.lt k hk).1))
            have HON : Hid (w4.ownsRow wJ.heap.size 36 2 (.slice (some ⟨g, 0, none⟩) (q + 1) c') (q + 1) (vsm (outL (l.take (k + 1)) floor J))) := hidn (by rw [outL_yes (by rw [HL.out]; exact hlt) (by rw [← HTK.out]; exact hfl) (by rw [← HTK.out]; exact HINB.out), ← HSM.out]; exact ho4)
            clear hr hw3 b3 q3 b03 ho4 hg4
            go_wp2_with (at_builtin; rw [← HW3.out]; refine wpList_app_run2 rfl (.tmp 54) (.tmp 56) 25 25 rfl rfl u7 (.slice (some ⟨wz.heap.size, 0, none⟩) 1 1) _ rfl rfl HR.out ?_)
            go_roundw
            case rel => exact ⟨k + 1, m, 0, (q + 1), aa, cc, by omega, by omega, by omega, by first | rfl | simp, rfl, hrc, HG2, HBN, HON, HMN⟩
            case measure => simp [intOf]; omega
          · have HBN : Hid (Below wJ.heap.size wJ wz) := hidn (HB.out.trans (HZ.out.mono HB.out.size))
            have HON : Hid (wz.ownsRow wJ.heap.size 36 2 u7 q (vsm (outL (l.take (k + 1)) floor J))) := hidn (by rw [outL_no (by rw [HL.out]; exact hlt) (.inl (by rw [← HTK.out]; exact hfl))]; exact own_skip HO.out HZ.out)
            go_wp2_with fail
            go_roundw
            case rel => exact ⟨k + 1, m, 0, q, aa, cc, by omega, by omega, by omega, by first | rfl | simp, rfl, hrc, HG2, HBN, HON, HMN⟩
            case measure => simp [intOf]; omega
        · obtain ⟨r, rfl⟩ : ∃ r', r = r' + 1 := ⟨r - 1, by omega⟩
          obtain ⟨b, off, haa, hbs2, hcl2⟩ := HG.out.pos (by omega)
          subst haa
          have hjx : Below wJ.heap.size wJ wx := HB.out.trans (HOX.out.mono HB.out.size)
          obtain ⟨d0, d1⟩ := hcl2 0 (by omega)
          simp only [gpD_drop, Nat.zero_mul, Nat.add_zero] at d0 d1
          obtain ⟨gf, hgf⟩ : ∃ x, x = (gpD J m).f := ⟨_, rfl⟩
          obtain ⟨gt, hgt⟩ : ∃ x, x = (gpD J m).t := ⟨_, rfl⟩
          rw [← hgf] at d0
          rw [← hgt] at d1
          have HRD : Hid (∀ w', Below wx.heap.size wx w' → w'.cell? ⟨b, off, none⟩ = some (.int .i64 gf) ∧ w'.cell? ⟨b, off + 1, none⟩ = some (.int .i64 gt) ∧ w'.cell? ⟨wo.heap.size, 0, none⟩ = some (.int .i64 tk)) := hidn (fun w' hx => by
            have h9 := hjx.trans (hx.mono hjx.size)
            exact ⟨(h9.cell (p := ⟨b, off, none⟩) hbs2).trans d0, (h9.cell (p := ⟨b, off + 1, none⟩) hbs2).trans d1, (hx.cell (block_lt_of_cell f0)).trans f0⟩)
          have HGF := hidn hgf
          have HGT := hidn hgt
          clear hjx d0 d1 hgf hgt hcl2
          by_cases hless : gt < tk
          · have HLT2 : Hid (∀ i, i < m + 1 → (gpD J i).t < tk) := hidn (fun i hi => by
              by_cases he : i = m
              · subst he; rw [← HGT.out]; exact hless
              · exact HLT.out i (by omega))
            have HG2 : Hid (Gps wJ (if cc = 1 then some ⟨b, off, none⟩ else some ⟨b, off + 2, none⟩) r (J.drop (m + 1))) := hidn (by
              have z := gpLow (k := 1) HG.out hrc (by omega)
              rw [List.drop_drop, Nat.add_sub_cancel] at z
              have e1 : (Option.map (fun x : Addr => x.add (1 * 2)) (some (⟨b, off, none⟩ : Addr))) = some ⟨b, off + 2, none⟩ := by simp [add_none]
              rw [e1] at z
              exact z)
            refine wp_region_noPanic ?_
            refine wp_region_held_drew (S := fun w' => Below wx.heap.size wx w') (by kernel_rfl) ((Below.refl _ wx).drew) (fun hHeld => ?_)
            refine drawn_take (i := 0) (v := .slice (some ⟨b, off, none⟩) (r + 1) cc) (some 20) rfl rfl (by kernel_rfl) (by kernel_rfl) (by kernel_rfl) (fun _ _ _ h => h) (Or.inl ⟨by kernel_rfl, fun wq hw => by go_simp⟩) hHeld ?_
            simp only [Act.put, List.setIfInBounds_toArray, List.set_cons_succ, List.set_cons_zero]
            refine drawn_take (i := 1) (v := .int .i64 ((r : Int) + 1)) (some 21) rfl rfl (by kernel_rfl) (by kernel_rfl) (by kernel_rfl) (fun _ _ _ h => h) (Or.inl ⟨by kernel_rfl, fun wq hw => by go_simp⟩) hHeld ?_
            simp only [Act.put, List.setIfInBounds_toArray, List.set_cons_succ, List.set_cons_zero]
            refine drawn_take (i := 2) (v := .bool true) (some 22) rfl rfl (by kernel_rfl) (by kernel_rfl) (by kernel_rfl) (fun _ _ _ h => h) (Or.inl ⟨by kernel_rfl, fun wq hw => by go_simp <;> omega⟩) hHeld ?_
            simp only [Act.put, List.setIfInBounds_toArray, List.set_cons_succ, List.set_cons_zero]
            refine drawn_take (i := 3) (v := .bool true) (some 23) rfl rfl (by kernel_rfl) (by kernel_rfl) (by kernel_rfl) (fun _ _ _ h => h) (Or.inl ⟨by kernel_rfl, fun wq hw => by go_simp⟩) hHeld ?_
            simp only [Act.put, List.setIfInBounds_toArray, List.set_cons_succ, List.set_cons_zero]
            refine drawn_take (i := 4) (v := .slice (some ⟨b, off, none⟩) (r + 1) cc) (some 24) rfl rfl (by kernel_rfl) (by kernel_rfl) (by kernel_rfl) (fun _ _ _ h => h) (Or.inl ⟨by kernel_rfl, fun wq hw => by go_simp⟩) hHeld ?_
            simp only [Act.put, List.setIfInBounds_toArray, List.set_cons_succ, List.set_cons_zero]
            refine drawn_take (i := 5) (v := .pointer (some ⟨b, off, none⟩)) (some 25) rfl rfl (by kernel_rfl) (by kernel_rfl) (by kernel_rfl) (fun _ _ _ h => h) (Or.inl ⟨by kernel_rfl, fun wq hw => by go_simp⟩) hHeld ?_
            simp only [Act.put, List.setIfInBounds_toArray, List.set_cons_succ, List.set_cons_zero]
            refine drawn_take (i := 6) (v := .pointer (some ⟨b, off + 1, none⟩)) (some 26) rfl rfl (by kernel_rfl) (by kernel_rfl) (by kernel_rfl) (fun _ _ _ h => h) (Or.inl ⟨by kernel_rfl, fun wq hw => by go_simp⟩) hHeld ?_
            simp only [Act.put, List.setIfInBounds_toArray, List.set_cons_succ, List.set_cons_zero]
            refine drawn_take (i := 7) (v := .int .i64 gt) (some 27) rfl rfl (by kernel_rfl) (by kernel_rfl) (by kernel_rfl) (fun _ _ _ h => h) (Or.inl ⟨by kernel_rfl, fun wq hw => by obtain ⟨q0, q1, q2⟩ := HRD.out _ hw; go_simp⟩) hHeld ?_
            simp only [Act.put, List.setIfInBounds_toArray, List.set_cons_succ, List.set_cons_zero]
            refine drawn_take (i := 8) (v := .pointer (some ⟨wo.heap.size, 0, none⟩)) (some 28) rfl rfl (by kernel_rfl) (by kernel_rfl) (by kernel_rfl) (fun _ _ _ h => h) (Or.inl ⟨by kernel_rfl, fun wq hw => by go_simp⟩) hHeld ?_
            simp only [Act.put, List.setIfInBounds_toArray, List.set_cons_succ, List.set_cons_zero]
            refine drawn_take (i := 9) (v := .int .i64 tk) (some 29) rfl rfl (by kernel_rfl) (by kernel_rfl) (by kernel_rfl) (fun _ _ _ h => h) (Or.inl ⟨by kernel_rfl, fun wq hw => by obtain ⟨q0, q1, q2⟩ := HRD.out _ hw; go_simp⟩) hHeld ?_
            simp only [Act.put, List.setIfInBounds_toArray, List.set_cons_succ, List.set_cons_zero]
            refine drawn_take (i := 10) (v := .bool true) (some 30) rfl rfl (by kernel_rfl) (by kernel_rfl) (by kernel_rfl) (fun _ _ _ h => h) (Or.inl ⟨by kernel_rfl, fun wq hw => by go_simp <;> omega⟩) hHeld ?_
            simp only [Act.put, List.setIfInBounds_toArray, List.set_cons_succ, List.set_cons_zero]
            refine drawn_take (i := 11) (v := .bool true) (some 31) rfl rfl (by kernel_rfl) (by kernel_rfl) (by kernel_rfl) (fun _ _ _ h => h) (Or.inl ⟨by kernel_rfl, fun wq hw => by go_simp⟩) hHeld ?_
            simp only [Act.put, List.setIfInBounds_toArray, List.set_cons_succ, List.set_cons_zero]
            refine wpAnyH_done (by kernel_rfl) ?_ _
            refine NoPanic.normal ?_
            clear hHeld
            obtain ⟨wy, hwy⟩ : ∃ wy, wy = wx.drew := ⟨_, rfl⟩
            rw [← hwy]
            have HBY : Hid (Below w1.heap.size w1 wy) := hidn (by rw [hwy]; exact HBX.out.drew)
            clear hwy
            obtain ⟨cx, hcx⟩ : ∃ cx, cc = cx + 1 := ⟨cc - 1, by omega⟩
            subst hcx
            have hrx : r ≤ cx := by omega
            by_cases hcz : cx = 0
            · subst hcz
              obtain rfl : r = 0 := by omega
              go_wp2_with fail
              go_roundw
              case rel => exact ⟨m + 1, 0, some ⟨b, off, none⟩, 0, by omega, rfl, hrx, hidn (by have := HG2.out; rwa [if_pos rfl] at this), HBY, HLT2⟩
              case measure => simp [sln]
            · have hcz2 : ¬ cx + 1 = 1 := by omega
              go_wp2_with fail
              go_roundw
              case rel => exact ⟨m + 1, r, some ⟨b, off + 2, none⟩, cx, by omega, rfl, hrx, hidn (by have := HG2.out; rwa [if_neg hcz2] at this), HBY, HLT2⟩
              case measure => simp [sln]
          · 
            refine wp_region_noPanic ?_
            refine wp_region_held_drew (S := fun w' => Below wx.heap.size wx w') (by kernel_rfl) ((Below.refl _ wx).drew) (fun hHeld => ?_)
            refine drawn_take (i := 0) (v := .slice (some ⟨b, off, none⟩) (r + 1) cc) (some 20) rfl rfl (by kernel_rfl) (by kernel_rfl) (by kernel_rfl) (fun _ _ _ h => h) (Or.inl ⟨by kernel_rfl, fun wq hw => by go_simp⟩) hHeld ?_
            simp only [Act.put, List.setIfInBounds_toArray, List.set_cons_succ, List.set_cons_zero]
            refine drawn_take (i := 1) (v := .int .i64 ((r : Int) + 1)) (some 21) rfl rfl (by kernel_rfl) (by kernel_rfl) (by kernel_rfl) (fun _ _ _ h => h) (Or.inl ⟨by kernel_rfl, fun wq hw => by go_simp⟩) hHeld ?_
            simp only [Act.put, List.setIfInBounds_toArray, List.set_cons_succ, List.set_cons_zero]
            refine drawn_take (i := 2) (v := .bool true) (some 22) rfl rfl (by kernel_rfl) (by kernel_rfl) (by kernel_rfl) (fun _ _ _ h => h) (Or.inl ⟨by kernel_rfl, fun wq hw => by go_simp <;> omega⟩) hHeld ?_
            simp only [Act.put, List.setIfInBounds_toArray, List.set_cons_succ, List.set_cons_zero]
            refine drawn_take (i := 3) (v := .bool true) (some 23) rfl rfl (by kernel_rfl) (by kernel_rfl) (by kernel_rfl) (fun _ _ _ h => h) (Or.inl ⟨by kernel_rfl, fun wq hw => by go_simp⟩) hHeld ?_
            simp only [Act.put, List.setIfInBounds_toArray, List.set_cons_succ, List.set_cons_zero]
            refine drawn_take (i := 4) (v := .slice (some ⟨b, off, none⟩) (r + 1) cc) (some 24) rfl rfl (by kernel_rfl) (by kernel_rfl) (by kernel_rfl) (fun _ _ _ h => h) (Or.inl ⟨by kernel_rfl, fun wq hw => by go_simp⟩) hHeld ?_
            simp only [Act.put, List.setIfInBounds_toArray, List.set_cons_succ, List.set_cons_zero]
            refine drawn_take (i := 5) (v := .pointer (some ⟨b, off, none⟩)) (some 25) rfl rfl (by kernel_rfl) (by kernel_rfl) (by kernel_rfl) (fun _ _ _ h => h) (Or.inl ⟨by kernel_rfl, fun wq hw => by go_simp⟩) hHeld ?_
            simp only [Act.put, List.setIfInBounds_toArray, List.set_cons_succ, List.set_cons_zero]
            refine drawn_take (i := 6) (v := .pointer (some ⟨b, off + 1, none⟩)) (some 26) rfl rfl (by kernel_rfl) (by kernel_rfl) (by kernel_rfl) (fun _ _ _ h => h) (Or.inl ⟨by kernel_rfl, fun wq hw => by go_simp⟩) hHeld ?_
            simp only [Act.put, List.setIfInBounds_toArray, List.set_cons_succ, List.set_cons_zero]
            refine drawn_take (i := 7) (v := .int .i64 gt) (some 27) rfl rfl (by kernel_rfl) (by kernel_rfl) (by kernel_rfl) (fun _ _ _ h => h) (Or.inl ⟨by kernel_rfl, fun wq hw => by obtain ⟨q0, q1, q2⟩ := HRD.out _ hw; go_simp⟩) hHeld ?_
            simp only [Act.put, List.setIfInBounds_toArray, List.set_cons_succ, List.set_cons_zero]
            refine drawn_take (i := 8) (v := .pointer (some ⟨wo.heap.size, 0, none⟩)) (some 28) rfl rfl (by kernel_rfl) (by kernel_rfl) (by kernel_rfl) (fun _ _ _ h => h) (Or.inl ⟨by kernel_rfl, fun wq hw => by go_simp⟩) hHeld ?_
            simp only [Act.put, List.setIfInBounds_toArray, List.set_cons_succ, List.set_cons_zero]
            refine drawn_take (i := 9) (v := .int .i64 tk) (some 29) rfl rfl (by kernel_rfl) (by kernel_rfl) (by kernel_rfl) (fun _ _ _ h => h) (Or.inl ⟨by kernel_rfl, fun wq hw => by obtain ⟨q0, q1, q2⟩ := HRD.out _ hw; go_simp⟩) hHeld ?_
            simp only [Act.put, List.setIfInBounds_toArray, List.set_cons_succ, List.set_cons_zero]
            refine drawn_take (i := 10) (v := .bool false) (some 30) rfl rfl (by kernel_rfl) (by kernel_rfl) (by kernel_rfl) (fun _ _ _ h => h) (Or.inl ⟨by kernel_rfl, fun wq hw => by go_simp <;> omega⟩) hHeld ?_
            simp only [Act.put, List.setIfInBounds_toArray, List.set_cons_succ, List.set_cons_zero]
            refine drawn_take (i := 11) (v := .bool false) (some 31) rfl rfl (by kernel_rfl) (by kernel_rfl) (by kernel_rfl) (fun _ _ _ h => h) (Or.inl ⟨by kernel_rfl, fun wq hw => by go_simp⟩) hHeld ?_
            simp only [Act.put, List.setIfInBounds_toArray, List.set_cons_succ, List.set_cons_zero]
            refine wpAnyH_done (by kernel_rfl) ?_ _
            refine NoPanic.normal ?_
            clear hHeld
            obtain ⟨wy, hwy⟩ : ∃ wy, wy = wx.drew := ⟨_, rfl⟩
            rw [← hwy]
            have HYX : Hid (Below wx.heap.size wx wy) := hidn (by rw [hwy]; exact (Below.refl _ wx).drew)
            clear hwy
            go_wp2_with fail
            have HMN : Hid (∀ i, i < m → ∀ j, k + 1 ≤ j → j < len → (gpD J i).t < (samD l j).t) := hidn (fun i hi j h1 h2 => by
              have h3 := HLT.out i hi
              have h4 := HUP.out k j (by omega) (by rw [HL.out]; exact h2)
              rw [← HTK.out] at h4
              omega)
            have HG2 := hidn HG.out
            by_cases hin : gf ≤ tk
            · 
              refine wp_region_noPanic ?_
              refine wp_region_held_drew (S := fun w' => Below wy.heap.size wy w') (by kernel_rfl) ((Below.refl _ wy).drew) (fun hHeld => ?_)
              refine drawn_take (i := 0) (v := .slice (some ⟨b, off, none⟩) (r + 1) cc) (some 34) rfl rfl (by kernel_rfl) (by kernel_rfl) (by kernel_rfl) (fun _ _ _ h => h) (Or.inl ⟨by kernel_rfl, fun wq hw => by go_simp⟩) hHeld ?_
              simp only [Act.put, List.setIfInBounds_toArray, List.set_cons_succ, List.set_cons_zero]
              refine drawn_take (i := 1) (v := .int .i64 ((r : Int) + 1)) (some 35) rfl rfl (by kernel_rfl) (by kernel_rfl) (by kernel_rfl) (fun _ _ _ h => h) (Or.inl ⟨by kernel_rfl, fun wq hw => by go_simp⟩) hHeld ?_
              simp only [Act.put, List.setIfInBounds_toArray, List.set_cons_succ, List.set_cons_zero]
              refine drawn_take (i := 2) (v := .bool true) (some 36) rfl rfl (by kernel_rfl) (by kernel_rfl) (by kernel_rfl) (fun _ _ _ h => h) (Or.inl ⟨by kernel_rfl, fun wq hw => by go_simp <;> omega⟩) hHeld ?_
              simp only [Act.put, List.setIfInBounds_toArray, List.set_cons_succ, List.set_cons_zero]
              refine drawn_take (i := 3) (v := .bool true) (some 37) rfl rfl (by kernel_rfl) (by kernel_rfl) (by kernel_rfl) (fun _ _ _ h => h) (Or.inl ⟨by kernel_rfl, fun wq hw => by go_simp⟩) hHeld ?_
              simp only [Act.put, List.setIfInBounds_toArray, List.set_cons_succ, List.set_cons_zero]
              refine drawn_take (i := 4) (v := .slice (some ⟨b, off, none⟩) (r + 1) cc) (some 38) rfl rfl (by kernel_rfl) (by kernel_rfl) (by kernel_rfl) (fun _ _ _ h => h) (Or.inl ⟨by kernel_rfl, fun wq hw => by go_simp⟩) hHeld ?_
              simp only [Act.put, List.setIfInBounds_toArray, List.set_cons_succ, List.set_cons_zero]
              refine drawn_take (i := 5) (v := .pointer (some ⟨b, off, none⟩)) (some 39) rfl rfl (by kernel_rfl) (by kernel_rfl) (by kernel_rfl) (fun _ _ _ h => h) (Or.inl ⟨by kernel_rfl, fun wq hw => by go_simp⟩) hHeld ?_
              simp only [Act.put, List.setIfInBounds_toArray, List.set_cons_succ, List.set_cons_zero]
              refine drawn_take (i := 6) (v := .pointer (some ⟨b, off, none⟩)) (some 40) rfl rfl (by kernel_rfl) (by kernel_rfl) (by kernel_rfl) (fun _ _ _ h => h) (Or.inl ⟨by kernel_rfl, fun wq hw => by go_simp⟩) hHeld ?_
              simp only [Act.put, List.setIfInBounds_toArray, List.set_cons_succ, List.set_cons_zero]
              refine drawn_take (i := 7) (v := .int .i64 gf) (some 41) rfl rfl (by kernel_rfl) (by kernel_rfl) (by kernel_rfl) (fun _ _ _ h => h) (Or.inl ⟨by kernel_rfl, fun wq hw => by obtain ⟨q0, q1, q2⟩ := HRD.out _ (HYX.out.trans (hw.mono HYX.out.size)); go_simp⟩) hHeld ?_
              simp only [Act.put, List.setIfInBounds_toArray, List.set_cons_succ, List.set_cons_zero]
              refine drawn_take (i := 8) (v := .pointer (some ⟨wo.heap.size, 0, none⟩)) (some 42) rfl rfl (by kernel_rfl) (by kernel_rfl) (by kernel_rfl) (fun _ _ _ h => h) (Or.inl ⟨by kernel_rfl, fun wq hw => by go_simp⟩) hHeld ?_
              simp only [Act.put, List.setIfInBounds_toArray, List.set_cons_succ, List.set_cons_zero]
              refine drawn_take (i := 9) (v := .int .i64 tk) (some 43) rfl rfl (by kernel_rfl) (by kernel_rfl) (by kernel_rfl) (fun _ _ _ h => h) (Or.inl ⟨by kernel_rfl, fun wq hw => by obtain ⟨q0, q1, q2⟩ := HRD.out _ (HYX.out.trans (hw.mono HYX.out.size)); go_simp⟩) hHeld ?_
              simp only [Act.put, List.setIfInBounds_toArray, List.set_cons_succ, List.set_cons_zero]
              refine drawn_take (i := 10) (v := .bool true) (some 44) rfl rfl (by kernel_rfl) (by kernel_rfl) (by kernel_rfl) (fun _ _ _ h => h) (Or.inl ⟨by kernel_rfl, fun wq hw => by go_simp <;> omega⟩) hHeld ?_
              simp only [Act.put, List.setIfInBounds_toArray, List.set_cons_succ, List.set_cons_zero]
              refine drawn_take (i := 11) (v := .bool true) (some 45) rfl rfl (by kernel_rfl) (by kernel_rfl) (by kernel_rfl) (fun _ _ _ h => h) (Or.inl ⟨by kernel_rfl, fun wq hw => by go_simp⟩) hHeld ?_
              simp only [Act.put, List.setIfInBounds_toArray, List.set_cons_succ, List.set_cons_zero]
              refine drawn_take (i := 12) (v := .bool true) (some 11) rfl rfl (by kernel_rfl) (by kernel_rfl) (by kernel_rfl) (fun _ _ _ h => h) (Or.inl ⟨by kernel_rfl, fun wq hw => by go_simp⟩) hHeld ?_
              simp only [Act.put, List.setIfInBounds_toArray, List.set_cons_succ, List.set_cons_zero]
              refine wpAnyH_done (by kernel_rfl) ?_ _
              refine NoPanic.normal ?_
              clear hHeld
              obtain ⟨wz, hwz⟩ : ∃ wz, wz = wy.drew := ⟨_, rfl⟩
              rw [← hwz]
              have hzx : Below wx.heap.size wx wz := HYX.out.trans (show Below wx.heap.size wy wz by rw [hwz]; exact ((Below.refl _ wy).drew).mono HYX.out.size)
              have qZ : wz.heap[wo.heap.size]? = some (.cells #[.int .i64 tk, .int .u64 (vk : Int)] 36 (0, 0)) := (hzx.block _ (Array.getElem?_eq_some_iff.1 HQX.out).1).trans HQX.out
              have e0 : wz.cell? ⟨wo.heap.size, 0, none⟩ = some (.int .i64 tk) := cell_of_row _ _ _ _ _ _ qZ
              have e1 : wz.cell? ⟨wo.heap.size, 1, none⟩ = some (.int .u64 (vk : Int)) := cell_of_row _ _ _ _ _ _ qZ
              have hoz : Below wo.heap.size wo wz := HOX.out.trans (hzx.mono HOX.out.size)
              have HZ : Hid (Below wo.heap.size wo wz) := hidn hoz
              have HINB : Hid (inB J tk = true) := hidn ((by have z := hole_at HSEP.out (m := m) (t := tk) (by rw [HNJ.out]; omega) HLT.out (by rw [← HGT.out]; omega); rw [z, ← HGF.out]; simp; omega))
              clear hwz hzx qZ hoz
              by_cases hfl : floor ≤ tk
              · have HBN : Hid (Below wJ.heap.size wJ wz) := hidn (HB.out.trans (HZ.out.mono HB.out.size))
                have HON : Hid (wz.ownsRow wJ.heap.size 36 2 u7 q (vsm (outL (l.take (k + 1)) floor J))) := hidn (by rw [outL_no (by rw [HL.out]; exact hlt) (.inr (by rw [← HTK.out]; exact HINB.out))]; exact own_skip HO.out HZ.out)
                go_wp2_with fail
                go_roundw
                case rel => exact ⟨k + 1, m, (r + 1), q, (some ⟨b, off, none⟩), cc, by omega, by omega, by omega, by first | rfl | simp, rfl, hrc, HG2, HBN, HON, HMN⟩
                case measure => simp [intOf]; omega
              · have HBN : Hid (Below wJ.heap.size wJ wz) := hidn (HB.out.trans (HZ.out.mono HB.out.size))
                have HON : Hid (wz.ownsRow wJ.heap.size 36 2 u7 q (vsm (outL (l.take (k + 1)) floor J))) := hidn (by rw [outL_no (by rw [HL.out]; exact hlt) (.inr (by rw [← HTK.out]; exact HINB.out))]; exact own_skip HO.out HZ.out)
                go_wp2_with fail
                go_roundw
                case rel => exact ⟨k + 1, m, (r + 1), q, (some ⟨b, off, none⟩), cc, by omega, by omega, by omega, by first | rfl | simp, rfl, hrc, HG2, HBN, HON, HMN⟩
                case measure => simp [intOf]; omega
            · 
              refine wp_region_noPanic ?_
              refine wp_region_held_drew (S := fun w' => Below wy.heap.size wy w') (by kernel_rfl) ((Below.refl _ wy).drew) (fun hHeld => ?_)
              refine drawn_take (i := 0) (v := .slice (some ⟨b, off, none⟩) (r + 1) cc) (some 34) rfl rfl (by kernel_rfl) (by kernel_rfl) (by kernel_rfl) (fun _ _ _ h => h) (Or.inl ⟨by kernel_rfl, fun wq hw => by go_simp⟩) hHeld ?_
              simp only [Act.put, List.setIfInBounds_toArray, List.set_cons_succ, List.set_cons_zero]
              refine drawn_take (i := 1) (v := .int .i64 ((r : Int) + 1)) (some 35) rfl rfl (by kernel_rfl) (by kernel_rfl) (by kernel_rfl) (fun _ _ _ h => h) (Or.inl ⟨by kernel_rfl, fun wq hw => by go_simp⟩) hHeld ?_
              simp only [Act.put, List.setIfInBounds_toArray, List.set_cons_succ, List.set_cons_zero]
              refine drawn_take (i := 2) (v := .bool true) (some 36) rfl rfl (by kernel_rfl) (by kernel_rfl) (by kernel_rfl) (fun _ _ _ h => h) (Or.inl ⟨by kernel_rfl, fun wq hw => by go_simp <;> omega⟩) hHeld ?_
              simp only [Act.put, List.setIfInBounds_toArray, List.set_cons_succ, List.set_cons_zero]
              refine drawn_take (i := 3) (v := .bool true) (some 37) rfl rfl (by kernel_rfl) (by kernel_rfl) (by kernel_rfl) (fun _ _ _ h => h) (Or.inl ⟨by kernel_rfl, fun wq hw => by go_simp⟩) hHeld ?_
              simp only [Act.put, List.setIfInBounds_toArray, List.set_cons_succ, List.set_cons_zero]
              refine drawn_take (i := 4) (v := .slice (some ⟨b, off, none⟩) (r + 1) cc) (some 38) rfl rfl (by kernel_rfl) (by kernel_rfl) (by kernel_rfl) (fun _ _ _ h => h) (Or.inl ⟨by kernel_rfl, fun wq hw => by go_simp⟩) hHeld ?_
              simp only [Act.put, List.setIfInBounds_toArray, List.set_cons_succ, List.set_cons_zero]
              refine drawn_take (i := 5) (v := .pointer (some ⟨b, off, none⟩)) (some 39) rfl rfl (by kernel_rfl) (by kernel_rfl) (by kernel_rfl) (fun _ _ _ h => h) (Or.inl ⟨by kernel_rfl, fun wq hw => by go_simp⟩) hHeld ?_
              simp only [Act.put, List.setIfInBounds_toArray, List.set_cons_succ, List.set_cons_zero]
              refine drawn_take (i := 6) (v := .pointer (some ⟨b, off, none⟩)) (some 40) rfl rfl (by kernel_rfl) (by kernel_rfl) (by kernel_rfl) (fun _ _ _ h => h) (Or.inl ⟨by kernel_rfl, fun wq hw => by go_simp⟩) hHeld ?_
              simp only [Act.put, List.setIfInBounds_toArray, List.set_cons_succ, List.set_cons_zero]
              refine drawn_take (i := 7) (v := .int .i64 gf) (some 41) rfl rfl (by kernel_rfl) (by kernel_rfl) (by kernel_rfl) (fun _ _ _ h => h) (Or.inl ⟨by kernel_rfl, fun wq hw => by obtain ⟨q0, q1, q2⟩ := HRD.out _ (HYX.out.trans (hw.mono HYX.out.size)); go_simp⟩) hHeld ?_
              simp only [Act.put, List.setIfInBounds_toArray, List.set_cons_succ, List.set_cons_zero]
              refine drawn_take (i := 8) (v := .pointer (some ⟨wo.heap.size, 0, none⟩)) (some 42) rfl rfl (by kernel_rfl) (by kernel_rfl) (by kernel_rfl) (fun _ _ _ h => h) (Or.inl ⟨by kernel_rfl, fun wq hw => by go_simp⟩) hHeld ?_
              simp only [Act.put, List.setIfInBounds_toArray, List.set_cons_succ, List.set_cons_zero]
              refine drawn_take (i := 9) (v := .int .i64 tk) (some 43) rfl rfl (by kernel_rfl) (by kernel_rfl) (by kernel_rfl) (fun _ _ _ h => h) (Or.inl ⟨by kernel_rfl, fun wq hw => by obtain ⟨q0, q1, q2⟩ := HRD.out _ (HYX.out.trans (hw.mono HYX.out.size)); go_simp⟩) hHeld ?_
              simp only [Act.put, List.setIfInBounds_toArray, List.set_cons_succ, List.set_cons_zero]
              refine drawn_take (i := 10) (v := .bool false) (some 44) rfl rfl (by kernel_rfl) (by kernel_rfl) (by kernel_rfl) (fun _ _ _ h => h) (Or.inl ⟨by kernel_rfl, fun wq hw => by go_simp <;> omega⟩) hHeld ?_
              simp only [Act.put, List.setIfInBounds_toArray, List.set_cons_succ, List.set_cons_zero]
              refine drawn_take (i := 11) (v := .bool false) (some 45) rfl rfl (by kernel_rfl) (by kernel_rfl) (by kernel_rfl) (fun _ _ _ h => h) (Or.inl ⟨by kernel_rfl, fun wq hw => by go_simp⟩) hHeld ?_
              simp only [Act.put, List.setIfInBounds_toArray, List.set_cons_succ, List.set_cons_zero]
              refine drawn_take (i := 12) (v := .bool false) (some 11) rfl rfl (by kernel_rfl) (by kernel_rfl) (by kernel_rfl) (fun _ _ _ h => h) (Or.inl ⟨by kernel_rfl, fun wq hw => by go_simp⟩) hHeld ?_
              simp only [Act.put, List.setIfInBounds_toArray, List.set_cons_succ, List.set_cons_zero]
              refine wpAnyH_done (by kernel_rfl) ?_ _
              refine NoPanic.normal ?_
              clear hHeld
              obtain ⟨wz, hwz⟩ : ∃ wz, wz = wy.drew := ⟨_, rfl⟩
              rw [← hwz]
              have hzx : Below wx.heap.size wx wz := HYX.out.trans (show Below wx.heap.size wy wz by rw [hwz]; exact ((Below.refl _ wy).drew).mono HYX.out.size)
              have qZ : wz.heap[wo.heap.size]? = some (.cells #[.int .i64 tk, .int .u64 (vk : Int)] 36 (0, 0)) := (hzx.block _ (Array.getElem?_eq_some_iff.1 HQX.out).1).trans HQX.out
              have e0 : wz.cell? ⟨wo.heap.size, 0, none⟩ = some (.int .i64 tk) := cell_of_row _ _ _ _ _ _ qZ
              have e1 : wz.cell? ⟨wo.heap.size, 1, none⟩ = some (.int .u64 (vk : Int)) := cell_of_row _ _ _ _ _ _ qZ
              have hoz : Below wo.heap.size wo wz := HOX.out.trans (hzx.mono HOX.out.size)
              have HZ : Hid (Below wo.heap.size wo wz) := hidn hoz
              have HINB : Hid (inB J tk = false) := hidn ((by have z := hole_at HSEP.out (m := m) (t := tk) (by rw [HNJ.out]; omega) HLT.out (by rw [← HGT.out]; omega); rw [z, ← HGF.out]; simp; omega))
              clear hwz hzx qZ hoz
              by_cases hfl : floor ≤ tk
              · obtain ⟨w3, hw3⟩ : ∃ w3, w3 = wz.alloc (.cells #[.int .i64 tk, .int .u64 (vk : Int)] 36) := ⟨_, rfl⟩
                have b3 : Below wz.heap.size wz w3 := by rw [hw3]; exact (Below.refl _ wz).alloc (Nat.le_refl _) _
                have q3 : w3.heap[wz.heap.size]? = some (.cells #[.int .i64 tk, .int .u64 (vk : Int)] 36 (0, 0)) := by rw [hw3]; exact heap_alloc_new wz _
                have b03 : Below wo.heap.size wo w3 := HZ.out.trans (b3.mono HZ.out.size)
                obtain ⟨g, c', w4, hr, ho4, hg4⟩ := app_sam1 (own_skip HO.out b03) (Nat.le_trans HB.out.size b03.size) (by omega) (⟨tk, vk⟩ : Sam) ⟨wz.heap.size, 0, none⟩ (cell_of_row _ _ _ _ _ _ q3) (cell_of_row _ _ 1 _ _ _ q3)
                have HR := hidn hr
                have HW3 := hidn hw3
                have HBN : Hid (Below wJ.heap.size wJ w4) := hidn ((HB.out.trans (b03.mono HB.out.size)).grown hg4 (Nat.le_trans HB.out.size b03.size) (fun k hk => (HO.out.lt k hk).1))
                have HON : Hid (w4.ownsRow wJ.heap.size 36 2 (.slice (some ⟨g, 0, none⟩) (q + 1) c') (q + 1) (vsm (outL (l.take (k + 1)) floor J))) := hidn (by rw [outL_yes (by rw [HL.out]; exact hlt) (by rw [← HTK.out]; exact hfl) (by rw [← HTK.out]; exact HINB.out), ← HSM.out]; exact ho4)
                clear hr hw3 b3 q3 b03 ho4 hg4
                go_wp2_with (at_builtin; rw [← HW3.out]; refine wpList_app_run2 rfl (.tmp 54) (.tmp 56) 25 25 rfl rfl u7 (.slice (some ⟨wz.heap.size, 0, none⟩) 1 1) _ rfl rfl HR.out ?_)
                go_roundw
                case rel => exact ⟨k + 1, m, (r + 1), (q + 1), (some ⟨b, off, none⟩), cc, by omega, by omega, by omega, by first | rfl | simp, rfl, hrc, HG2, HBN, HON, HMN⟩
                case measure => simp [intOf]; omega
              · have HBN : Hid (Below wJ.heap.size wJ wz) := hidn (HB.out.trans (HZ.out.mono HB.out.size))
                have HON : Hid (wz.ownsRow wJ.heap.size 36 2 u7 q (vsm (outL (l.take (k + 1)) floor J))) := hidn (by rw [outL_no (by rw [HL.out]; exact hlt) (.inl (by rw [← HTK.out]; exact hfl))]; exact own_skip HO.out HZ.out)
                go_wp2_with fail
                go_roundw
                case rel => exact ⟨k + 1, m, (r + 1), q, (some ⟨b, off, none⟩), cc, by omega, by omega, by omega, by first | rfl | simp, rfl, hrc, HG2, HBN, HON, HMN⟩
                case measure => simp [intOf]; omega
    · obtain rfl : k = len := by omega
      have HT : Hid (l.take k = l) := hidn (List.take_of_length_le (by rw [HL.out]; omega))
      have HO2 := hidn HO.out
      have HQL : Hid (q = (outL l floor G).length) := hidn (by
        have z := HO.out.1
        rw [vsm_len, HT.out, outL_same HCOV.out] at z
        omega)
      have HF : Hid (wo.ownsRow w.heap.size 36 2 u7 (outL l floor G).length (vsm (outL l floor G))) := hidn (by
        have z := own_lowG HO.out HBJ.out.size
        rwa [HT.out, outL_same HCOV.out, HQL.out] at z)
      have HBF := hidn (HBJ.out.trans (HB.out.mono HBJ.out.size))
      go_wp2_with fail
      go_ret
      exact ⟨_, rfl, HF.out, HBF.out⟩
end Go.Proofs.Ytccjgciknaooaaa
