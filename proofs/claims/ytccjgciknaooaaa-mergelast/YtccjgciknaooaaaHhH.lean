/- merge: merged at any lists. -/
import Derived.Test.YtccjgciknaooaaaHhG
namespace Go.Proofs.Ytccjgciknaooaaa
open Go.RowKit Go.Joins
set_option linter.unusedVariables false

set_option maxHeartbeats 16000000 in
set_option maxRecDepth 100000 in
theorem merged_any (a : Option Addr) (len cap : Nat) (l : List Rk) (w : World) (hks : Rks w a len l) (h45 : len ≤ 45) (hup : ∀ (q : Nat) (z : Rk), l[q]? = some z → UpZ z.zs) (hN : totZ l ≤ 100000) :
    Calls Try.prog 24 #[.slice a len cap] w (MgdP l (totZ l) w) := by
  have HL := hidn hks.1
  have H := hidn hks
  have HUP2 := hidn hks.2.2.1
  have HUP := hidn hup
  obtain ⟨N, hNe⟩ : ∃ N, N = totZ l := ⟨_, rfl⟩
  rw [← hNe] at hN ⊢
  have HNE := hidn hNe
  obtain ⟨v1, hv1⟩ : ∃ v1, v1 = w.alloc (.cells #[.slice none 0 0, .func (.func 30) #[] #[]] 67) := ⟨_, rfl⟩
  have hb1 : Below w.heap.size w v1 := by rw [hv1]; exact (Below.refl _ w).alloc (Nat.le_refl _) _
  have q1 : HpB v1 w.heap.size (.slice none 0 0) := by rw [hv1]; exact heap_alloc_new w _
  have HV1 := hidn hv1
  have HB1 := hidn hb1
  have HI1 : Hid (HpI w.heap.size v1 w.heap.size (.slice none 0 0) []) := hidn ⟨q1, World.ownsRow_nil _ _ _ _, Nat.le_refl _⟩
  clear hks hup hv1 hb1 q1 hNe
  go_enter Try.func24, Try.ntmps24
  go_wp2_with fail
  rw [← HV1.out]
  go_loopw [12] (fun iv wr => ∃ (k : Nat) (rs : List Run) (va : Option Addr) (c : Nat), k ≤ len ∧ iv = .int .i64 (k : Int) ∧ Hid (Below w.heap.size w wr) ∧ Hid (HpI w.heap.size wr w.heap.size (.slice va rs.length c) rs) ∧ Hid (L1P l w k rs)) (fun iv _ => len - (intOf iv).toNat)
  case atStart => exact ⟨0, [], none, 0, Nat.zero_le _, rfl, HB1, HI1, hidn (L1P.start l w)⟩
  case round =>
    obtain ⟨k, rs, va, c, hk, rfl, HB, HI, HP⟩ := hrel
    obtain ⟨wo, hwo⟩ : ∃ wo, wo = wr := ⟨_, rfl⟩
    subst hwo
    by_cases hlt : k < len
    · have hlt2 : (k : Int) < (len : Int) := by omega
      obtain ⟨r, hr⟩ : ∃ r, l[k]? = some r := ⟨_, List.getElem?_eq_getElem (by rw [HL.out]; exact hlt)⟩
      obtain ⟨h1, h2, h3, h4⟩ := H.out.below HB.out
      obtain ⟨b, off, rfl, hc⟩ := h4 (by omega)
      obtain ⟨c0, c1⟩ := hc k r hr
      have hS := (HUP2.out k r hr).1
      have hsc := (HUP2.out k r hr).2
      have HR := hidn hr
      obtain ⟨rank, sa, sl, sc, zs⟩ := r
      simp only at c0 c1 hS hsc
      obtain ⟨w1, hw1⟩ : ∃ w1, w1 = wo.alloc (.cells #[.int .i64 rank, .slice sa sl sc] 47) := ⟨_, rfl⟩
      have hb1 : Below wo.heap.size wo w1 := by rw [hw1]; exact (Below.refl _ wo).alloc (Nat.le_refl _) _
      have q1 : w1.heap[wo.heap.size]? = some (.cells #[.int .i64 rank, .slice sa sl sc] 47 (0, 0)) := by rw [hw1]; exact heap_alloc_new wo _
      have HB2 := hidn (HB.out.trans (hb1.mono HB.out.size))
      have HI2 := hidn (HI.out.below hb1)
      have e0 : w1.cell? ⟨wo.heap.size, 0, none⟩ = some (.int .i64 rank) := cell_of_row _ _ _ _ _ _ q1
      have e1 : w1.cell? ⟨wo.heap.size, 1, none⟩ = some (.slice sa sl sc) := cell_of_row _ _ _ _ _ _ q1
      have HW1 := hidn hw1
      have HSL := hidn hS.1
      by_cases hs0 : sl = 0
      · subst hs0
        have HP2 := hidn (HP.out.skip HR.out HSL.out)
        clear h1 h2 h3 h4 hc hS hr hw1 hb1 q1
        go_wp2_with fail
        rw [← HW1.out]
        go_wp2_with fail
        go_roundw
        case rel => exact ⟨k + 1, rs, va, c, by omega, by first | rfl | simp, HB2, HI2, HP2⟩
        case measure => simp [intOf]; omega
      · have hs1 : (0 : Int) < (sl : Int) := by omega
        obtain ⟨bs, os, hsa, hbs, hcs⟩ := hS.pos (by omega)
        subst hsa
        have HRN : Hid (IsRn l w ⟨some ⟨bs, os, none⟩, sl, sc, rank, (k : Int)⟩) := hidn ⟨k, _, bs, os, HR.out, rfl, rfl, by show 0 < sl; omega, by show sl ≤ zs.length; have := HSL.out; omega, rfl, by show some (⟨bs, os, none⟩ : Addr) = some ⟨bs, os + (zs.length - sl) * 2, none⟩; rw [HSL.out, Nat.sub_self, Nat.zero_mul, Nat.add_zero], hsc⟩
        have HPU := hidn (push_any (tmR l) w.heap.size w.heap.size va rs.length c rs bs os sl sc rank (k : Int) w1 rfl (by have := HP.out.len; omega) HI2.out HB2.out.size HP.out.heap (fun r hr => by
          refine isrn_at HUP2.out ?_ HB2.out
          rcases List.mem_append.1 hr with hr | hr
          · exact HP.out.isrn r hr
          · rw [List.mem_singleton] at hr; subst hr; exact HRN.out))
        clear h1 h2 h3 h4 hc hS hr hw1 hb1 q1 hcs
        go_wp2_with fail
        rw [← HW1.out]
        go_wp2_with fail
        refine HPU.out.mono ?_
        rintro e w3 ⟨rfl, g', c', rs', hperm, hheap, hi3, hb3, _⟩
        have HB3 := hidn (HB2.out.trans hb3)
        have HI3 := hidn hi3
        have HP3 := hidn (HP.out.push HR.out HRN.out rfl (by show sl = zs.length; exact HSL.out.symm) hperm hheap)
        clear hperm hheap hi3 hb3
        go_wp2_with fail
        go_roundw
        case rel => exact ⟨k + 1, rs', some ⟨g', 0, none⟩, c', by omega, by first | rfl | simp, HB3, HI3, HP3⟩
        case measure => simp [intOf]; omega
    · have hlt2 : ¬ (k : Int) < (len : Int) := by omega
      have HTK : Hid (l.take k = l) := hidn (List.take_of_length_le (by rw [HL.out]; omega))
      have HTOT : Hid (tot rs = N) := hidn (by rw [HP.out.tots, HTK.out, HNE.out])
      have HMS : Hid (MI l rs []) := hidn (mi_start HP.out.places (fun p x hx h0 => HP.out.has p x (by
        have := (List.getElem?_eq_some_iff.1 hx).1
        rw [HL.out] at this
        omega) hx h0))
      have hrl : rs.length ≤ 45 := by have := HP.out.len; omega
      go_wp2_with fail
      go_loopg [6] N (fun gk av wr => ∃ (rs : List Run) (R : List Sam) (hv : Value), tot rs ≤ gk ∧ rs.length ≤ 45 ∧ Hid (MI l rs R) ∧ Hid (HpI w.heap.size wr w.heap.size hv rs) ∧ Hid (Heap (tmR l) rs) ∧ Hid (∀ r ∈ rs, IsRn l w r) ∧ Hid (R.length + tot rs ≤ N) ∧ Hid (Below w.heap.size w wr) ∧ Hid (wr.ownsRow w.heap.size 36 2 av R.length (vsm R)))
      case atStart => exact ⟨rs, [], .slice va rs.length c, by rw [HTOT.out]; exact Nat.le_refl _, hrl, HMS, HI, hidn HP.out.heap, hidn HP.out.isrn, hidn (by rw [HTOT.out]; simp), HB, hidn (World.ownsRow_nil _ _ _ _)⟩
      case round =>
        clear HB HI HP HTK HTOT HMS hrl hlt hlt2 hk
        obtain ⟨rs, R, hv, hgt, hl45, HM, HI, HHQ, HIQ, HLQ, HBQ, HOQ⟩ := hrel
        obtain ⟨wp, hwp⟩ : ∃ wp, wp = wr := ⟨_, rfl⟩
        subst hwp
        by_cases hz : rs = []
        · subst hz
          obtain ⟨va2, c2, hhv⟩ := own_form HI.out.2.1
          subst hhv
          have HE := hidn (mi_end HUP.out HM.out)
          have h0 : wp.cell? ⟨w.heap.size, 0, none⟩ = some (.slice va2 ([] : List Run).length c2) := cell_of_row wp _ 0 _ _ _ HI.out.1
          have HLR : Hid (R.length ≤ N) := hidn (by have := HLQ.out; omega)
          simp only [List.length_nil] at h0
          go_wp2_with fail
          go_ret
          exact ⟨_, R, rfl, HE.out.1, HE.out.2, HLR.out, HOQ.out, HBQ.out⟩
        · obtain ⟨m, hm⟩ : ∃ m, rs.length = m + 1 := ⟨rs.length - 1, by have := List.length_pos_iff.2 hz; omega⟩
          obtain ⟨g, c, hv0⟩ := own_some HI.out.2.1 (by omega)
          have hm1 : (0 : Int) < (m : Int) + 1 := by omega
          rw [hm] at hv0
          subst hv0
          have h0 : wp.cell? ⟨w.heap.size, 0, none⟩ = some (.slice (some ⟨g, 0, none⟩) (m + 1) c) := cell_of_row wp _ 0 _ _ _ HI.out.1
          have hPO := pop_any (tmR l) w.heap.size w.heap.size g c m rs wp hm (by omega) HI.out HBQ.out.size HHQ.out (fun r hr => isrn_at HUP2.out (HIQ.out r hr) HBQ.out)
          have hMI := heap_min HHQ.out
          obtain ⟨p, x, b, ox, hx, hpl, hrk, hl0, hl1, hsa, hra, hcap⟩ := HIQ.out (rn rs 0) (List.mem_of_getElem? (rn_get (rs := rs) (i := 0) (by omega)))
          obtain ⟨ra, hrae⟩ : ∃ ra, ra = rn rs 0 := ⟨_, rfl⟩
          rw [← hrae] at hPO hMI hpl hrk hl0 hl1 hra hcap
          clear hrae
          obtain ⟨aa, la, ca, rk, pl⟩ := ra
          simp only at hpl hrk hl0 hl1 hra hcap
          obtain ⟨j, rfl⟩ : ∃ j, la = j + 1 := ⟨la - 1, by omega⟩
          obtain ⟨d, rfl⟩ : ∃ d, ca = d + 1 := ⟨ca - 1, by omega⟩
          obtain ⟨oo, hoo⟩ : ∃ oo, oo = ox + (x.zs.length - (j + 1)) * 2 := ⟨_, rfl⟩
          rw [← hoo] at hra
          subst hra
          obtain ⟨s, hse⟩ : ∃ s, s = samD x.zs (x.zs.length - (j + 1)) := ⟨_, rfl⟩
          obtain ⟨ts, hts⟩ : ∃ ts, ts = s.t := ⟨_, rfl⟩
          obtain ⟨vs, hvs⟩ : ∃ vs, vs = s.v := ⟨_, rfl⟩
          have HC : Hid (∀ W, Below w.heap.size w W → W.cell? ⟨b, oo, none⟩ = some (.int .i64 ts) ∧ W.cell? ⟨b, oo + 1, none⟩ = some (.int .u64 (vs : Int))) := hidn (fun W hb => by
            have hS := (HUP2.out p x hx).1
            obtain ⟨b2, o2, e, hbs, hc⟩ := hS.pos (by rw [← hS.1]; omega)
            rw [hsa] at e
            cases e
            obtain ⟨c0, c1⟩ := hc (x.zs.length - (j + 1)) (by rw [← hS.1]; omega)
            rw [hoo, hts, hvs, hse]
            exact ⟨(hb.cell (p := ⟨b, ox + (x.zs.length - (j + 1)) * 2, none⟩) hbs).trans c0, (hb.cell (p := ⟨b, ox + (x.zs.length - (j + 1)) * 2 + 1, none⟩) hbs).trans c1⟩)
          have HPO := hidn hPO
          have HMI := hidn hMI
          have HX := hidn hx
          have HPL := hidn hpl
          have HRK := hidn hrk
          have HSA := hidn hsa
          have HOO := hidn hoo
          have HSE := hidn hse
          have HSV : Hid (s.t = ts ∧ s.v = vs) := hidn ⟨hts.symm, hvs.symm⟩
          have hjd : j ≤ d := by omega
          have HMN := hidn hm
          clear hPO hMI hx hpl hrk hsa hoo hse hts hvs hcap hz hm
          go_wp2_with fail
          refine HPO.out.mono ?_
          rintro e w1 ⟨he, rs', hpp, hhp, hi1, hb1, hf1⟩
          simp only at he
          subst he
          obtain ⟨hv', hhv⟩ : ∃ hv' : Value, hv' = .slice (some ⟨g, 0, none⟩) rs'.length c := ⟨_, rfl⟩
          rw [← hhv] at hi1
          have HVE := hidn hhv
          have HI1 := hidn hi1
          have HVG : Hid (hv'.ownBlock ≠ some w1.heap.size) := hidn (fun e => by have := (HI1.out.2.1.lt _ e).2; omega)
          have HO1 := hidn (own_fr HOQ.out HI.out.1 HI.out.2.1 (fun k hk h1 h2 => hf1 k hk h1 (fun e => h2 (by rw [e]; rfl))))
          have HMM := hidn (HM.out.perm hpp)
          have HMIN : Hid (∀ r ∈ rs', aheadR (tmR l) r ⟨some ⟨b, oo, none⟩, j + 1, d + 1, rk, pl⟩ = false) := hidn (fun r hr => HMI.out r (hpp.mem_iff.1 (List.mem_cons_of_mem _ hr)))
          have HIR : Hid (∀ r ∈ rs', IsRn l w r) := hidn (fun r hr => HIQ.out r (hpp.mem_iff.1 (List.mem_cons_of_mem _ hr)))
          have HRUNS : Hid (∀ r ∈ rs', RunP l r) := hidn (fun r hr => isrn_p (HIR.out r hr))
          have HHP := hidn hhp
          have hgt2 : tot rs' + (j + 1) ≤ gk := by
            have := tot_perm hpp
            simp only [tot] at this
            omega
          have HLN0 : Hid (R.length + (tot rs' + (j + 1)) ≤ N) := hidn (by
            have := tot_perm hpp
            simp only [tot] at this
            have := HLQ.out
            omega)
          have hl46 : rs'.length + 1 ≤ 45 := by
            have := hpp.length_eq
            simp only [List.length_cons] at this
            omega
          have hbw := HBQ.out.trans hb1
          obtain ⟨d5, d6⟩ := HC.out w1 hbw
          have d5 : (w1.alloc (.cells #[.slice (some ⟨b, oo, none⟩) (j + 1) (d + 1), .int .i64 rk, .int .i64 pl] 70)).cell? ⟨b, oo, none⟩ = some (.int .i64 ts) := Lib.cell?_alloc_some _ d5
          have d6 : (w1.alloc (.cells #[.slice (some ⟨b, oo, none⟩) (j + 1) (d + 1), .int .i64 rk, .int .i64 pl] 70)).cell? ⟨b, oo + 1, none⟩ = some (.int .u64 (vs : Int)) := Lib.cell?_alloc_some _ d6
          obtain ⟨w3, hw3⟩ : ∃ w3, w3 = (w1.alloc (.cells #[.slice (some ⟨b, oo, none⟩) (j + 1) (d + 1), .int .i64 rk, .int .i64 pl] 70)).alloc (.cells #[.int .i64 ts, .int .u64 (vs : Int)] 36) := ⟨_, rfl⟩
          have b3 : Below w1.heap.size w1 w3 := by rw [hw3]; exact ((Below.refl _ w1).alloc (Nat.le_refl _) _).alloc (by simp) _
          have HQ3 : Hid (w3.heap[w1.heap.size]? = some (.cells #[.slice (some ⟨b, oo, none⟩) (j + 1) (d + 1), .int .i64 rk, .int .i64 pl] 70 (0, 0))) := hidn (by rw [hw3]; exact heap_alloc2_old w1 _ _)
          have HQ8 : Hid (w3.heap[w1.heap.size + 1]? = some (.cells #[.int .i64 ts, .int .u64 (vs : Int)] 36 (0, 0))) := hidn (by rw [hw3]; exact heap_alloc2_new w1 _ _)
          have HW3 := hidn hw3
          have HBW1 := hidn hbw.size
          have HB3 : Hid (Below w.heap.size w w3) := hidn (hbw.trans (b3.mono hbw.size))
          have HI3 := hidn (HI1.out.below b3)
          have HO3 := hidn (own_skip HO1.out b3)
          have f0 : w3.cell? ⟨w1.heap.size + 1, 0, none⟩ = some (.int .i64 ts) := cell_of_row _ _ _ _ _ _ HQ8.out
          have f1 : w3.cell? ⟨w1.heap.size + 1, 1, none⟩ = some (.int .u64 (vs : Int)) := cell_of_row _ _ _ _ _ _ HQ8.out
          have HTR : Hid (tmR l ⟨some ⟨b, oo, none⟩, j + 1, d + 1, rk, pl⟩ = ts) := hidn (by rw [tmR_of HX.out HPL.out, ← HSV.out.1, HSE.out])
          have HLOW : Hid (∀ y ∈ R, y.t ≤ ts) := hidn (fun y hy => by rw [← HTR.out]; exact HMM.out.low y hy _ (by simp))
          have HUPR : Hid (UpS R) := hidn HM.out.up
          clear hhv hi1 hb1 hf1 hpp hhp hbw hw3 b3 HPO HMI HM HI HHQ HIQ HLQ HOQ HBQ HMN
          go_wp2_with fail
          rw [← HW3.out]
          by_cases hR0 : R.length = 0
          · obtain ⟨aj, cj, hu6⟩ := own_form HO3.out
            rw [hR0] at hu6
            subst hu6
            have HRN0 := hidn (List.eq_nil_of_length_eq_zero hR0)
            clear hR0
            refine wp_region_noPanic ?_
            refine wp_region_held_drew (S := fun w' => Below w3.heap.size w3 w') (by kernel_rfl) ((Below.refl _ w3).drew) (fun hHeld => ?_)
            refine drawn_take (i := 0) (v := .slice aj 0 cj) (some 38) rfl rfl (by kernel_rfl) (by kernel_rfl) (by kernel_rfl) (fun _ _ _ h => h) (Or.inl ⟨by kernel_rfl, fun wq hw => by go_simp⟩) hHeld ?_
            simp only [Act.put, List.setIfInBounds_toArray, List.set_cons_succ, List.set_cons_zero]
            refine drawn_take (i := 1) (v := .int .i64 0) (some 39) rfl rfl (by kernel_rfl) (by kernel_rfl) (by kernel_rfl) (fun _ _ _ h => h) (Or.inl ⟨by kernel_rfl, fun wq hw => by go_simp⟩) hHeld ?_
            simp only [Act.put, List.setIfInBounds_toArray, List.set_cons_succ, List.set_cons_zero]
            refine drawn_take (i := 2) (v := .bool true) (some 40) rfl rfl (by kernel_rfl) (by kernel_rfl) (by kernel_rfl) (fun _ _ _ h => h) (Or.inl ⟨by kernel_rfl, fun wq hw => by go_simp⟩) hHeld ?_
            simp only [Act.put, List.setIfInBounds_toArray, List.set_cons_succ, List.set_cons_zero]
            refine drawn_take (i := 3) (v := .bool true) (some 41) rfl rfl (by kernel_rfl) (by kernel_rfl) (by kernel_rfl) (fun _ _ _ h => h) (Or.inl ⟨by kernel_rfl, fun wq hw => by go_simp⟩) hHeld ?_
            simp only [Act.put, List.setIfInBounds_toArray, List.set_cons_succ, List.set_cons_zero]
            refine drawn_take (i := 4) (v := undef) (some 42) rfl rfl (by kernel_rfl) (by kernel_rfl) (by kernel_rfl) (fun _ _ _ h => h) (Or.inr ⟨by kernel_rfl, rfl⟩) hHeld ?_
            simp only [Act.put, List.setIfInBounds_toArray, List.set_cons_succ, List.set_cons_zero]
            refine drawn_take (i := 5) (v := undef) (some 43) rfl rfl (by kernel_rfl) (by kernel_rfl) (by kernel_rfl) (fun _ _ _ h => h) (Or.inr ⟨by kernel_rfl, rfl⟩) hHeld ?_
            simp only [Act.put, List.setIfInBounds_toArray, List.set_cons_succ, List.set_cons_zero]
            refine drawn_take (i := 6) (v := undef) (some 44) rfl rfl (by kernel_rfl) (by kernel_rfl) (by kernel_rfl) (fun _ _ _ h => h) (Or.inr ⟨by kernel_rfl, rfl⟩) hHeld ?_
            simp only [Act.put, List.setIfInBounds_toArray, List.set_cons_succ, List.set_cons_zero]
            refine drawn_take (i := 7) (v := undef) (some 45) rfl rfl (by kernel_rfl) (by kernel_rfl) (by kernel_rfl) (fun _ _ _ h => h) (Or.inr ⟨by kernel_rfl, rfl⟩) hHeld ?_
            simp only [Act.put, List.setIfInBounds_toArray, List.set_cons_succ, List.set_cons_zero]
            refine drawn_take (i := 8) (v := undef) (some 46) rfl rfl (by kernel_rfl) (by kernel_rfl) (by kernel_rfl) (fun _ _ _ h => h) (Or.inr ⟨by kernel_rfl, rfl⟩) hHeld ?_
            simp only [Act.put, List.setIfInBounds_toArray, List.set_cons_succ, List.set_cons_zero]
            refine drawn_take (i := 9) (v := undef) (some 47) rfl rfl (by kernel_rfl) (by kernel_rfl) (by kernel_rfl) (fun _ _ _ h => h) (Or.inr ⟨by kernel_rfl, rfl⟩) hHeld ?_
            simp only [Act.put, List.setIfInBounds_toArray, List.set_cons_succ, List.set_cons_zero]
            refine drawn_take (i := 10) (v := undef) (some 48) rfl rfl (by kernel_rfl) (by kernel_rfl) (by kernel_rfl) (fun _ _ _ h => h) (Or.inr ⟨by kernel_rfl, rfl⟩) hHeld ?_
            simp only [Act.put, List.setIfInBounds_toArray, List.set_cons_succ, List.set_cons_zero]
            refine drawn_take (i := 11) (v := undef) (some 49) rfl rfl (by kernel_rfl) (by kernel_rfl) (by kernel_rfl) (fun _ _ _ h => h) (Or.inr ⟨by kernel_rfl, rfl⟩) hHeld ?_
            simp only [Act.put, List.setIfInBounds_toArray, List.set_cons_succ, List.set_cons_zero]
            refine drawn_take (i := 12) (v := undef) (some 50) rfl rfl (by kernel_rfl) (by kernel_rfl) (by kernel_rfl) (fun _ _ _ h => h) (Or.inr ⟨by kernel_rfl, rfl⟩) hHeld ?_
            simp only [Act.put, List.setIfInBounds_toArray, List.set_cons_succ, List.set_cons_zero]
            refine drawn_take (i := 13) (v := undef) (some 51) rfl rfl (by kernel_rfl) (by kernel_rfl) (by kernel_rfl) (fun _ _ _ h => h) (Or.inr ⟨by kernel_rfl, rfl⟩) hHeld ?_
            simp only [Act.put, List.setIfInBounds_toArray, List.set_cons_succ, List.set_cons_zero]
            refine drawn_take (i := 14) (v := .bool true) (some 52) rfl rfl (by kernel_rfl) (by kernel_rfl) (by kernel_rfl) (fun _ _ _ h => h) (Or.inl ⟨by kernel_rfl, fun wq hw => by go_simp⟩) hHeld ?_
            simp only [Act.put, List.setIfInBounds_toArray, List.set_cons_succ, List.set_cons_zero]
            refine wpAnyH_done (by kernel_rfl) ?_ _
            refine NoPanic.normal ?_
            clear hHeld
            obtain ⟨w3d, hw3d⟩ : ∃ w3d, w3d = w3.drew := ⟨_, rfl⟩
            rw [← hw3d]
            have b3d : Below w3.heap.size w3 w3d := by rw [hw3d]; exact (Below.refl _ w3).drew
            have q3d := (b3d.block _ (Array.getElem?_eq_some_iff.1 HQ8.out).1).trans HQ8.out
            have z0 : w3d.cell? ⟨w1.heap.size + 1, 0, none⟩ = some (.int .i64 ts) := cell_of_row _ _ _ _ _ _ q3d
            have z1 : w3d.cell? ⟨w1.heap.size + 1, 1, none⟩ = some (.int .u64 (vs : Int)) := cell_of_row _ _ _ _ _ _ q3d
            obtain ⟨w4, hw4⟩ : ∃ w4, w4 = w3d.alloc (.cells #[.int .i64 ts, .int .u64 (vs : Int)] 36) := ⟨_, rfl⟩
            have b4 : Below w3d.heap.size w3d w4 := by rw [hw4]; exact (Below.refl _ w3d).alloc (Nat.le_refl _) _
            have q4 : w4.heap[w3d.heap.size]? = some (.cells #[.int .i64 ts, .int .u64 (vs : Int)] 36 (0, 0)) := by rw [hw4]; exact heap_alloc_new w3d _
            have b34 : Below w3.heap.size w3 w4 := b3d.trans (b4.mono b3d.size)
            have ho4 := own_skip HO3.out b34
            obtain ⟨g5, c5, w5, hr5, ho5, hg5⟩ := app_sam1 ho4 (Nat.le_trans HB3.out.size b34.size) (by have := HLN0.out; omega) s ⟨w3d.heap.size, 0, none⟩ (by rw [HSV.out.1]; exact cell_of_row _ _ _ _ _ _ q4) (by rw [HSV.out.2]; exact cell_of_row _ _ 1 _ _ _ q4)
            have HB5 : Hid (Below w.heap.size w w5) := hidn ((HB3.out.trans (b34.mono HB3.out.size)).grown hg5 (Nat.le_trans HB3.out.size b34.size) (fun k hk => (ho4.lt k hk).1))
            have HQ5 : Hid (w5.heap[w1.heap.size]? = some (.cells #[.slice (some ⟨b, oo, none⟩) (j + 1) (d + 1), .int .i64 rk, .int .i64 pl] 70 (0, 0))) := hidn (by
              have qq := (b34.block _ (Array.getElem?_eq_some_iff.1 HQ3.out).1).trans HQ3.out
              exact (hg5.block _ (Array.getElem?_eq_some_iff.1 qq).1 (own_ne ho4 qq (by decide))).trans qq)
            have HI5 := hidn (hpi_fr (HI3.out.below b34) ho4 (fun k hk h1 => hg5.block k hk h1))
            obtain ⟨R', hR'⟩ : ∃ R', R' = R ++ [s] := ⟨_, rfl⟩
            have hRl : R'.length = R.length + 1 := by rw [hR']; simp
            obtain ⟨avv, havv⟩ : ∃ avv : Value, avv = .slice (some ⟨g5, 0, none⟩) (R.length + 1) c5 := ⟨_, rfl⟩
            have HO5 : Hid (w5.ownsRow w.heap.size 36 2 avv R'.length (vsm R')) := hidn (by rw [havv, hRl, hR']; exact ho5)
            have HAVG : Hid (some w1.heap.size ≠ avv.ownBlock) := hidn (own_ne HO5.out HQ5.out (by decide))
            have HLN : Hid (R'.length + (tot rs' + j) ≤ N) := hidn (by rw [hRl]; have := HLN0.out; omega)
            have HLN := hidn (show R'.length + (tot rs' + j) ≤ N from HLN.out)
            have HRR : Hid ((R' = R ∧ ∃ y ∈ R, y.t = s.t) ∨ (R' = R ++ [s] ∧ ∀ y ∈ R, y.t < s.t)) := hidn (.inr ⟨hR', fun y hy => by rw [HRN0.out] at hy; cases hy⟩)
            have HR5 := hidn hr5
            have HW4 := hidn hw4
            have HAV := hidn havv
            clear hw3d b3d q3d hw4 b4 q4 b34 ho4 hr5 ho5 hg5 hR' hRl havv
            obtain ⟨MA, MB⟩ := mi_pop (R' := R') HMM.out HX.out HPL.out HRK.out hl0 hl1 HUP.out HMIN.out HRUNS.out HSE.out HRR.out
            have h5c : w5.cell? ⟨w1.heap.size, 1, none⟩ = some (.int .i64 rk) := cell_of_row _ _ 1 _ _ _ HQ5.out
            have h5d : w5.cell? ⟨w1.heap.size, 2, none⟩ = some (.int .i64 pl) := cell_of_row _ _ 2 _ _ _ HQ5.out
            have h5f := unfrozen_of_block HQ5.out 0
            have hh1 : w.heap.size ≠ w1.heap.size := by have := (Array.getElem?_eq_some_iff.1 HI1.out.1).1; omega
            have HMA := hidn MA
            have HMB := hidn MB
            clear MA MB
            by_cases hj0 : j = 0
            · subst hj0
              have HM2 := hidn (HMA.out rfl)
              by_cases hd0 : d = 0
              · subst hd0
                have h5b : w5.cell? ⟨w1.heap.size, 0, none⟩ = some (.slice (some ⟨b, oo, none⟩) 1 1) := cell_of_row _ _ 0 _ _ _ HQ5.out
                obtain ⟨w6, hw6⟩ : ∃ w6, w6 = w5.setCell ⟨w1.heap.size, 0, none⟩ (.slice (some ⟨b, oo, none⟩) 0 0) := ⟨_, rfl⟩
                have hrow6 : w6.heap[w1.heap.size]? = some (.cells #[.slice (some ⟨b, oo, none⟩) 0 0, .int .i64 rk, .int .i64 pl] 70 (0, 0)) := by rw [hw6]; exact block_setCell HQ5.out _
                have g0 : w6.cell? ⟨w1.heap.size, 0, none⟩ = some (.slice (some ⟨b, oo, none⟩) 0 0) := cell_of_row _ _ 0 _ _ _ hrow6
                have HI6 : Hid (HpI w.heap.size w6 w.heap.size hv' rs') := hidn (by rw [hw6]; exact hpi_cell HI5.out hh1 HVG.out)
                have HO6 : Hid (w6.ownsRow w.heap.size 36 2 avv R'.length (vsm R')) := hidn (by rw [hw6]; exact own_cell HO5.out HAVG.out)
                have HB6 : Hid (Below w.heap.size w w6) := hidn (by rw [hw6]; exact HB5.out.setCell (p := ⟨w1.heap.size, 0, none⟩) HBW1.out _)
                have HL7 : Hid (R'.length + tot rs' ≤ N) := hidn (by have := HLN.out; omega)
                have hg7 : tot rs' < gk := by omega
                have hl7 : rs'.length ≤ 45 := by omega
                have HW6 := hidn hw6
                clear hw6 hrow6
                go_wp2_with (at_builtin; rw [← HW4.out]; refine wpList_app_run2 rfl (.tmp 53) (.tmp 55) 25 25 rfl rfl (.slice aj 0 cj) (.slice (some ⟨w3d.heap.size, 0, none⟩) 1 1) _ rfl rfl HR5.out ?_; rw [← HAV.out])
                go_roundg (tot rs')
                case measure => exact hg7
                case rel =>
                  rw [← HW6.out]
                  first | exact ⟨rs', R', hv', Nat.le_refl _, hl7, HM2, HI6, HHP, HIR, HL7, HB6, HO6⟩ | (repeat apply Exists.intro; exact ⟨⟨rs', R', hv', Nat.le_refl _, hl7, HM2, HI6, HHP, HIR, HL7, HB6, HO6⟩, rfl⟩)
              · have h5b : w5.cell? ⟨w1.heap.size, 0, none⟩ = some (.slice (some ⟨b, oo, none⟩) 1 (d + 1)) := cell_of_row _ _ 0 _ _ _ HQ5.out
                obtain ⟨w6, hw6⟩ : ∃ w6, w6 = w5.setCell ⟨w1.heap.size, 0, none⟩ (.slice (some ⟨b, oo + 2, none⟩) 0 d) := ⟨_, rfl⟩
                have hrow6 : w6.heap[w1.heap.size]? = some (.cells #[.slice (some ⟨b, oo + 2, none⟩) 0 d, .int .i64 rk, .int .i64 pl] 70 (0, 0)) := by rw [hw6]; exact block_setCell HQ5.out _
                have g0 : w6.cell? ⟨w1.heap.size, 0, none⟩ = some (.slice (some ⟨b, oo + 2, none⟩) 0 d) := cell_of_row _ _ 0 _ _ _ hrow6
                have HI6 : Hid (HpI w.heap.size w6 w.heap.size hv' rs') := hidn (by rw [hw6]; exact hpi_cell HI5.out hh1 HVG.out)
                have HO6 : Hid (w6.ownsRow w.heap.size 36 2 avv R'.length (vsm R')) := hidn (by rw [hw6]; exact own_cell HO5.out HAVG.out)
                have HB6 : Hid (Below w.heap.size w w6) := hidn (by rw [hw6]; exact HB5.out.setCell (p := ⟨w1.heap.size, 0, none⟩) HBW1.out _)
                have HL7 : Hid (R'.length + tot rs' ≤ N) := hidn (by have := HLN.out; omega)
                have hg7 : tot rs' < gk := by omega
                have hl7 : rs'.length ≤ 45 := by omega
                have HW6 := hidn hw6
                clear hw6 hrow6
                go_wp2_with (at_builtin; rw [← HW4.out]; refine wpList_app_run2 rfl (.tmp 53) (.tmp 55) 25 25 rfl rfl (.slice aj 0 cj) (.slice (some ⟨w3d.heap.size, 0, none⟩) 1 1) _ rfl rfl HR5.out ?_; rw [← HAV.out])
                go_roundg (tot rs')
                case measure => exact hg7
                case rel =>
                  rw [← HW6.out]
                  first | exact ⟨rs', R', hv', Nat.le_refl _, hl7, HM2, HI6, HHP, HIR, HL7, HB6, HO6⟩ | (repeat apply Exists.intro; exact ⟨⟨rs', R', hv', Nat.le_refl _, hl7, HM2, HI6, HHP, HIR, HL7, HB6, HO6⟩, rfl⟩)
            · have hj1 : 0 < j := by omega
              have hd0 : ¬ d = 0 := by omega
              have hj2 : (0 : Int) < (j : Int) := by omega
              have h5b : w5.cell? ⟨w1.heap.size, 0, none⟩ = some (.slice (some ⟨b, oo, none⟩) (j + 1) (d + 1)) := cell_of_row _ _ 0 _ _ _ HQ5.out
              obtain ⟨w6, hw6⟩ : ∃ w6, w6 = w5.setCell ⟨w1.heap.size, 0, none⟩ (.slice (some ⟨b, oo + 2, none⟩) j d) := ⟨_, rfl⟩
              have hrow6 : w6.heap[w1.heap.size]? = some (.cells #[.slice (some ⟨b, oo + 2, none⟩) j d, .int .i64 rk, .int .i64 pl] 70 (0, 0)) := by rw [hw6]; exact block_setCell HQ5.out _
              have g0 : w6.cell? ⟨w1.heap.size, 0, none⟩ = some (.slice (some ⟨b, oo + 2, none⟩) j d) := cell_of_row _ _ 0 _ _ _ hrow6
              have g1 : w6.cell? ⟨w1.heap.size, 1, none⟩ = some (.int .i64 rk) := cell_of_row _ _ 1 _ _ _ hrow6
              have g2 : w6.cell? ⟨w1.heap.size, 2, none⟩ = some (.int .i64 pl) := cell_of_row _ _ 2 _ _ _ hrow6
              have HI6 : Hid (HpI w.heap.size w6 w.heap.size hv' rs') := hidn (by rw [hw6]; exact hpi_cell HI5.out hh1 HVG.out)
              have HO6 : Hid (w6.ownsRow w.heap.size 36 2 avv R'.length (vsm R')) := hidn (by rw [hw6]; exact own_cell HO5.out HAVG.out)
              have HB6 : Hid (Below w.heap.size w w6) := hidn (by rw [hw6]; exact HB5.out.setCell (p := ⟨w1.heap.size, 0, none⟩) HBW1.out _)
              have HMIN := hidn (HMB.out ⟨some ⟨b, oo + 2, none⟩, j, d, rk, pl⟩ rfl rfl hj1)
              have HRN : Hid (IsRn l w ⟨some ⟨b, oo + 2, none⟩, j, d, rk, pl⟩) := hidn (by
                refine ⟨p, x, b, ox, HX.out, HPL.out, HRK.out, hj1, by show j ≤ _; omega, HSA.out, ?_, by show j ≤ d; omega⟩
                show some (⟨b, oo + 2, none⟩ : Addr) = some ⟨b, ox + (x.zs.length - j) * 2, none⟩
                rw [HOO.out, show ox + (x.zs.length - (j + 1)) * 2 + 2 = ox + (x.zs.length - j) * 2 from by omega])
              have HRS6 : Hid (RunsAt (tmR l) w.heap.size w6 (rs' ++ [⟨some ⟨b, oo + 2, none⟩, j, d, rk, pl⟩])) := hidn (fun r hr => by
                refine isrn_at HUP2.out ?_ HB6.out
                rcases List.mem_append.1 hr with hr | hr
                · exact HIR.out r hr
                · rw [List.mem_singleton] at hr; subst hr; exact HRN.out)
              have HPU := hidn (push_any (tmR l) w.heap.size w.heap.size (some ⟨g, 0, none⟩) rs'.length c rs' b (oo + 2) j d rk pl w6 rfl (by omega) (by rw [← HVE.out]; exact HI6.out) HB6.out.size HHP.out HRS6.out)
              have HVE6 := hidn HVE.out
              have HW6 := hidn hw6
              clear hw6 hrow6
              go_wp2_with (at_builtin; rw [← HW4.out]; refine wpList_app_run2 rfl (.tmp 53) (.tmp 55) 25 25 rfl rfl (.slice aj 0 cj) (.slice (some ⟨w3d.heap.size, 0, none⟩) 1 1) _ rfl rfl HR5.out ?_; rw [← HAV.out])
              rw [← HW6.out]
              refine HPU.out.mono ?_
              rintro e w7 ⟨rfl, g7, c7, rs7, hp7, hh7, hi7, hb7, hf7⟩
              have HB7 := hidn (HB6.out.trans hb7)
              have HI7 := hidn hi7
              have HO7 : Hid (w7.ownsRow w.heap.size 36 2 avv R'.length (vsm R')) := hidn (own_fr HO6.out HI6.out.1 HI6.out.2.1 (fun k hk h1 h2 => hf7 k hk h1 (by rw [← HVE6.out]; exact h2)))
              have HM7 : Hid (MI l rs7 R') := hidn (HMIN.out.perm (hp7.trans List.perm_append_comm))
              have HH7 := hidn hh7
              have HIR7 : Hid (∀ r ∈ rs7, IsRn l w r) := hidn (fun r hr => by
                rcases List.mem_append.1 (hp7.mem_iff.1 hr) with hr | hr
                · exact HIR.out r hr
                · rw [List.mem_singleton] at hr; subst hr; exact HRN.out)
              have ht7 : tot rs7 = tot rs' + j := by rw [tot_perm hp7, tot_app]; simp [tot]
              have HL7 : Hid (R'.length + tot rs7 ≤ N) := hidn (by rw [ht7]; have := HLN.out; omega)
              have hg7 : tot rs7 < gk := by rw [ht7]; omega
              have hl7 : rs7.length ≤ 45 := by
                have := hp7.length_eq
                simp at this
                omega
              clear hp7 hh7 hi7 hb7 hf7
              go_wp2_with fail
              go_roundg (tot rs7)
              case measure => exact hg7
              case rel => first | exact ⟨rs7, R', .slice (some ⟨g7, 0, none⟩) rs7.length c7, Nat.le_refl _, hl7, HM7, HI7, HH7, HIR7, HL7, HB7, HO7⟩ | (repeat apply Exists.intro; exact ⟨⟨rs7, R', .slice (some ⟨g7, 0, none⟩) rs7.length c7, Nat.le_refl _, hl7, HM7, HI7, HH7, HIR7, HL7, HB7, HO7⟩, rfl⟩)
          · obtain ⟨q, cj, hu6⟩ := own_some HO3.out (by omega)
            obtain ⟨k, hk⟩ : ∃ k, R.length = k + 1 := ⟨R.length - 1, by omega⟩
            rw [hk] at hu6
            subst hu6
            have HLU := hidn (last_up HUPR.out hk)
            have HRK1 := hidn hk
            have hk5 : k ≤ 100000 := by have := HLN0.out; omega
            have HWK : Hid (IntKind.i64.wrap (k : Int) = (k : Int)) := hidn (by unfold IntKind.wrap IntKind.bits IntKind.signed; simp; omega)
            obtain ⟨lt, hlt⟩ : ∃ lt, lt = (samD R k).t := ⟨_, rfl⟩
            have g0 : w3.cell? ⟨q, k * 2, none⟩ = some (.int .i64 lt) := by
              have z := HO3.out.cells (g := q) rfl (k * 2) _ (vsm_get R k (by omega)).1
              rw [add_none, Nat.zero_add] at z
              rw [hlt]
              exact z
            have HRD : Hid (∀ w', Below w3.heap.size w3 w' → w'.cell? ⟨q, k * 2, none⟩ = some (.int .i64 lt) ∧ w'.cell? ⟨w1.heap.size + 1, 0, none⟩ = some (.int .i64 ts)) := hidn (fun w' hb => ⟨(hb.cell (block_lt_of_cell g0)).trans g0, (hb.cell (block_lt_of_cell f0)).trans f0⟩)
            have HLE := hidn hlt
            clear hlt hk hR0 g0
            by_cases hne : lt = ts
            · have HEX : Hid (∃ y ∈ R, y.t = s.t) := hidn ⟨samD R k, HLU.out.1, by rw [HSV.out.1, ← hne, HLE.out]⟩
              clear HLE
              subst hne
              refine wp_region_noPanic ?_
              refine wp_region_held_drew (S := fun w' => Below w3.heap.size w3 w') (by kernel_rfl) ((Below.refl _ w3).drew) (fun hHeld => ?_)
              refine drawn_take (i := 0) (v := .slice (some ⟨q, 0, none⟩) (k + 1) cj) (some 38) rfl rfl (by kernel_rfl) (by kernel_rfl) (by kernel_rfl) (fun _ _ _ h => h) (Or.inl ⟨by kernel_rfl, fun wq hw => by go_simp⟩) hHeld ?_
              simp only [Act.put, List.setIfInBounds_toArray, List.set_cons_succ, List.set_cons_zero]
              refine drawn_take (i := 1) (v := .int .i64 ((k : Int) + 1)) (some 39) rfl rfl (by kernel_rfl) (by kernel_rfl) (by kernel_rfl) (fun _ _ _ h => h) (Or.inl ⟨by kernel_rfl, fun wq hw => by go_simp⟩) hHeld ?_
              simp only [Act.put, List.setIfInBounds_toArray, List.set_cons_succ, List.set_cons_zero]
              refine drawn_take (i := 2) (v := .bool false) (some 40) rfl rfl (by kernel_rfl) (by kernel_rfl) (by kernel_rfl) (fun _ _ _ h => h) (Or.inl ⟨by kernel_rfl, fun wq hw => by go_simp <;> omega⟩) hHeld ?_
              simp only [Act.put, List.setIfInBounds_toArray, List.set_cons_succ, List.set_cons_zero]
              refine drawn_take (i := 3) (v := .bool false) (some 41) rfl rfl (by kernel_rfl) (by kernel_rfl) (by kernel_rfl) (fun _ _ _ h => h) (Or.inl ⟨by kernel_rfl, fun wq hw => by go_simp⟩) hHeld ?_
              simp only [Act.put, List.setIfInBounds_toArray, List.set_cons_succ, List.set_cons_zero]
              refine drawn_take (i := 4) (v := .slice (some ⟨q, 0, none⟩) (k + 1) cj) (some 42) rfl rfl (by kernel_rfl) (by kernel_rfl) (by kernel_rfl) (fun _ _ _ h => h) (Or.inl ⟨by kernel_rfl, fun wq hw => by go_simp⟩) hHeld ?_
              simp only [Act.put, List.setIfInBounds_toArray, List.set_cons_succ, List.set_cons_zero]
              refine drawn_take (i := 5) (v := .slice (some ⟨q, 0, none⟩) (k + 1) cj) (some 43) rfl rfl (by kernel_rfl) (by kernel_rfl) (by kernel_rfl) (fun _ _ _ h => h) (Or.inl ⟨by kernel_rfl, fun wq hw => by go_simp⟩) hHeld ?_
              simp only [Act.put, List.setIfInBounds_toArray, List.set_cons_succ, List.set_cons_zero]
              refine drawn_take (i := 6) (v := .int .i64 ((k : Int) + 1)) (some 44) rfl rfl (by kernel_rfl) (by kernel_rfl) (by kernel_rfl) (fun _ _ _ h => h) (Or.inl ⟨by kernel_rfl, fun wq hw => by go_simp⟩) hHeld ?_
              simp only [Act.put, List.setIfInBounds_toArray, List.set_cons_succ, List.set_cons_zero]
              refine drawn_take (i := 7) (v := .int .i64 (k : Int)) (some 45) rfl rfl (by kernel_rfl) (by kernel_rfl) (by kernel_rfl) (fun _ _ _ h => h) (Or.inl ⟨by kernel_rfl, fun wq hw => by go_simp; exact HWK.out⟩) hHeld ?_
              simp only [Act.put, List.setIfInBounds_toArray, List.set_cons_succ, List.set_cons_zero]
              refine drawn_take (i := 8) (v := .pointer (some ⟨q, k * 2, none⟩)) (some 46) rfl rfl (by kernel_rfl) (by kernel_rfl) (by kernel_rfl) (fun _ _ _ h => h) (Or.inl ⟨by kernel_rfl, fun wq hw => by go_simp <;> (intro h8; exfalso; omega)⟩) hHeld ?_
              simp only [Act.put, List.setIfInBounds_toArray, List.set_cons_succ, List.set_cons_zero]
              refine drawn_take (i := 9) (v := .pointer (some ⟨q, k * 2, none⟩)) (some 47) rfl rfl (by kernel_rfl) (by kernel_rfl) (by kernel_rfl) (fun _ _ _ h => h) (Or.inl ⟨by kernel_rfl, fun wq hw => by go_simp⟩) hHeld ?_
              simp only [Act.put, List.setIfInBounds_toArray, List.set_cons_succ, List.set_cons_zero]
              refine drawn_take (i := 10) (v := .int .i64 lt) (some 48) rfl rfl (by kernel_rfl) (by kernel_rfl) (by kernel_rfl) (fun _ _ _ h => h) (Or.inl ⟨by kernel_rfl, fun wq hw => by obtain ⟨q1, q2⟩ := HRD.out _ hw; go_simp⟩) hHeld ?_
              simp only [Act.put, List.setIfInBounds_toArray, List.set_cons_succ, List.set_cons_zero]
              refine drawn_take (i := 11) (v := .pointer (some ⟨w1.heap.size + 1, 0, none⟩)) (some 49) rfl rfl (by kernel_rfl) (by kernel_rfl) (by kernel_rfl) (fun _ _ _ h => h) (Or.inl ⟨by kernel_rfl, fun wq hw => by go_simp⟩) hHeld ?_
              simp only [Act.put, List.setIfInBounds_toArray, List.set_cons_succ, List.set_cons_zero]
              refine drawn_take (i := 12) (v := .int .i64 lt) (some 50) rfl rfl (by kernel_rfl) (by kernel_rfl) (by kernel_rfl) (fun _ _ _ h => h) (Or.inl ⟨by kernel_rfl, fun wq hw => by obtain ⟨q1, q2⟩ := HRD.out _ hw; go_simp⟩) hHeld ?_
              simp only [Act.put, List.setIfInBounds_toArray, List.set_cons_succ, List.set_cons_zero]
              refine drawn_take (i := 13) (v := .bool false) (some 51) rfl rfl (by kernel_rfl) (by kernel_rfl) (by kernel_rfl) (fun _ _ _ h => h) (Or.inl ⟨by kernel_rfl, fun wq hw => by go_simp <;> omega⟩) hHeld ?_
              simp only [Act.put, List.setIfInBounds_toArray, List.set_cons_succ, List.set_cons_zero]
              refine drawn_take (i := 14) (v := .bool false) (some 52) rfl rfl (by kernel_rfl) (by kernel_rfl) (by kernel_rfl) (fun _ _ _ h => h) (Or.inl ⟨by kernel_rfl, fun wq hw => by go_simp⟩) hHeld ?_
              simp only [Act.put, List.setIfInBounds_toArray, List.set_cons_succ, List.set_cons_zero]
              refine wpAnyH_done (by kernel_rfl) ?_ _
              refine NoPanic.normal ?_
              clear hHeld
              obtain ⟨w5, hw5⟩ : ∃ w5, w5 = w3.drew := ⟨_, rfl⟩
              rw [← hw5]
              have b5 : Below w3.heap.size w3 w5 := by rw [hw5]; exact (Below.refl _ w3).drew
              have HB5 : Hid (Below w.heap.size w w5) := hidn (HB3.out.trans (b5.mono HB3.out.size))
              have HQ5 : Hid (w5.heap[w1.heap.size]? = some (.cells #[.slice (some ⟨b, oo, none⟩) (j + 1) (d + 1), .int .i64 rk, .int .i64 pl] 70 (0, 0))) := hidn ((b5.block _ (Array.getElem?_eq_some_iff.1 HQ3.out).1).trans HQ3.out)
              have HI5 := hidn (HI3.out.below b5)
              have HO5 := hidn (own_skip HO3.out b5)
              obtain ⟨R', hR'⟩ : ∃ R', R' = R := ⟨_, rfl⟩
              rw [← hR'] at HO5
              obtain ⟨avv, havv⟩ : ∃ avv : Value, avv = .slice (some ⟨q, 0, none⟩) (k + 1) cj := ⟨_, rfl⟩
              rw [← havv] at HO5 ⊢
              have HAVG : Hid (some w1.heap.size ≠ avv.ownBlock) := hidn (own_ne HO5.out HQ5.out (by decide))
              have HLN : Hid (R'.length + (tot rs' + (j + 1)) ≤ N) := hidn (by rw [hR']; have := HLN0.out; omega)
              have HRR : Hid ((R' = R ∧ ∃ y ∈ R, y.t = s.t) ∨ (R' = R ++ [s] ∧ ∀ y ∈ R, y.t < s.t)) := hidn (.inl ⟨hR', HEX.out⟩)
              clear hw5 b5 hR' havv
              obtain ⟨MA, MB⟩ := mi_pop (R' := R') HMM.out HX.out HPL.out HRK.out hl0 hl1 HUP.out HMIN.out HRUNS.out HSE.out HRR.out
              have h5c : w5.cell? ⟨w1.heap.size, 1, none⟩ = some (.int .i64 rk) := cell_of_row _ _ 1 _ _ _ HQ5.out
              have h5d : w5.cell? ⟨w1.heap.size, 2, none⟩ = some (.int .i64 pl) := cell_of_row _ _ 2 _ _ _ HQ5.out
              have h5f := unfrozen_of_block HQ5.out 0
              have hh1 : w.heap.size ≠ w1.heap.size := by have := (Array.getElem?_eq_some_iff.1 HI1.out.1).1; omega
              have HMA := hidn MA
              have HMB := hidn MB
              clear MA MB
              by_cases hj0 : j = 0
              · subst hj0
                have HM2 := hidn (HMA.out rfl)
                by_cases hd0 : d = 0
                · subst hd0
                  have h5b : w5.cell? ⟨w1.heap.size, 0, none⟩ = some (.slice (some ⟨b, oo, none⟩) 1 1) := cell_of_row _ _ 0 _ _ _ HQ5.out
                  obtain ⟨w6, hw6⟩ : ∃ w6, w6 = w5.setCell ⟨w1.heap.size, 0, none⟩ (.slice (some ⟨b, oo, none⟩) 0 0) := ⟨_, rfl⟩
                  have hrow6 : w6.heap[w1.heap.size]? = some (.cells #[.slice (some ⟨b, oo, none⟩) 0 0, .int .i64 rk, .int .i64 pl] 70 (0, 0)) := by rw [hw6]; exact block_setCell HQ5.out _
                  have g0 : w6.cell? ⟨w1.heap.size, 0, none⟩ = some (.slice (some ⟨b, oo, none⟩) 0 0) := cell_of_row _ _ 0 _ _ _ hrow6
                  have HI6 : Hid (HpI w.heap.size w6 w.heap.size hv' rs') := hidn (by rw [hw6]; exact hpi_cell HI5.out hh1 HVG.out)
                  have HO6 : Hid (w6.ownsRow w.heap.size 36 2 avv R'.length (vsm R')) := hidn (by rw [hw6]; exact own_cell HO5.out HAVG.out)
                  have HB6 : Hid (Below w.heap.size w w6) := hidn (by rw [hw6]; exact HB5.out.setCell (p := ⟨w1.heap.size, 0, none⟩) HBW1.out _)
                  have HL7 : Hid (R'.length + tot rs' ≤ N) := hidn (by have := HLN.out; omega)
                  have hg7 : tot rs' < gk := by omega
                  have hl7 : rs'.length ≤ 45 := by omega
                  have HW6 := hidn hw6
                  clear hw6 hrow6
                  go_wp2_with fail
                  go_roundg (tot rs')
                  case measure => exact hg7
                  case rel =>
                    rw [← HW6.out]
                    first | exact ⟨rs', R', hv', Nat.le_refl _, hl7, HM2, HI6, HHP, HIR, HL7, HB6, HO6⟩ | (repeat apply Exists.intro; exact ⟨⟨rs', R', hv', Nat.le_refl _, hl7, HM2, HI6, HHP, HIR, HL7, HB6, HO6⟩, rfl⟩)
                · have h5b : w5.cell? ⟨w1.heap.size, 0, none⟩ = some (.slice (some ⟨b, oo, none⟩) 1 (d + 1)) := cell_of_row _ _ 0 _ _ _ HQ5.out
                  obtain ⟨w6, hw6⟩ : ∃ w6, w6 = w5.setCell ⟨w1.heap.size, 0, none⟩ (.slice (some ⟨b, oo + 2, none⟩) 0 d) := ⟨_, rfl⟩
                  have hrow6 : w6.heap[w1.heap.size]? = some (.cells #[.slice (some ⟨b, oo + 2, none⟩) 0 d, .int .i64 rk, .int .i64 pl] 70 (0, 0)) := by rw [hw6]; exact block_setCell HQ5.out _
                  have g0 : w6.cell? ⟨w1.heap.size, 0, none⟩ = some (.slice (some ⟨b, oo + 2, none⟩) 0 d) := cell_of_row _ _ 0 _ _ _ hrow6
                  have HI6 : Hid (HpI w.heap.size w6 w.heap.size hv' rs') := hidn (by rw [hw6]; exact hpi_cell HI5.out hh1 HVG.out)
                  have HO6 : Hid (w6.ownsRow w.heap.size 36 2 avv R'.length (vsm R')) := hidn (by rw [hw6]; exact own_cell HO5.out HAVG.out)
                  have HB6 : Hid (Below w.heap.size w w6) := hidn (by rw [hw6]; exact HB5.out.setCell (p := ⟨w1.heap.size, 0, none⟩) HBW1.out _)
                  have HL7 : Hid (R'.length + tot rs' ≤ N) := hidn (by have := HLN.out; omega)
                  have hg7 : tot rs' < gk := by omega
                  have hl7 : rs'.length ≤ 45 := by omega
                  have HW6 := hidn hw6
                  clear hw6 hrow6
                  go_wp2_with fail
                  go_roundg (tot rs')
                  case measure => exact hg7
                  case rel =>
                    rw [← HW6.out]
                    first | exact ⟨rs', R', hv', Nat.le_refl _, hl7, HM2, HI6, HHP, HIR, HL7, HB6, HO6⟩ | (repeat apply Exists.intro; exact ⟨⟨rs', R', hv', Nat.le_refl _, hl7, HM2, HI6, HHP, HIR, HL7, HB6, HO6⟩, rfl⟩)
              · have hj1 : 0 < j := by omega
                have hd0 : ¬ d = 0 := by omega
                have hj2 : (0 : Int) < (j : Int) := by omega
                have h5b : w5.cell? ⟨w1.heap.size, 0, none⟩ = some (.slice (some ⟨b, oo, none⟩) (j + 1) (d + 1)) := cell_of_row _ _ 0 _ _ _ HQ5.out
                obtain ⟨w6, hw6⟩ : ∃ w6, w6 = w5.setCell ⟨w1.heap.size, 0, none⟩ (.slice (some ⟨b, oo + 2, none⟩) j d) := ⟨_, rfl⟩
                have hrow6 : w6.heap[w1.heap.size]? = some (.cells #[.slice (some ⟨b, oo + 2, none⟩) j d, .int .i64 rk, .int .i64 pl] 70 (0, 0)) := by rw [hw6]; exact block_setCell HQ5.out _
                have g0 : w6.cell? ⟨w1.heap.size, 0, none⟩ = some (.slice (some ⟨b, oo + 2, none⟩) j d) := cell_of_row _ _ 0 _ _ _ hrow6
                have g1 : w6.cell? ⟨w1.heap.size, 1, none⟩ = some (.int .i64 rk) := cell_of_row _ _ 1 _ _ _ hrow6
                have g2 : w6.cell? ⟨w1.heap.size, 2, none⟩ = some (.int .i64 pl) := cell_of_row _ _ 2 _ _ _ hrow6
                have HI6 : Hid (HpI w.heap.size w6 w.heap.size hv' rs') := hidn (by rw [hw6]; exact hpi_cell HI5.out hh1 HVG.out)
                have HO6 : Hid (w6.ownsRow w.heap.size 36 2 avv R'.length (vsm R')) := hidn (by rw [hw6]; exact own_cell HO5.out HAVG.out)
                have HB6 : Hid (Below w.heap.size w w6) := hidn (by rw [hw6]; exact HB5.out.setCell (p := ⟨w1.heap.size, 0, none⟩) HBW1.out _)
                have HMIN := hidn (HMB.out ⟨some ⟨b, oo + 2, none⟩, j, d, rk, pl⟩ rfl rfl hj1)
                have HRN : Hid (IsRn l w ⟨some ⟨b, oo + 2, none⟩, j, d, rk, pl⟩) := hidn (by
                  refine ⟨p, x, b, ox, HX.out, HPL.out, HRK.out, hj1, by show j ≤ _; omega, HSA.out, ?_, by show j ≤ d; omega⟩
                  show some (⟨b, oo + 2, none⟩ : Addr) = some ⟨b, ox + (x.zs.length - j) * 2, none⟩
                  rw [HOO.out, show ox + (x.zs.length - (j + 1)) * 2 + 2 = ox + (x.zs.length - j) * 2 from by omega])
                have HRS6 : Hid (RunsAt (tmR l) w.heap.size w6 (rs' ++ [⟨some ⟨b, oo + 2, none⟩, j, d, rk, pl⟩])) := hidn (fun r hr => by
                  refine isrn_at HUP2.out ?_ HB6.out
                  rcases List.mem_append.1 hr with hr | hr
                  · exact HIR.out r hr
                  · rw [List.mem_singleton] at hr; subst hr; exact HRN.out)
                have HPU := hidn (push_any (tmR l) w.heap.size w.heap.size (some ⟨g, 0, none⟩) rs'.length c rs' b (oo + 2) j d rk pl w6 rfl (by omega) (by rw [← HVE.out]; exact HI6.out) HB6.out.size HHP.out HRS6.out)
                have HVE6 := hidn HVE.out
                have HW6 := hidn hw6
                clear hw6 hrow6
                go_wp2_with fail
                rw [← HW6.out]
                refine HPU.out.mono ?_
                rintro e w7 ⟨rfl, g7, c7, rs7, hp7, hh7, hi7, hb7, hf7⟩
                have HB7 := hidn (HB6.out.trans hb7)
                have HI7 := hidn hi7
                have HO7 : Hid (w7.ownsRow w.heap.size 36 2 avv R'.length (vsm R')) := hidn (own_fr HO6.out HI6.out.1 HI6.out.2.1 (fun k hk h1 h2 => hf7 k hk h1 (by rw [← HVE6.out]; exact h2)))
                have HM7 : Hid (MI l rs7 R') := hidn (HMIN.out.perm (hp7.trans List.perm_append_comm))
                have HH7 := hidn hh7
                have HIR7 : Hid (∀ r ∈ rs7, IsRn l w r) := hidn (fun r hr => by
                  rcases List.mem_append.1 (hp7.mem_iff.1 hr) with hr | hr
                  · exact HIR.out r hr
                  · rw [List.mem_singleton] at hr; subst hr; exact HRN.out)
                have ht7 : tot rs7 = tot rs' + j := by rw [tot_perm hp7, tot_app]; simp [tot]
                have HL7 : Hid (R'.length + tot rs7 ≤ N) := hidn (by rw [ht7]; have := HLN.out; omega)
                have hg7 : tot rs7 < gk := by rw [ht7]; omega
                have hl7 : rs7.length ≤ 45 := by
                  have := hp7.length_eq
                  simp at this
                  omega
                clear hp7 hh7 hi7 hb7 hf7
                go_wp2_with fail
                go_roundg (tot rs7)
                case measure => exact hg7
                case rel => first | exact ⟨rs7, R', .slice (some ⟨g7, 0, none⟩) rs7.length c7, Nat.le_refl _, hl7, HM7, HI7, HH7, HIR7, HL7, HB7, HO7⟩ | (repeat apply Exists.intro; exact ⟨⟨rs7, R', .slice (some ⟨g7, 0, none⟩) rs7.length c7, Nat.le_refl _, hl7, HM7, HI7, HH7, HIR7, HL7, HB7, HO7⟩, rfl⟩)
            · have HLTS : Hid (∀ y ∈ R, y.t < s.t) := hidn (fun y hy => by
                have h1 := HLU.out.2 y hy
                have h2 := HLOW.out _ HLU.out.1
                rw [← HLE.out] at h1 h2
                rw [HSV.out.1]
                omega)
              refine wp_region_noPanic ?_
              refine wp_region_held_drew (S := fun w' => Below w3.heap.size w3 w') (by kernel_rfl) ((Below.refl _ w3).drew) (fun hHeld => ?_)
              refine drawn_take (i := 0) (v := .slice (some ⟨q, 0, none⟩) (k + 1) cj) (some 38) rfl rfl (by kernel_rfl) (by kernel_rfl) (by kernel_rfl) (fun _ _ _ h => h) (Or.inl ⟨by kernel_rfl, fun wq hw => by go_simp⟩) hHeld ?_
              simp only [Act.put, List.setIfInBounds_toArray, List.set_cons_succ, List.set_cons_zero]
              refine drawn_take (i := 1) (v := .int .i64 ((k : Int) + 1)) (some 39) rfl rfl (by kernel_rfl) (by kernel_rfl) (by kernel_rfl) (fun _ _ _ h => h) (Or.inl ⟨by kernel_rfl, fun wq hw => by go_simp⟩) hHeld ?_
              simp only [Act.put, List.setIfInBounds_toArray, List.set_cons_succ, List.set_cons_zero]
              refine drawn_take (i := 2) (v := .bool false) (some 40) rfl rfl (by kernel_rfl) (by kernel_rfl) (by kernel_rfl) (fun _ _ _ h => h) (Or.inl ⟨by kernel_rfl, fun wq hw => by go_simp <;> omega⟩) hHeld ?_
              simp only [Act.put, List.setIfInBounds_toArray, List.set_cons_succ, List.set_cons_zero]
              refine drawn_take (i := 3) (v := .bool false) (some 41) rfl rfl (by kernel_rfl) (by kernel_rfl) (by kernel_rfl) (fun _ _ _ h => h) (Or.inl ⟨by kernel_rfl, fun wq hw => by go_simp⟩) hHeld ?_
              simp only [Act.put, List.setIfInBounds_toArray, List.set_cons_succ, List.set_cons_zero]
              refine drawn_take (i := 4) (v := .slice (some ⟨q, 0, none⟩) (k + 1) cj) (some 42) rfl rfl (by kernel_rfl) (by kernel_rfl) (by kernel_rfl) (fun _ _ _ h => h) (Or.inl ⟨by kernel_rfl, fun wq hw => by go_simp⟩) hHeld ?_
              simp only [Act.put, List.setIfInBounds_toArray, List.set_cons_succ, List.set_cons_zero]
              refine drawn_take (i := 5) (v := .slice (some ⟨q, 0, none⟩) (k + 1) cj) (some 43) rfl rfl (by kernel_rfl) (by kernel_rfl) (by kernel_rfl) (fun _ _ _ h => h) (Or.inl ⟨by kernel_rfl, fun wq hw => by go_simp⟩) hHeld ?_
              simp only [Act.put, List.setIfInBounds_toArray, List.set_cons_succ, List.set_cons_zero]
              refine drawn_take (i := 6) (v := .int .i64 ((k : Int) + 1)) (some 44) rfl rfl (by kernel_rfl) (by kernel_rfl) (by kernel_rfl) (fun _ _ _ h => h) (Or.inl ⟨by kernel_rfl, fun wq hw => by go_simp⟩) hHeld ?_
              simp only [Act.put, List.setIfInBounds_toArray, List.set_cons_succ, List.set_cons_zero]
              refine drawn_take (i := 7) (v := .int .i64 (k : Int)) (some 45) rfl rfl (by kernel_rfl) (by kernel_rfl) (by kernel_rfl) (fun _ _ _ h => h) (Or.inl ⟨by kernel_rfl, fun wq hw => by go_simp; exact HWK.out⟩) hHeld ?_
              simp only [Act.put, List.setIfInBounds_toArray, List.set_cons_succ, List.set_cons_zero]
              refine drawn_take (i := 8) (v := .pointer (some ⟨q, k * 2, none⟩)) (some 46) rfl rfl (by kernel_rfl) (by kernel_rfl) (by kernel_rfl) (fun _ _ _ h => h) (Or.inl ⟨by kernel_rfl, fun wq hw => by go_simp <;> (intro h8; exfalso; omega)⟩) hHeld ?_
              simp only [Act.put, List.setIfInBounds_toArray, List.set_cons_succ, List.set_cons_zero]
              refine drawn_take (i := 9) (v := .pointer (some ⟨q, k * 2, none⟩)) (some 47) rfl rfl (by kernel_rfl) (by kernel_rfl) (by kernel_rfl) (fun _ _ _ h => h) (Or.inl ⟨by kernel_rfl, fun wq hw => by go_simp⟩) hHeld ?_
              simp only [Act.put, List.setIfInBounds_toArray, List.set_cons_succ, List.set_cons_zero]
              refine drawn_take (i := 10) (v := .int .i64 lt) (some 48) rfl rfl (by kernel_rfl) (by kernel_rfl) (by kernel_rfl) (fun _ _ _ h => h) (Or.inl ⟨by kernel_rfl, fun wq hw => by obtain ⟨q1, q2⟩ := HRD.out _ hw; go_simp⟩) hHeld ?_
              simp only [Act.put, List.setIfInBounds_toArray, List.set_cons_succ, List.set_cons_zero]
              refine drawn_take (i := 11) (v := .pointer (some ⟨w1.heap.size + 1, 0, none⟩)) (some 49) rfl rfl (by kernel_rfl) (by kernel_rfl) (by kernel_rfl) (fun _ _ _ h => h) (Or.inl ⟨by kernel_rfl, fun wq hw => by go_simp⟩) hHeld ?_
              simp only [Act.put, List.setIfInBounds_toArray, List.set_cons_succ, List.set_cons_zero]
              refine drawn_take (i := 12) (v := .int .i64 ts) (some 50) rfl rfl (by kernel_rfl) (by kernel_rfl) (by kernel_rfl) (fun _ _ _ h => h) (Or.inl ⟨by kernel_rfl, fun wq hw => by obtain ⟨q1, q2⟩ := HRD.out _ hw; go_simp⟩) hHeld ?_
              simp only [Act.put, List.setIfInBounds_toArray, List.set_cons_succ, List.set_cons_zero]
              refine drawn_take (i := 13) (v := .bool true) (some 51) rfl rfl (by kernel_rfl) (by kernel_rfl) (by kernel_rfl) (fun _ _ _ h => h) (Or.inl ⟨by kernel_rfl, fun wq hw => by go_simp <;> omega⟩) hHeld ?_
              simp only [Act.put, List.setIfInBounds_toArray, List.set_cons_succ, List.set_cons_zero]
              refine drawn_take (i := 14) (v := .bool true) (some 52) rfl rfl (by kernel_rfl) (by kernel_rfl) (by kernel_rfl) (fun _ _ _ h => h) (Or.inl ⟨by kernel_rfl, fun wq hw => by go_simp⟩) hHeld ?_
              simp only [Act.put, List.setIfInBounds_toArray, List.set_cons_succ, List.set_cons_zero]
              refine wpAnyH_done (by kernel_rfl) ?_ _
              refine NoPanic.normal ?_
              clear hHeld
              obtain ⟨w3d, hw3d⟩ : ∃ w3d, w3d = w3.drew := ⟨_, rfl⟩
              rw [← hw3d]
              have b3d : Below w3.heap.size w3 w3d := by rw [hw3d]; exact (Below.refl _ w3).drew
              have q3d := (b3d.block _ (Array.getElem?_eq_some_iff.1 HQ8.out).1).trans HQ8.out
              have z0 : w3d.cell? ⟨w1.heap.size + 1, 0, none⟩ = some (.int .i64 ts) := cell_of_row _ _ _ _ _ _ q3d
              have z1 : w3d.cell? ⟨w1.heap.size + 1, 1, none⟩ = some (.int .u64 (vs : Int)) := cell_of_row _ _ _ _ _ _ q3d
              obtain ⟨w4, hw4⟩ : ∃ w4, w4 = w3d.alloc (.cells #[.int .i64 ts, .int .u64 (vs : Int)] 36) := ⟨_, rfl⟩
              have b4 : Below w3d.heap.size w3d w4 := by rw [hw4]; exact (Below.refl _ w3d).alloc (Nat.le_refl _) _
              have q4 : w4.heap[w3d.heap.size]? = some (.cells #[.int .i64 ts, .int .u64 (vs : Int)] 36 (0, 0)) := by rw [hw4]; exact heap_alloc_new w3d _
              have b34 : Below w3.heap.size w3 w4 := b3d.trans (b4.mono b3d.size)
              have ho4 := own_skip HO3.out b34
              obtain ⟨g5, c5, w5, hr5, ho5, hg5⟩ := app_sam1 ho4 (Nat.le_trans HB3.out.size b34.size) (by have := HLN0.out; omega) s ⟨w3d.heap.size, 0, none⟩ (by rw [HSV.out.1]; exact cell_of_row _ _ _ _ _ _ q4) (by rw [HSV.out.2]; exact cell_of_row _ _ 1 _ _ _ q4)
              have HB5 : Hid (Below w.heap.size w w5) := hidn ((HB3.out.trans (b34.mono HB3.out.size)).grown hg5 (Nat.le_trans HB3.out.size b34.size) (fun k hk => (ho4.lt k hk).1))
              have HQ5 : Hid (w5.heap[w1.heap.size]? = some (.cells #[.slice (some ⟨b, oo, none⟩) (j + 1) (d + 1), .int .i64 rk, .int .i64 pl] 70 (0, 0))) := hidn (by
                have qq := (b34.block _ (Array.getElem?_eq_some_iff.1 HQ3.out).1).trans HQ3.out
                exact (hg5.block _ (Array.getElem?_eq_some_iff.1 qq).1 (own_ne ho4 qq (by decide))).trans qq)
              have HI5 := hidn (hpi_fr (HI3.out.below b34) ho4 (fun k hk h1 => hg5.block k hk h1))
              obtain ⟨R', hR'⟩ : ∃ R', R' = R ++ [s] := ⟨_, rfl⟩
              have hRl : R'.length = R.length + 1 := by rw [hR']; simp
              obtain ⟨avv, havv⟩ : ∃ avv : Value, avv = .slice (some ⟨g5, 0, none⟩) (R.length + 1) c5 := ⟨_, rfl⟩
              have HO5 : Hid (w5.ownsRow w.heap.size 36 2 avv R'.length (vsm R')) := hidn (by rw [havv, hRl, hR']; exact ho5)
              have HAVG : Hid (some w1.heap.size ≠ avv.ownBlock) := hidn (own_ne HO5.out HQ5.out (by decide))
              have HLN : Hid (R'.length + (tot rs' + j) ≤ N) := hidn (by rw [hRl]; have := HLN0.out; omega)
              have HLN := hidn (show R'.length + (tot rs' + j) ≤ N from HLN.out)
              have HRR : Hid ((R' = R ∧ ∃ y ∈ R, y.t = s.t) ∨ (R' = R ++ [s] ∧ ∀ y ∈ R, y.t < s.t)) := hidn (.inr ⟨hR', HLTS.out⟩)
              have HR5 := hidn hr5
              have HW4 := hidn hw4
              have HAV := hidn havv
              clear hw3d b3d q3d hw4 b4 q4 b34 ho4 hr5 ho5 hg5 hR' hRl havv
              obtain ⟨MA, MB⟩ := mi_pop (R' := R') HMM.out HX.out HPL.out HRK.out hl0 hl1 HUP.out HMIN.out HRUNS.out HSE.out HRR.out
              have h5c : w5.cell? ⟨w1.heap.size, 1, none⟩ = some (.int .i64 rk) := cell_of_row _ _ 1 _ _ _ HQ5.out
              have h5d : w5.cell? ⟨w1.heap.size, 2, none⟩ = some (.int .i64 pl) := cell_of_row _ _ 2 _ _ _ HQ5.out
              have h5f := unfrozen_of_block HQ5.out 0
              have hh1 : w.heap.size ≠ w1.heap.size := by have := (Array.getElem?_eq_some_iff.1 HI1.out.1).1; omega
              have HMA := hidn MA
              have HMB := hidn MB
              clear MA MB
              by_cases hj0 : j = 0
              · subst hj0
                have HM2 := hidn (HMA.out rfl)
                by_cases hd0 : d = 0
                · subst hd0
                  have h5b : w5.cell? ⟨w1.heap.size, 0, none⟩ = some (.slice (some ⟨b, oo, none⟩) 1 1) := cell_of_row _ _ 0 _ _ _ HQ5.out
                  obtain ⟨w6, hw6⟩ : ∃ w6, w6 = w5.setCell ⟨w1.heap.size, 0, none⟩ (.slice (some ⟨b, oo, none⟩) 0 0) := ⟨_, rfl⟩
                  have hrow6 : w6.heap[w1.heap.size]? = some (.cells #[.slice (some ⟨b, oo, none⟩) 0 0, .int .i64 rk, .int .i64 pl] 70 (0, 0)) := by rw [hw6]; exact block_setCell HQ5.out _
                  have g0 : w6.cell? ⟨w1.heap.size, 0, none⟩ = some (.slice (some ⟨b, oo, none⟩) 0 0) := cell_of_row _ _ 0 _ _ _ hrow6
                  have HI6 : Hid (HpI w.heap.size w6 w.heap.size hv' rs') := hidn (by rw [hw6]; exact hpi_cell HI5.out hh1 HVG.out)
                  have HO6 : Hid (w6.ownsRow w.heap.size 36 2 avv R'.length (vsm R')) := hidn (by rw [hw6]; exact own_cell HO5.out HAVG.out)
                  have HB6 : Hid (Below w.heap.size w w6) := hidn (by rw [hw6]; exact HB5.out.setCell (p := ⟨w1.heap.size, 0, none⟩) HBW1.out _)
                  have HL7 : Hid (R'.length + tot rs' ≤ N) := hidn (by have := HLN.out; omega)
                  have hg7 : tot rs' < gk := by omega
                  have hl7 : rs'.length ≤ 45 := by omega
                  have HW6 := hidn hw6
                  clear hw6 hrow6
                  go_wp2_with (at_builtin; rw [← HW4.out]; refine wpList_app_run2 rfl (.tmp 53) (.tmp 55) 25 25 rfl rfl (.slice (some ⟨q, 0, none⟩) (k + 1) cj) (.slice (some ⟨w3d.heap.size, 0, none⟩) 1 1) _ rfl rfl HR5.out ?_; rw [← HAV.out])
                  go_roundg (tot rs')
                  case measure => exact hg7
                  case rel =>
                    rw [← HW6.out]
                    first | exact ⟨rs', R', hv', Nat.le_refl _, hl7, HM2, HI6, HHP, HIR, HL7, HB6, HO6⟩ | (repeat apply Exists.intro; exact ⟨⟨rs', R', hv', Nat.le_refl _, hl7, HM2, HI6, HHP, HIR, HL7, HB6, HO6⟩, rfl⟩)
                · have h5b : w5.cell? ⟨w1.heap.size, 0, none⟩ = some (.slice (some ⟨b, oo, none⟩) 1 (d + 1)) := cell_of_row _ _ 0 _ _ _ HQ5.out
                  obtain ⟨w6, hw6⟩ : ∃ w6, w6 = w5.setCell ⟨w1.heap.size, 0, none⟩ (.slice (some ⟨b, oo + 2, none⟩) 0 d) := ⟨_, rfl⟩
                  have hrow6 : w6.heap[w1.heap.size]? = some (.cells #[.slice (some ⟨b, oo + 2, none⟩) 0 d, .int .i64 rk, .int .i64 pl] 70 (0, 0)) := by rw [hw6]; exact block_setCell HQ5.out _
                  have g0 : w6.cell? ⟨w1.heap.size, 0, none⟩ = some (.slice (some ⟨b, oo + 2, none⟩) 0 d) := cell_of_row _ _ 0 _ _ _ hrow6
                  have HI6 : Hid (HpI w.heap.size w6 w.heap.size hv' rs') := hidn (by rw [hw6]; exact hpi_cell HI5.out hh1 HVG.out)
                  have HO6 : Hid (w6.ownsRow w.heap.size 36 2 avv R'.length (vsm R')) := hidn (by rw [hw6]; exact own_cell HO5.out HAVG.out)
                  have HB6 : Hid (Below w.heap.size w w6) := hidn (by rw [hw6]; exact HB5.out.setCell (p := ⟨w1.heap.size, 0, none⟩) HBW1.out _)
                  have HL7 : Hid (R'.length + tot rs' ≤ N) := hidn (by have := HLN.out; omega)
                  have hg7 : tot rs' < gk := by omega
                  have hl7 : rs'.length ≤ 45 := by omega
                  have HW6 := hidn hw6
                  clear hw6 hrow6
                  go_wp2_with (at_builtin; rw [← HW4.out]; refine wpList_app_run2 rfl (.tmp 53) (.tmp 55) 25 25 rfl rfl (.slice (some ⟨q, 0, none⟩) (k + 1) cj) (.slice (some ⟨w3d.heap.size, 0, none⟩) 1 1) _ rfl rfl HR5.out ?_; rw [← HAV.out])
                  go_roundg (tot rs')
                  case measure => exact hg7
                  case rel =>
                    rw [← HW6.out]
                    first | exact ⟨rs', R', hv', Nat.le_refl _, hl7, HM2, HI6, HHP, HIR, HL7, HB6, HO6⟩ | (repeat apply Exists.intro; exact ⟨⟨rs', R', hv', Nat.le_refl _, hl7, HM2, HI6, HHP, HIR, HL7, HB6, HO6⟩, rfl⟩)
              · have hj1 : 0 < j := by omega
                have hd0 : ¬ d = 0 := by omega
                have hj2 : (0 : Int) < (j : Int) := by omega
                have h5b : w5.cell? ⟨w1.heap.size, 0, none⟩ = some (.slice (some ⟨b, oo, none⟩) (j + 1) (d + 1)) := cell_of_row _ _ 0 _ _ _ HQ5.out
                obtain ⟨w6, hw6⟩ : ∃ w6, w6 = w5.setCell ⟨w1.heap.size, 0, none⟩ (.slice (some ⟨b, oo + 2, none⟩) j d) := ⟨_, rfl⟩
                have hrow6 : w6.heap[w1.heap.size]? = some (.cells #[.slice (some ⟨b, oo + 2, none⟩) j d, .int .i64 rk, .int .i64 pl] 70 (0, 0)) := by rw [hw6]; exact block_setCell HQ5.out _
                have g0 : w6.cell? ⟨w1.heap.size, 0, none⟩ = some (.slice (some ⟨b, oo + 2, none⟩) j d) := cell_of_row _ _ 0 _ _ _ hrow6
                have g1 : w6.cell? ⟨w1.heap.size, 1, none⟩ = some (.int .i64 rk) := cell_of_row _ _ 1 _ _ _ hrow6
                have g2 : w6.cell? ⟨w1.heap.size, 2, none⟩ = some (.int .i64 pl) := cell_of_row _ _ 2 _ _ _ hrow6
                have HI6 : Hid (HpI w.heap.size w6 w.heap.size hv' rs') := hidn (by rw [hw6]; exact hpi_cell HI5.out hh1 HVG.out)
                have HO6 : Hid (w6.ownsRow w.heap.size 36 2 avv R'.length (vsm R')) := hidn (by rw [hw6]; exact own_cell HO5.out HAVG.out)
                have HB6 : Hid (Below w.heap.size w w6) := hidn (by rw [hw6]; exact HB5.out.setCell (p := ⟨w1.heap.size, 0, none⟩) HBW1.out _)
                have HMIN := hidn (HMB.out ⟨some ⟨b, oo + 2, none⟩, j, d, rk, pl⟩ rfl rfl hj1)
                have HRN : Hid (IsRn l w ⟨some ⟨b, oo + 2, none⟩, j, d, rk, pl⟩) := hidn (by
                  refine ⟨p, x, b, ox, HX.out, HPL.out, HRK.out, hj1, by show j ≤ _; omega, HSA.out, ?_, by show j ≤ d; omega⟩
                  show some (⟨b, oo + 2, none⟩ : Addr) = some ⟨b, ox + (x.zs.length - j) * 2, none⟩
                  rw [HOO.out, show ox + (x.zs.length - (j + 1)) * 2 + 2 = ox + (x.zs.length - j) * 2 from by omega])
                have HRS6 : Hid (RunsAt (tmR l) w.heap.size w6 (rs' ++ [⟨some ⟨b, oo + 2, none⟩, j, d, rk, pl⟩])) := hidn (fun r hr => by
                  refine isrn_at HUP2.out ?_ HB6.out
                  rcases List.mem_append.1 hr with hr | hr
                  · exact HIR.out r hr
                  · rw [List.mem_singleton] at hr; subst hr; exact HRN.out)
                have HPU := hidn (push_any (tmR l) w.heap.size w.heap.size (some ⟨g, 0, none⟩) rs'.length c rs' b (oo + 2) j d rk pl w6 rfl (by omega) (by rw [← HVE.out]; exact HI6.out) HB6.out.size HHP.out HRS6.out)
                have HVE6 := hidn HVE.out
                have HW6 := hidn hw6
                clear hw6 hrow6
                go_wp2_with (at_builtin; rw [← HW4.out]; refine wpList_app_run2 rfl (.tmp 53) (.tmp 55) 25 25 rfl rfl (.slice (some ⟨q, 0, none⟩) (k + 1) cj) (.slice (some ⟨w3d.heap.size, 0, none⟩) 1 1) _ rfl rfl HR5.out ?_; rw [← HAV.out])
                rw [← HW6.out]
                refine HPU.out.mono ?_
                rintro e w7 ⟨rfl, g7, c7, rs7, hp7, hh7, hi7, hb7, hf7⟩
                have HB7 := hidn (HB6.out.trans hb7)
                have HI7 := hidn hi7
                have HO7 : Hid (w7.ownsRow w.heap.size 36 2 avv R'.length (vsm R')) := hidn (own_fr HO6.out HI6.out.1 HI6.out.2.1 (fun k hk h1 h2 => hf7 k hk h1 (by rw [← HVE6.out]; exact h2)))
                have HM7 : Hid (MI l rs7 R') := hidn (HMIN.out.perm (hp7.trans List.perm_append_comm))
                have HH7 := hidn hh7
                have HIR7 : Hid (∀ r ∈ rs7, IsRn l w r) := hidn (fun r hr => by
                  rcases List.mem_append.1 (hp7.mem_iff.1 hr) with hr | hr
                  · exact HIR.out r hr
                  · rw [List.mem_singleton] at hr; subst hr; exact HRN.out)
                have ht7 : tot rs7 = tot rs' + j := by rw [tot_perm hp7, tot_app]; simp [tot]
                have HL7 : Hid (R'.length + tot rs7 ≤ N) := hidn (by rw [ht7]; have := HLN.out; omega)
                have hg7 : tot rs7 < gk := by rw [ht7]; omega
                have hl7 : rs7.length ≤ 45 := by
                  have := hp7.length_eq
                  simp at this
                  omega
                clear hp7 hh7 hi7 hb7 hf7
                go_wp2_with fail
                go_roundg (tot rs7)
                case measure => exact hg7
                case rel => first | exact ⟨rs7, R', .slice (some ⟨g7, 0, none⟩) rs7.length c7, Nat.le_refl _, hl7, HM7, HI7, HH7, HIR7, HL7, HB7, HO7⟩ | (repeat apply Exists.intro; exact ⟨⟨rs7, R', .slice (some ⟨g7, 0, none⟩) rs7.length c7, Nat.le_refl _, hl7, HM7, HI7, HH7, HIR7, HL7, HB7, HO7⟩, rfl⟩)
end Go.Proofs.Ytccjgciknaooaaa
