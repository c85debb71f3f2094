/- CodecReads: the law. -/
import Derived.Test.YtljkidbdlhllcaaDoorCodI6
import Derived.Test.YtljkidbdlhllcaaDoorCodecOnceWalk
namespace Go.Proofs.YtljkidbdlhllcaaDoor
open Go.RowKit Go.Joins
set_option linter.unusedVariables false
set_option linter.unusedSimpArgs false

set_option maxHeartbeats 4000000 in
set_option maxRecDepth 100000 in
theorem codecReads_walk (a : Option Addr) (len cap : Nat) (z0 : List Nat) (w : World) (h : Bs w a len z0) (hl : len ≤ cap) (hc : cap ≤ maxLen) (hT : BitsTab w ∧ DbTab w) :
    Calls Tryd.prog 4 #[.slice a len cap] w fun e w' => e = .returned (.bool true) ∧ Below w.heap.size w w' := by
  have hcm := hc
  unfold maxLen at hc
  obtain ⟨m, hm⟩ : ∃ m, m = min len 200 := ⟨_, rfl⟩
  have hm2 : m ≤ 200 := by omega
  have hBs := bs_take h m (by omega)
  obtain ⟨zs, hzs⟩ : ∃ zs, zs = z0.take m := ⟨_, rfl⟩
  rw [← hzs] at hBs
  have hmn : min (len : Int) 200 = (m : Int) := by omega
  have hmn2 : (if (200 : Int) < (len : Int) then (200 : Int) else (len : Int)) = (m : Int) := by split <;> omega
  have hml : (m : Int) ≤ (cap : Int) := by omega
  have hmc : m ≤ cap := by omega
  clear hm hzs h
  go_enter Tryd.func4, Tryd.ntmps4
  go_wp2_with fail
  refine (sclone_any a m cap zs _ hBs (by omega)).mono ?_
  rintro e w1 ⟨v1, rfl, own1, B1⟩
  obtain ⟨a1, c1, rfl⟩ := own_slice own1
  obtain ⟨a1', c1', hv, hBs1⟩ := bs_of_own own1 hBs.2.2.1
  injection hv with e1 _ e3
  subst e1 e3
  have hr1 := own_room2 own1
  have hBw1 := hBs.below B1
  clear own1 hBs
  go_wp2_with fail
  refine (sdec_any a1 m c1 zs _ hBs1 (by omega) hr1.1 hr1.2 (hT.1.below B1)).mono ?_
  rintro e w2 ⟨hal, b2⟩
  have B2 := B1.trans (b2.mono B1.size)
  have hBs2 := hBs1.below b2
  have hBw2 := hBw1.below b2
  clear hBs1 hBw1
  rcases hal with ⟨l, v, rfl, hcan, hok, pk, own2⟩ | ⟨rfl, hno⟩
  · obtain ⟨a2, c2, rfl⟩ := own_slice own2
    obtain ⟨a2', c2', hv, _, hSm2⟩ := sm_of_own own2 hok
    injection hv with e1 _ e3
    subst e1 e3
    obtain ⟨n, hn⟩ : ∃ n, n = l.length := ⟨_, rfl⟩
    rw [← hn] at hSm2 ⊢
    have HN := hidn hn
    clear hn own2 b2
    go_wp2_with fail
    refine (rdec_at a m cap zs l _ hBw2 (by omega) hmc hcm hok hcan pk).mono ?_
    rintro e w3 ⟨⟨v3, rfl, own3⟩, b3⟩
    have B3 := B2.trans (b3.mono B2.size)
    obtain ⟨a3, c3, rfl⟩ := own_slice own3
    obtain ⟨a3', c3', hv, _, hSm3⟩ := sm_of_own own3 hok
    injection hv with e1 _ e3
    subst e1 e3
    rw [← HN.out] at hSm3 ⊢
    have hSm2' := hSm2.below b3
    have hBs3 := hBs2.below b3
    have hBw3 := hBw2.below b3
    clear own3 b3 hSm2 hBs2 hBw2
    go_wp2_with fail
    refine (seq_any a2 a3 n c2 n c3 l l _ hSm2' hSm3).mono ?_
    rintro e w4 ⟨rfl, b4⟩
    rw [dcd_true rfl]
    have B4 := B3.trans (b4.mono B3.size)
    have hBs4 := hBs3.below b4
    have hBw4 := hBw3.below b4
    clear b4 hSm2' hSm3 hBs3 hBw3
    go_wp2_with fail
    refine (equalB_any a1 m c1 zs a m cap zs _ hBs4 hBw4 (by omega) (by omega)).mono ?_
    rintro e w5 ⟨rfl, b5⟩
    rw [decide_eq_true rfl]
    have B5 := B4.trans (b5.mono B4.size)
    clear b5 hBs4 hBw4
    go_wp2_with fail
    refine (awake11 _ (hT.1.below B5) (hT.2.below B5)).mono ?_
    rintro e w6 ⟨rfl, b6⟩
    have B6 := B5.trans (b6.mono B5.size)
    clear b6
    go_wp2_with fail
    exact bodyPost_ret (v := .bool true) (by simp [results, Tryd.results4, go_sem]) rfl ⟨rfl, B6⟩
  · have HNO := hidn hno
    clear hno b2
    go_wp2_with fail
    refine (rdec_weak a m cap zs _ hBw2 (by omega) hmc hcm).mono ?_
    rintro e w3 ⟨hal2, b3⟩
    have B3 := B2.trans (b3.mono B2.size)
    rcases hal2 with rfl | ⟨l, v, rfl, hcan, hok, pk, _⟩
    · have hBs3 := hBs2.below b3
      have hBw3 := hBw2.below b3
      clear b3 hBs2 hBw2
      go_wp2_with fail
      refine (seq_any none none 0 0 0 0 [] [] _ (Sm.nil _) (Sm.nil _)).mono ?_
      rintro e w4 ⟨rfl, b4⟩
      rw [dcd_true rfl]
      have B4 := B3.trans (b4.mono B3.size)
      have hBs4 := hBs3.below b4
      have hBw4 := hBw3.below b4
      clear b4 hBs3 hBw3
      go_wp2_with fail
      refine (equalB_any a1 m c1 zs a m cap zs _ hBs4 hBw4 (by omega) (by omega)).mono ?_
      rintro e w5 ⟨rfl, b5⟩
      rw [decide_eq_true rfl]
      have B5 := B4.trans (b5.mono B4.size)
      clear b5 hBs4 hBw4
      go_wp2_with fail
      refine (awake11 _ (hT.1.below B5) (hT.2.below B5)).mono ?_
      rintro e w6 ⟨rfl, b6⟩
      have B6 := B5.trans (b6.mono B5.size)
      clear b6
      go_wp2_with fail
      exact bodyPost_ret (v := .bool true) (by simp [results, Tryd.results4, go_sem]) rfl ⟨rfl, B6⟩
    · exact absurd pk (HNO.out l hok hcan)
end Go.Proofs.YtljkidbdlhllcaaDoor
