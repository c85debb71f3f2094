/- IndexLists: the law. -/
import Derived.Test.YtiffbbcgailmnaaGreatDoorMc
import Derived.Test.YtiffbbcgailmnaaGreatDoorMj
namespace Go.Proofs.YtiffbbcgailmnaaGreatDoor
open Go.RowKit Go.Joins
open Cd (BitsTab DbTab)
set_option linter.unusedVariables false

theorem ix_min (len k : Nat) : ∃ n : Nat, n ≤ len ∧ n ≤ k ∧ min (len : Int) (k : Int) = (n : Int) ∧ (if (k : Int) < (len : Int) then (k : Int) else (len : Int)) = (n : Int) := by
  refine ⟨min len k, by omega, by omega, by omega, ?_⟩
  split <;> omega

set_option maxHeartbeats 4000000 in
set_option maxRecDepth 100000 in
theorem indexLists_walk (a : Option Addr) (len cap : Nat) (l0 : List Int) (b : Option Addr) (blen bcap : Nat) (m0 : List Int) (w : World) (h0 : Ils w a len l0) (hc0 : len ≤ cap) (g0 : Ils w b blen m0) (gc0 : blen ≤ bcap) (hT : BitsTab w) (hD : DbTab w) :
    Calls Tryz.prog 3 #[.slice a len cap, .slice b blen bcap] w fun e w' => e = .returned (.bool true) ∧ Below w.heap.size w w' := by
  obtain ⟨n, hn, hn40, hn3, hn4⟩ := ix_min len 40
  obtain ⟨m, hm, hm40, hm3, hm4⟩ := ix_min blen 40
  have nc : (n : Int) ≤ (cap : Int) := by omega
  have mc : (m : Int) ≤ (bcap : Int) := by omega
  have hn5 : min (len : Int) 40 = (n : Int) := hn3
  have hn6 : (if (40 : Int) < (len : Int) then (40 : Int) else (len : Int)) = (n : Int) := hn4
  have hm5 : min (blen : Int) 40 = (m : Int) := hm3
  have hm6 : (if (40 : Int) < (blen : Int) then (40 : Int) else (blen : Int)) = (m : Int) := hm4
  have IA : Hid (Ils w.drew a n (l0.take n)) := hidn ((h0.take n hn).below ((Below.refl _ w).drew))
  have IB : Hid (Ils w.drew b m (m0.take m)) := hidn ((g0.take m hm).below ((Below.refl _ w).drew))
  generalize l0.take n = l1 at *
  generalize m0.take m = l2 at *
  have HT := hidn hT
  have HD := hidn hD
  have B0 : Hid (Below w.heap.size w w.drew) := hidn ((Below.refl _ w).drew)
  clear h0 hc0 g0 gc0 hT hD hn3 hn4 hm3 hm4 hn hm
  go_enter Tryz.func3, Tryz.ntmps3
  go_wp2_with fail
  go_region
  go_wp2_with fail
  have H1 := hidn (ixClone_any a n cap l1 w.drew IA.out (by omega))
  refine H1.out.mono ?_
  rintro e w1 ⟨v1, rfl, o1, b1⟩
  obtain ⟨vaca, vcca, hv1, Ica, _⟩ := ils_ofC o1 IA.out.1.symm
  subst hv1
  replace Ica := hidn Ica
  replace IA := hidn (IA.out.below b1)
  replace IB := hidn (IB.out.below b1)
  have B1 := hidn (B0.out.trans (b1.mono B0.out.size))
  clear H1 o1 b1
  go_wp2_with fail
  have H2 := hidn (ixClone_any b m bcap l2 w1 IB.out (by omega))
  refine H2.out.mono ?_
  rintro e w2 ⟨v2, rfl, o2, b2⟩
  obtain ⟨vacb, vccb, hv2, Icb, _⟩ := ils_ofC o2 IB.out.1.symm
  subst hv2
  replace Icb := hidn Icb
  replace IA := hidn (IA.out.below b2)
  replace IB := hidn (IB.out.below b2)
  replace Ica := hidn (Ica.out.below b2)
  have B2 := hidn (B1.out.trans (b2.mono B1.out.size))
  clear H2 o2 b2
  go_wp2_with fail
  have H3 := hidn (ixUnion_p vaca vacb n vcca m vccb 80 l1 l2 w2 Ica.out Icb.out (by omega) (by omega) (by omega))
  refine H3.out.mono ?_
  rintro e w3 ⟨Lp0, vap0, vcp0, rfl, Ip0, Mp0, lenp0, b3⟩
  have HMp0 := hidn Mp0
  replace Ip0 := hidn Ip0
  replace IA := hidn (IA.out.below b3)
  replace IB := hidn (IB.out.below b3)
  replace Ica := hidn (Ica.out.below b3)
  replace Icb := hidn (Icb.out.below b3)
  have B3 := hidn (B2.out.trans (b3.mono B2.out.size))
  clear H3 b3 Mp0 lenp0
  go_wp2_with fail
  have H4 := hidn (rxUnion_p a b n cap m bcap 80 l1 l2 w3 IA.out IB.out (by omega) (by omega) (by omega))
  refine H4.out.mono ?_
  rintro e w4 ⟨Lq0, vaq0, vcq0, rfl, Iq0, Mq0, lenq0, b4⟩
  have HMq0 := hidn Mq0
  replace Iq0 := hidn Iq0
  replace IA := hidn (IA.out.below b4)
  replace IB := hidn (IB.out.below b4)
  replace Ica := hidn (Ica.out.below b4)
  replace Icb := hidn (Icb.out.below b4)
  replace Ip0 := hidn (Ip0.out.below b4)
  have B4 := hidn (B3.out.trans (b4.mono B3.out.size))
  clear H4 b4 Mq0 lenq0
  go_wp2_with fail
  have EQ5 : Lq0 = Lp0 := rises_ext HMq0.out.1 HMp0.out.1 (fun x => by rw [HMq0.out.2 x, HMp0.out.2 x])
  have H5 : Hid (Calls Tryz.prog 5 #[.slice vap0 Lp0.length vcp0, .slice vaq0 Lq0.length vcq0] w4 fun e w' => e = .returned (.bool true) ∧ Below w4.heap.size w4 w') := hidn (by
    have h9 := Iq0.out
    rw [EQ5] at h9 ⊢
    exact ixEqual_same vap0 vaq0 Lp0.length vcp0 vcq0 Lp0 w4 Ip0.out h9)
  clear EQ5
  refine H5.out.mono ?_
  rintro e w5 ⟨rfl, b5⟩
  replace IA := hidn (IA.out.below b5)
  replace IB := hidn (IB.out.below b5)
  replace Ica := hidn (Ica.out.below b5)
  replace Icb := hidn (Icb.out.below b5)
  have B5 := hidn (B4.out.trans (b5.mono B4.out.size))
  clear H5 b5 Ip0 Iq0 HMp0 HMq0
  go_wp2_with fail
  have H6 := hidn (ixMeet_p vaca vacb n vcca m vccb 80 l1 l2 w5 Ica.out Icb.out (by omega) (by omega) (by omega))
  refine H6.out.mono ?_
  rintro e w6 ⟨Lp1, vap1, vcp1, rfl, Ip1, Mp1, lenp1, b6⟩
  have HMp1 := hidn Mp1
  replace Ip1 := hidn Ip1
  replace IA := hidn (IA.out.below b6)
  replace IB := hidn (IB.out.below b6)
  replace Ica := hidn (Ica.out.below b6)
  replace Icb := hidn (Icb.out.below b6)
  have B6 := hidn (B5.out.trans (b6.mono B5.out.size))
  clear H6 b6 Mp1 lenp1
  go_wp2_with fail
  have H7 := hidn (rxMeet_p a b n cap m bcap 80 l1 l2 w6 IA.out IB.out (by omega) (by omega) (by omega))
  refine H7.out.mono ?_
  rintro e w7 ⟨Lq1, vaq1, vcq1, rfl, Iq1, Mq1, lenq1, b7⟩
  have HMq1 := hidn Mq1
  replace Iq1 := hidn Iq1
  replace IA := hidn (IA.out.below b7)
  replace IB := hidn (IB.out.below b7)
  replace Ica := hidn (Ica.out.below b7)
  replace Icb := hidn (Icb.out.below b7)
  replace Ip1 := hidn (Ip1.out.below b7)
  have B7 := hidn (B6.out.trans (b7.mono B6.out.size))
  clear H7 b7 Mq1 lenq1
  go_wp2_with fail
  have EQ8 : Lq1 = Lp1 := rises_ext HMq1.out.1 HMp1.out.1 (fun x => by rw [HMq1.out.2 x, HMp1.out.2 x])
  have H8 : Hid (Calls Tryz.prog 5 #[.slice vap1 Lp1.length vcp1, .slice vaq1 Lq1.length vcq1] w7 fun e w' => e = .returned (.bool true) ∧ Below w7.heap.size w7 w') := hidn (by
    have h9 := Iq1.out
    rw [EQ8] at h9 ⊢
    exact ixEqual_same vap1 vaq1 Lp1.length vcp1 vcq1 Lp1 w7 Ip1.out h9)
  clear EQ8
  refine H8.out.mono ?_
  rintro e w8 ⟨rfl, b8⟩
  replace IA := hidn (IA.out.below b8)
  replace IB := hidn (IB.out.below b8)
  replace Ica := hidn (Ica.out.below b8)
  replace Icb := hidn (Icb.out.below b8)
  have B8 := hidn (B7.out.trans (b8.mono B7.out.size))
  clear H8 b8 Ip1 Iq1 HMp1 HMq1
  go_wp2_with fail
  have H9 := hidn (ixMinus_p vaca vacb n vcca m vccb 80 l1 l2 w8 Ica.out Icb.out (by omega) (by omega) (by omega))
  refine H9.out.mono ?_
  rintro e w9 ⟨Lp2, vap2, vcp2, rfl, Ip2, Mp2, lenp2, b9⟩
  have HMp2 := hidn Mp2
  replace Ip2 := hidn Ip2
  replace IA := hidn (IA.out.below b9)
  replace IB := hidn (IB.out.below b9)
  replace Ica := hidn (Ica.out.below b9)
  replace Icb := hidn (Icb.out.below b9)
  have B9 := hidn (B8.out.trans (b9.mono B8.out.size))
  clear H9 b9 Mp2 lenp2
  go_wp2_with fail
  have H10 := hidn (rxMinus_p a b n cap m bcap 80 l1 l2 w9 IA.out IB.out (by omega) (by omega) (by omega))
  refine H10.out.mono ?_
  rintro e w10 ⟨Lq2, vaq2, vcq2, rfl, Iq2, Mq2, lenq2, b10⟩
  have HMq2 := hidn Mq2
  replace Iq2 := hidn Iq2
  replace IA := hidn (IA.out.below b10)
  replace IB := hidn (IB.out.below b10)
  replace Ica := hidn (Ica.out.below b10)
  replace Icb := hidn (Icb.out.below b10)
  replace Ip2 := hidn (Ip2.out.below b10)
  have B10 := hidn (B9.out.trans (b10.mono B9.out.size))
  clear H10 b10 Mq2 lenq2
  go_wp2_with fail
  have EQ11 : Lq2 = Lp2 := rises_ext HMq2.out.1 HMp2.out.1 (fun x => by rw [HMq2.out.2 x, HMp2.out.2 x])
  have H11 : Hid (Calls Tryz.prog 5 #[.slice vap2 Lp2.length vcp2, .slice vaq2 Lq2.length vcq2] w10 fun e w' => e = .returned (.bool true) ∧ Below w10.heap.size w10 w') := hidn (by
    have h9 := Iq2.out
    rw [EQ11] at h9 ⊢
    exact ixEqual_same vap2 vaq2 Lp2.length vcp2 vcq2 Lp2 w10 Ip2.out h9)
  clear EQ11
  refine H11.out.mono ?_
  rintro e w11 ⟨rfl, b11⟩
  replace IA := hidn (IA.out.below b11)
  replace IB := hidn (IB.out.below b11)
  replace Ica := hidn (Ica.out.below b11)
  replace Icb := hidn (Icb.out.below b11)
  have B11 := hidn (B10.out.trans (b11.mono B10.out.size))
  clear H11 b11 Ip2 Iq2 HMp2 HMq2
  go_wp2_with fail
  have H12 := hidn (ixEqual_same vaca a n vcca cap l1 w11 Ica.out IA.out)
  refine H12.out.mono ?_
  rintro e w12 ⟨rfl, b12⟩
  replace IA := hidn (IA.out.below b12)
  replace IB := hidn (IB.out.below b12)
  replace Ica := hidn (Ica.out.below b12)
  replace Icb := hidn (Icb.out.below b12)
  have B12 := hidn (B11.out.trans (b12.mono B11.out.size))
  clear H12 b12
  go_wp2_with fail
  have H13 := hidn (ixEqual_same vacb b m vccb bcap l2 w12 Icb.out IB.out)
  refine H13.out.mono ?_
  rintro e w13 ⟨rfl, b13⟩
  replace IA := hidn (IA.out.below b13)
  replace IB := hidn (IB.out.below b13)
  replace Ica := hidn (Ica.out.below b13)
  replace Icb := hidn (Icb.out.below b13)
  have B13 := hidn (B12.out.trans (b13.mono B12.out.size))
  clear H13 b13
  go_wp2_with fail
  refine (awake13 w13 (HT.out.below B13.out) (HD.out.below B13.out)).mono ?_
  rintro e wz ⟨rfl, bz⟩
  have HBZ : Hid (Below w.heap.size w wz) := hidn (B13.out.trans (bz.mono B13.out.size))
  go_wp2_with fail
  exact bodyPost_ret (v := .bool true) (by simp [results, Tryz.results3, go_sem]) rfl ⟨rfl, HBZ.out⟩

end Go.Proofs.YtiffbbcgailmnaaGreatDoor
