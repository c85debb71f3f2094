/- IndexParts: the law. -/
import Derived.Test.YtiffbbcgailmnaaDoorMc
import Derived.Test.YtiffbbcgailmnaaDoorMj
namespace Go.Proofs.YtiffbbcgailmnaaDoor
open Go.RowKit Go.Joins
open Cd (BitsTab DbTab)
set_option linter.unusedVariables false

theorem ix_min (len k : Nat) : ∃ n : Nat, n ≤ len ∧ n ≤ k ∧ min (len : Int) (k : Int) = (n : Int) ∧ (if (k : Int) < (len : Int) then (k : Int) else (len : Int)) = (n : Int) := by
  refine ⟨min len k, by omega, by omega, by omega, ?_⟩
  split <;> omega

set_option maxHeartbeats 4000000 in
set_option maxRecDepth 100000 in
theorem indexParts_walk (a : Option Addr) (len cap : Nat) (l0 : List Int) (b : Option Addr) (blen bcap : Nat) (m0 : List Int) (w : World) (h0 : Ils w a len l0) (hc0 : len ≤ cap) (g0 : Ils w b blen m0) (gc0 : blen ≤ bcap) (hT : BitsTab w) (hD : DbTab w) :
    Calls Tryd.prog 3 #[.slice a len cap, .slice b blen bcap] w fun e w' => e = .returned (.bool true) ∧ Below w.heap.size w w' := by
  obtain ⟨n, hn, hn40, hn3, hn4⟩ := ix_min len 40
  obtain ⟨m, hm, hm40, hm3, hm4⟩ := ix_min blen 40
  have nc : (n : Int) ≤ (cap : Int) := by omega
  have mc : (m : Int) ≤ (bcap : Int) := by omega
  have hn5 : min (len : Int) 40 = (n : Int) := hn3
  have hn6 : (if (40 : Int) < (len : Int) then (40 : Int) else (len : Int)) = (n : Int) := hn4
  have hm5 : min (blen : Int) 40 = (m : Int) := hm3
  have hm6 : (if (40 : Int) < (blen : Int) then (40 : Int) else (blen : Int)) = (m : Int) := hm4
  have IA : Hid (Ils w.drew a n (l0.take n)) := hidn ((h0.take n hn).below ((Below.refl _ w).drew))
  have IB : Hid (Ils w.drew b m (m0.take m)) := hidn ((g0.take m hm).below ((Below.refl _ w).drew))
  generalize l0.take n = l1 at *
  generalize m0.take m = l2 at *
  have HT := hidn hT
  have HD := hidn hD
  have B0 : Hid (Below w.heap.size w w.drew) := hidn ((Below.refl _ w).drew)
  clear h0 hc0 g0 gc0 hT hD hn3 hn4 hm3 hm4 hn hm
  go_enter Tryd.func3, Tryd.ntmps3
  go_wp2_with fail
  go_region
  go_wp2_with fail
  have H1 := hidn (ixMinus_p a b n cap m bcap 80 l1 l2 w.drew IA.out IB.out (by omega) (by omega) (by omega))
  refine H1.out.mono ?_
  rintro e w1 ⟨Llt, valt, vclt, rfl, Ilt, Mlt, lenlt, b1⟩
  have HMlt := hidn Mlt
  replace Ilt := hidn Ilt
  replace IA := hidn (IA.out.below b1)
  replace IB := hidn (IB.out.below b1)
  have B1 := hidn (B0.out.trans (b1.mono B0.out.size))
  clear H1 b1 Mlt
  go_wp2_with fail
  have H2 := hidn (ixMeet_p a b n cap m bcap 80 l1 l2 w1 IA.out IB.out (by omega) (by omega) (by omega))
  refine H2.out.mono ?_
  rintro e w2 ⟨Lbo, vabo, vcbo, rfl, Ibo, Mbo, lenbo, b2⟩
  have HMbo := hidn Mbo
  replace Ibo := hidn Ibo
  replace IA := hidn (IA.out.below b2)
  replace IB := hidn (IB.out.below b2)
  replace Ilt := hidn (Ilt.out.below b2)
  have B2 := hidn (B1.out.trans (b2.mono B1.out.size))
  clear H2 b2 Mbo
  go_wp2_with fail
  have H3 := hidn (ixMinus_p b a m bcap n cap 80 l2 l1 w2 IB.out IA.out (by omega) (by omega) (by omega))
  refine H3.out.mono ?_
  rintro e w3 ⟨Lrt, vart, vcrt, rfl, Irt, Mrt, lenrt, b3⟩
  have HMrt := hidn Mrt
  replace Irt := hidn Irt
  replace IA := hidn (IA.out.below b3)
  replace IB := hidn (IB.out.below b3)
  replace Ilt := hidn (Ilt.out.below b3)
  replace Ibo := hidn (Ibo.out.below b3)
  have B3 := hidn (B2.out.trans (b3.mono B2.out.size))
  clear H3 b3 Mrt
  go_wp2_with fail
  have H4 := hidn (ixUnion_p valt vabo Llt.length vclt Lbo.length vcbo 160 Llt Lbo w3 Ilt.out Ibo.out (by omega) (by omega) (by omega))
  refine H4.out.mono ?_
  rintro e w4 ⟨Lu1, vau1, vcu1, rfl, Iu1, Mu1, lenu1, b4⟩
  have HMu1 := hidn Mu1
  replace Iu1 := hidn Iu1
  replace IA := hidn (IA.out.below b4)
  replace IB := hidn (IB.out.below b4)
  replace Ilt := hidn (Ilt.out.below b4)
  replace Ibo := hidn (Ibo.out.below b4)
  replace Irt := hidn (Irt.out.below b4)
  have B4 := hidn (B3.out.trans (b4.mono B3.out.size))
  clear H4 b4 Mu1
  go_wp2_with fail
  have H5 := hidn (ixUnion_p a none n cap 0 0 40 l1 [] w4 IA.out ⟨rfl, Nat.zero_le _, fun _ => rfl, fun x hx j c hj => by cases hj⟩ (by omega) (by omega) (by omega))
  refine H5.out.mono ?_
  rintro e w5 ⟨Lu2, vau2, vcu2, rfl, Iu2, Mu2, lenu2, b5⟩
  have HMu2 := hidn Mu2
  replace Iu2 := hidn Iu2
  replace IA := hidn (IA.out.below b5)
  replace IB := hidn (IB.out.below b5)
  replace Ilt := hidn (Ilt.out.below b5)
  replace Ibo := hidn (Ibo.out.below b5)
  replace Irt := hidn (Irt.out.below b5)
  replace Iu1 := hidn (Iu1.out.below b5)
  have B5 := hidn (B4.out.trans (b5.mono B4.out.size))
  clear H5 b5 Mu2
  go_wp2_with fail
  have EQ6 : Lu2 = Lu1 := rises_ext HMu2.out.1 HMu1.out.1 (fun x => by
    rw [HMu2.out.2 x, HMu1.out.2 x, HMlt.out.2 x, HMbo.out.2 x]
    by_cases e1 : x ∈ l1 <;> by_cases e2 : x ∈ l2 <;> simp [e1, e2])
  have H6 : Hid (Calls Tryd.prog 6 #[.slice vau1 Lu1.length vcu1, .slice vau2 Lu2.length vcu2] w5 fun e w' => e = .returned (.bool true) ∧ Below w5.heap.size w5 w') := hidn (by
    have h9 := Iu2.out
    rw [EQ6] at h9 ⊢
    exact ixEqual_same vau1 vau2 Lu1.length vcu1 vcu2 Lu1 w5 Iu1.out h9)
  clear EQ6
  refine H6.out.mono ?_
  rintro e w6 ⟨rfl, b6⟩
  replace IA := hidn (IA.out.below b6)
  replace IB := hidn (IB.out.below b6)
  replace Ilt := hidn (Ilt.out.below b6)
  replace Ibo := hidn (Ibo.out.below b6)
  replace Irt := hidn (Irt.out.below b6)
  replace Iu1 := hidn (Iu1.out.below b6)
  replace Iu2 := hidn (Iu2.out.below b6)
  have B6 := hidn (B5.out.trans (b6.mono B5.out.size))
  clear H6 b6
  go_wp2_with fail
  have H7 := hidn (ixUnion_p valt vabo Llt.length vclt Lbo.length vcbo 160 Llt Lbo w6 Ilt.out Ibo.out (by omega) (by omega) (by omega))
  refine H7.out.mono ?_
  rintro e w7 ⟨Lu3, vau3, vcu3, rfl, Iu3, Mu3, lenu3, b7⟩
  have HMu3 := hidn Mu3
  replace Iu3 := hidn Iu3
  replace IA := hidn (IA.out.below b7)
  replace IB := hidn (IB.out.below b7)
  replace Ilt := hidn (Ilt.out.below b7)
  replace Ibo := hidn (Ibo.out.below b7)
  replace Irt := hidn (Irt.out.below b7)
  replace Iu1 := hidn (Iu1.out.below b7)
  replace Iu2 := hidn (Iu2.out.below b7)
  have B7 := hidn (B6.out.trans (b7.mono B6.out.size))
  clear H7 b7 Mu3
  go_wp2_with fail
  have H8 := hidn (ixUnion_p vau3 vart Lu3.length vcu3 Lrt.length vcrt 240 Lu3 Lrt w7 Iu3.out Irt.out (by omega) (by omega) (by omega))
  refine H8.out.mono ?_
  rintro e w8 ⟨Lu4, vau4, vcu4, rfl, Iu4, Mu4, lenu4, b8⟩
  have HMu4 := hidn Mu4
  replace Iu4 := hidn Iu4
  replace IA := hidn (IA.out.below b8)
  replace IB := hidn (IB.out.below b8)
  replace Ilt := hidn (Ilt.out.below b8)
  replace Ibo := hidn (Ibo.out.below b8)
  replace Irt := hidn (Irt.out.below b8)
  replace Iu1 := hidn (Iu1.out.below b8)
  replace Iu2 := hidn (Iu2.out.below b8)
  replace Iu3 := hidn (Iu3.out.below b8)
  have B8 := hidn (B7.out.trans (b8.mono B7.out.size))
  clear H8 b8 Mu4
  go_wp2_with fail
  have H9 := hidn (ixUnion_p a b n cap m bcap 80 l1 l2 w8 IA.out IB.out (by omega) (by omega) (by omega))
  refine H9.out.mono ?_
  rintro e w9 ⟨Lu5, vau5, vcu5, rfl, Iu5, Mu5, lenu5, b9⟩
  have HMu5 := hidn Mu5
  replace Iu5 := hidn Iu5
  replace IA := hidn (IA.out.below b9)
  replace IB := hidn (IB.out.below b9)
  replace Ilt := hidn (Ilt.out.below b9)
  replace Ibo := hidn (Ibo.out.below b9)
  replace Irt := hidn (Irt.out.below b9)
  replace Iu1 := hidn (Iu1.out.below b9)
  replace Iu2 := hidn (Iu2.out.below b9)
  replace Iu3 := hidn (Iu3.out.below b9)
  replace Iu4 := hidn (Iu4.out.below b9)
  have B9 := hidn (B8.out.trans (b9.mono B8.out.size))
  clear H9 b9 Mu5
  go_wp2_with fail
  have EQ10 : Lu5 = Lu4 := rises_ext HMu5.out.1 HMu4.out.1 (fun x => by
    rw [HMu5.out.2 x, HMu4.out.2 x, HMu3.out.2 x, HMlt.out.2 x, HMbo.out.2 x, HMrt.out.2 x]
    by_cases e1 : x ∈ l1 <;> by_cases e2 : x ∈ l2 <;> simp [e1, e2])
  have H10 : Hid (Calls Tryd.prog 6 #[.slice vau4 Lu4.length vcu4, .slice vau5 Lu5.length vcu5] w9 fun e w' => e = .returned (.bool true) ∧ Below w9.heap.size w9 w') := hidn (by
    have h9 := Iu5.out
    rw [EQ10] at h9 ⊢
    exact ixEqual_same vau4 vau5 Lu4.length vcu4 vcu5 Lu4 w9 Iu4.out h9)
  clear EQ10
  refine H10.out.mono ?_
  rintro e w10 ⟨rfl, b10⟩
  replace IA := hidn (IA.out.below b10)
  replace IB := hidn (IB.out.below b10)
  replace Ilt := hidn (Ilt.out.below b10)
  replace Ibo := hidn (Ibo.out.below b10)
  replace Irt := hidn (Irt.out.below b10)
  replace Iu1 := hidn (Iu1.out.below b10)
  replace Iu2 := hidn (Iu2.out.below b10)
  replace Iu3 := hidn (Iu3.out.below b10)
  replace Iu4 := hidn (Iu4.out.below b10)
  replace Iu5 := hidn (Iu5.out.below b10)
  have B10 := hidn (B9.out.trans (b10.mono B9.out.size))
  clear H10 b10
  go_wp2_with fail
  have H11 := hidn (ixMeet_p valt vart Llt.length vclt Lrt.length vcrt 160 Llt Lrt w10 Ilt.out Irt.out (by omega) (by omega) (by omega))
  refine H11.out.mono ?_
  rintro e w11 ⟨Lm1, vam1, vcm1, rfl, Im1, Mm1, lenm1, b11⟩
  have HMm1 := hidn Mm1
  replace Im1 := hidn Im1
  replace IA := hidn (IA.out.below b11)
  replace IB := hidn (IB.out.below b11)
  replace Ilt := hidn (Ilt.out.below b11)
  replace Ibo := hidn (Ibo.out.below b11)
  replace Irt := hidn (Irt.out.below b11)
  replace Iu1 := hidn (Iu1.out.below b11)
  replace Iu2 := hidn (Iu2.out.below b11)
  replace Iu3 := hidn (Iu3.out.below b11)
  replace Iu4 := hidn (Iu4.out.below b11)
  replace Iu5 := hidn (Iu5.out.below b11)
  have B11 := hidn (B10.out.trans (b11.mono B10.out.size))
  have ZM : Lm1.length = 0 := by
    rw [List.length_eq_zero_iff, List.eq_nil_iff_forall_not_mem]
    intro x hx
    have : x ∈ Llt ∧ x ∈ Lrt := (HMm1.out.2 x).1 hx
    rw [HMlt.out.2 x, HMrt.out.2 x] at this
    exact this.1.2 this.2.1
  rw [ZM]
  clear H11 b11 Mm1
  go_wp2_with fail
  have H12 := hidn (ixMeet_p b a m bcap n cap 80 l2 l1 w11 IB.out IA.out (by omega) (by omega) (by omega))
  refine H12.out.mono ?_
  rintro e w12 ⟨Lm2, vam2, vcm2, rfl, Im2, Mm2, lenm2, b12⟩
  have HMm2 := hidn Mm2
  replace Im2 := hidn Im2
  replace IA := hidn (IA.out.below b12)
  replace IB := hidn (IB.out.below b12)
  replace Ilt := hidn (Ilt.out.below b12)
  replace Ibo := hidn (Ibo.out.below b12)
  replace Irt := hidn (Irt.out.below b12)
  replace Iu1 := hidn (Iu1.out.below b12)
  replace Iu2 := hidn (Iu2.out.below b12)
  replace Iu3 := hidn (Iu3.out.below b12)
  replace Iu4 := hidn (Iu4.out.below b12)
  replace Iu5 := hidn (Iu5.out.below b12)
  replace Im1 := hidn (Im1.out.below b12)
  have B12 := hidn (B11.out.trans (b12.mono B11.out.size))
  clear H12 b12 Mm2
  go_wp2_with fail
  have EQ13 : Lbo = Lm2 := rises_ext HMbo.out.1 HMm2.out.1 (fun x => by
    rw [HMbo.out.2 x, HMm2.out.2 x]
    by_cases e1 : x ∈ l1 <;> by_cases e2 : x ∈ l2 <;> simp [e1, e2])
  have H13 : Hid (Calls Tryd.prog 6 #[.slice vam2 Lm2.length vcm2, .slice vabo Lbo.length vcbo] w12 fun e w' => e = .returned (.bool true) ∧ Below w12.heap.size w12 w') := hidn (by
    have h9 := Ibo.out
    rw [EQ13] at h9 ⊢
    exact ixEqual_same vam2 vabo Lm2.length vcm2 vcbo Lm2 w12 Im2.out h9)
  clear EQ13
  refine H13.out.mono ?_
  rintro e w13 ⟨rfl, b13⟩
  replace IA := hidn (IA.out.below b13)
  replace IB := hidn (IB.out.below b13)
  replace Ilt := hidn (Ilt.out.below b13)
  replace Ibo := hidn (Ibo.out.below b13)
  replace Irt := hidn (Irt.out.below b13)
  replace Iu1 := hidn (Iu1.out.below b13)
  replace Iu2 := hidn (Iu2.out.below b13)
  replace Iu3 := hidn (Iu3.out.below b13)
  replace Iu4 := hidn (Iu4.out.below b13)
  replace Iu5 := hidn (Iu5.out.below b13)
  replace Im1 := hidn (Im1.out.below b13)
  replace Im2 := hidn (Im2.out.below b13)
  have B13 := hidn (B12.out.trans (b13.mono B12.out.size))
  clear H13 b13
  go_wp2_with fail
  refine (awake13 w13 (HT.out.below B13.out) (HD.out.below B13.out)).mono ?_
  rintro e w9 ⟨rfl, b9⟩
  have HB9 : Hid (Below w.heap.size w w9) := hidn (B13.out.trans (b9.mono B13.out.size))
  go_wp2_with fail
  exact bodyPost_ret (v := .bool true) (by simp [results, Tryd.results3, go_sem]) rfl ⟨rfl, HB9.out⟩

end Go.Proofs.YtiffbbcgailmnaaDoor
