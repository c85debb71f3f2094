/- PostingsPack: any numbers packed, any bytes unpacked, as the document asks. -/
import Derived.Test.YthmknpdhgfmogaaPhE
namespace Go.Proofs.Ythmknpdhgfmogaa
open Go.RowKit
set_option linter.unusedVariables false

def packR (zs : List Int) : List Nat := if canP zs = true then packB (dn zs) else []

def packE (zs : List Int) : Int := if canP zs = true then 0 else 1

def unpR (zs : List Nat) : List Nat := (unpP zs).getD []

def unpE (zs : List Nat) : Int := if (unpP zs).isSome = true then 0 else 5

/-- Bytes and an error. -/
def PkO (w : World) (zs : List Nat) (E : Int) (e : Ending) (w' : World) : Prop := ∃ a n c, e = .returned (.tuple #[.slice a n c, .int .i64 E]) ∧ Bs w' a n zs ∧ n ≤ 140737488355328 ∧ Below w.heap.size w w'

/-- Numbers and an error. -/
def UnO (w : World) (l : List Nat) (E : Int) (e : Ending) (w' : World) : Prop := ∃ a n c, e = .returned (.tuple #[.slice a n c, .int .i64 E]) ∧ Ils w' a n (up l) ∧ Below w.heap.size w w'

theorem packB_big {xs : List Nat} (hr : RiseN xs) (hl : xs.length ≤ 100000) : (packB xs).length ≤ 140737488355328 := by
  have h1 := hdTo_len hr hl (nblk xs) (Nat.le_refl _)
  have h2 := bdTo_len hr (nblk xs)
  unfold packB
  unfold nblk at h1 h2 ⊢
  rw [List.length_append]
  omega

theorem pko_row {w w' : World} {v : Value} {xs : List Nat} {B : Nat} (h : w'.ownsRow B 5 1 v (packB xs).length (vb (packB xs))) (hr : RiseN xs) (hl : xs.length ≤ 100000) (hb : Below w.heap.size w w') : PkO w (packB xs) 0 (.returned (.tuple #[v, .int .i64 0])) w' := by
  obtain ⟨va, vc, rfl, hbs⟩ := bs_of_own h (packB_lt xs)
  exact ⟨_, _, _, rfl, hbs, packB_big hr hl, hb⟩

theorem pack_tot (a : Option Addr) (len cap : Nat) (zs : List Int) (w : World) (h : Ils w a len zs) (hcap : len ≤ cap) (hlm : len ≤ 1000) :
    Calls Try.prog 12 #[.slice a len cap] w (PkO w (packR zs) (packE zs)) := by
  cases hc : canP zs with
  | false =>
    have e1 : packR zs = [] := by unfold packR; rw [hc]; rfl
    have e2 : packE zs = 1 := by unfold packE; rw [hc]; rfl
    rw [e1, e2]
    refine (pack_no a len cap zs w h hc).mono ?_
    rintro e w' ⟨hb, ⟨h1, _⟩ | ⟨_, rfl⟩⟩
    · rw [hc] at h1; cases h1
    · exact ⟨none, 0, 0, rfl, Bs.nil _, Nat.zero_le _, hb⟩
  | true =>
    have e1 : packR zs = packB (dn zs) := by unfold packR; rw [if_pos hc]
    have e2 : packE zs = 0 := by unfold packE; rw [if_pos hc]
    have hu := canP_up hc
    rw [e1, e2]
    have hl := ((canP_iff zs).1 hc).1
    refine (pack_yes a len cap (dn zs) w (by rw [hu]; exact h) (canP_rise hc) (by rw [hu]; exact hc) hcap hlm).mono ?_
    rintro e w' ⟨hb, v, rfl, ho⟩
    exact pko_row ho (canP_rise hc) (by rw [dn_len]; exact hl) hb

theorem refPack_tot (a : Option Addr) (len cap : Nat) (zs : List Int) (w : World) (h : Ils w a len zs) (hcap : len ≤ cap) (hlm : len ≤ 100000) :
    Calls Try.prog 13 #[.slice a len cap] w (PkO w (packR zs) (packE zs)) := by
  cases hc : canP zs with
  | false =>
    have e1 : packR zs = [] := by unfold packR; rw [hc]; rfl
    have e2 : packE zs = 1 := by unfold packE; rw [hc]; rfl
    rw [e1, e2]
    refine (refPack_no a len cap zs w h hc).mono ?_
    rintro e w' ⟨rfl, hb⟩
    exact ⟨none, 0, 0, rfl, Bs.nil _, Nat.zero_le _, hb⟩
  | true =>
    have e1 : packR zs = packB (dn zs) := by unfold packR; rw [if_pos hc]
    have e2 : packE zs = 0 := by unfold packE; rw [if_pos hc]
    have hu := canP_up hc
    rw [e1, e2]
    have hl := ((canP_iff zs).1 hc).1
    refine (refPack_yes a len cap (dn zs) w (by rw [hu]; exact h) (canP_rise hc) (by rw [hu]; exact hc) hcap hlm).mono ?_
    rintro e w' ⟨hb, v, rfl, ho⟩
    exact pko_row ho (canP_rise hc) (by rw [dn_len]; exact hl) hb

theorem unpack_tot (a : Option Addr) (len cap : Nat) (zs : List Nat) (w : World) (h : Bs w a len zs) (hl : len ≤ 1000) (hlc : len ≤ cap) (hcm : cap ≤ maxLen) :
    Calls Try.prog 14 #[.slice a len cap] w (UnO w (unpR zs) (unpE zs)) := by
  refine (unpack_any a len cap zs w h hl hlc hcm).mono ?_
  rintro e w' ⟨hb, ⟨h1, rfl⟩ | ⟨l, g, h1, _, h2, rfl, hrow⟩⟩
  · have e1 : unpR zs = [] := by unfold unpR; rw [h1]; rfl
    have e2 : unpE zs = 5 := by unfold unpE; rw [h1]; rfl
    rw [e1, e2]
    exact ⟨none, 0, 0, rfl, ⟨rfl, Nat.zero_le _, fun _ => rfl, fun x hx => by cases hx⟩, hb⟩
  · have e1 : unpR zs = l := by unfold unpR; rw [h1]; rfl
    have e2 : unpE zs = 0 := by unfold unpE; rw [h1]; rfl
    rw [e1, e2]
    exact ⟨_, _, _, rfl, ils_row hrow (by unfold maxLen; omega), hb⟩

theorem refUnpack_tot (a : Option Addr) (len cap : Nat) (zs : List Nat) (w : World) (h : Bs w a len zs) (hlc : len ≤ cap) (hcm : cap ≤ maxLen) :
    Calls Try.prog 15 #[.slice a len cap] w (UnO w (unpR zs) (unpE zs)) := by
  refine (refUnpack_any a len cap zs w h hlc hcm).mono ?_
  rintro e w' ⟨hb, ⟨h1, rfl⟩ | ⟨l, v, h1, rfl, ho⟩⟩
  · rw [refUnp_eq] at h1
    have e1 : unpR zs = [] := by unfold unpR; rw [h1]; rfl
    have e2 : unpE zs = 5 := by unfold unpE; rw [h1]; rfl
    rw [e1, e2]
    exact ⟨none, 0, 0, rfl, ⟨rfl, Nat.zero_le _, fun _ => rfl, fun x hx => by cases hx⟩, hb⟩
  · rw [refUnp_eq] at h1
    have e1 : unpR zs = l := by unfold unpR; rw [h1]; rfl
    have e2 : unpE zs = 0 := by unfold unpE; rw [h1]; rfl
    rw [e1, e2]
    obtain ⟨va, vc, rfl, hI, _⟩ := ils_of_own ho
    exact ⟨_, _, _, rfl, hI, hb⟩

theorem bs_takeP {w : World} {a : Option Addr} {len m : Nat} {zs : List Nat} (h : Bs w a len zs) (hm : m ≤ len) : Bs w a m (zs.take m) := by
  obtain ⟨h1, h2, h3, h4, h5⟩ := h
  refine ⟨by rw [List.length_take, h1]; omega, by omega, fun x hx => h3 x (List.mem_of_mem_take hx), fun e => by have := h4 e; omega, fun x hx j hj => ?_⟩
  rw [h5 x hx j (by omega)]
  congr 3
  simp only [List.getD_eq_getElem?_getD]
  rw [List.getElem?_take, if_pos hj]

theorem own_capB {w : World} {base e n : Nat} {a : Option Addr} {c : Nat} {xs : List Value} (h : w.ownsRow base e 1 (.slice a n c) n xs) : n ≤ c ∧ c ≤ maxLen := own_capI h

set_option maxHeartbeats 8000000 in
set_option maxRecDepth 100000 in
theorem postingsPack_walk (a0 : Option Addr) (len0 cap0 : Nat) (z0 : List Int) (a1 : Option Addr) (len1 cap1 : Nat) (z1 : List Nat) (w : World) (h0 : Ils w a0 len0 z0) (hlc0 : len0 ≤ cap0) (h1 : Bs w a1 len1 z1) (hlc1 : len1 ≤ cap1) (hcm1 : cap1 ≤ maxLen) :
    Calls Try.prog 3 #[.slice a0 len0 cap0, .slice a1 len1 cap1] w fun e w' => e = .returned (.bool true) ∧ Below w.heap.size w w' := by
  obtain ⟨m, hm⟩ : ∃ m, m = min len0 80 := ⟨_, rfl⟩
  obtain ⟨n, hn⟩ : ∃ n, n = min len1 400 := ⟨_, rfl⟩
  have HC := hidn (fun wx => cut25_any a0 len0 cap0 m wx hlc0 hm)
  have hm80 : m ≤ 80 := by omega
  have hn400 : n ≤ 400 := by omega
  have hmc : m ≤ cap0 := by omega
  have m1 : min (len1 : Int) 400 = (n : Int) := by omega
  have m2 : (if (400 : Int) < (len1 : Int) then (400 : Int) else (len1 : Int)) = (n : Int) := by split <;> omega
  have m3 : (if 400 < len1 then (400 : Int) else (len1 : Int)) = (n : Int) := by split <;> omega
  have m4 : (n : Int) ≤ (cap1 : Int) := by omega
  have m5 : n ≤ cap1 := by omega
  have hI0 := h0.take m (by omega)
  have hB0 := bs_takeP (m := n) h1 (by omega)
  obtain ⟨xs, hxs⟩ : ∃ xs, xs = z0.take m := ⟨_, rfl⟩
  obtain ⟨ys, hys⟩ : ∃ ys, ys = z1.take n := ⟨_, rfl⟩
  rw [← hxs] at hI0
  rw [← hys] at hB0
  have hdr : Below w.heap.size w w.drew := (Below.refl _ w).drew
  have HI := hidn (hI0.below hdr)
  have HB := hidn (hB0.below hdr)
  have HD := hidn hdr
  clear h0 h1 hm hn hxs hys hI0 hB0 hdr
  go_enter Try.func3, Try.ntmps3
  go_wp2_with fail
  refine wp_region_noPanic ?_
  refine wp_region_held_drew (S := fun w' => w' = w.drew) (by kernel_rfl) (rfl) (fun hHeld => ?_)
  refine drawn_take (i := 0) (v := .slice a0 len0 cap0) (some 15) rfl rfl (by kernel_rfl) (by kernel_rfl) (by kernel_rfl) (fun _ _ _ h => h) (Or.inl ⟨by kernel_rfl, fun wq hw => by go_simp⟩) hHeld ?_
  simp only [Act.put, List.setIfInBounds_toArray, List.set_cons_succ, List.set_cons_zero]
  refine drawn_take (i := 2) (v := .slice a1 len1 cap1) (some 17) rfl rfl (by kernel_rfl) (by kernel_rfl) (by kernel_rfl) (fun _ _ _ h => h) (Or.inl ⟨by kernel_rfl, fun wq hw => by go_simp⟩) hHeld ?_
  simp only [Act.put, List.setIfInBounds_toArray, List.set_cons_succ, List.set_cons_zero]
  refine drawn_take (i := 3) (v := .slice a1 len1 cap1) (some 18) rfl rfl (by kernel_rfl) (by kernel_rfl) (by kernel_rfl) (fun _ _ _ h => h) (Or.inl ⟨by kernel_rfl, fun wq hw => by go_simp⟩) hHeld ?_
  simp only [Act.put, List.setIfInBounds_toArray, List.set_cons_succ, List.set_cons_zero]
  refine drawn_take (i := 4) (v := .int .i64 (len1 : Int)) (some 19) rfl rfl (by kernel_rfl) (by kernel_rfl) (by kernel_rfl) (fun _ _ _ h => h) (Or.inl ⟨by kernel_rfl, fun wq hw => by go_simp⟩) hHeld ?_
  simp only [Act.put, List.setIfInBounds_toArray, List.set_cons_succ, List.set_cons_zero]
  refine drawn_take (i := 5) (v := .int .i64 (n : Int)) (some 20) rfl rfl (by kernel_rfl) (by kernel_rfl) (by kernel_rfl) (fun _ _ _ h => h) (Or.inl ⟨by kernel_rfl, fun wq hw => by go_simp⟩) hHeld ?_
  simp only [Act.put, List.setIfInBounds_toArray, List.set_cons_succ, List.set_cons_zero]
  refine drawn_take (i := 6) (v := .slice a1 n cap1) (some 21) rfl rfl (by kernel_rfl) (by kernel_rfl) (by kernel_rfl) (fun _ _ _ h => h) (Or.inl ⟨by kernel_rfl, fun wq hw => by go_simp⟩) hHeld ?_
  simp only [Act.put, List.setIfInBounds_toArray, List.set_cons_succ, List.set_cons_zero]
  refine wpAnyH_ready (rs := [1]) (by kernel_rfl) (by simp) ?_
  refine rdy_call (i := 1) rfl rfl (some 16) rfl 9 #[.slice a0 len0 cap0] (call1_run (x := 15) rfl (fun _ _ => rfl) (by kernel_rfl)) (fun r w9 => r = .slice a0 m cap0 ∧ w9 = w.drew) ((HC.out _).mono (by rintro e w9 ⟨rfl, h9⟩; exact ⟨_, rfl, rfl, h9⟩)) (fun r w9 hR => ?_) rdy_nil
  obtain ⟨rfl, rfl⟩ := hR
  refine ⟨rfl, fun hHeld => ?_⟩
  simp only [Act.put, List.setIfInBounds_toArray, List.set_cons_succ, List.set_cons_zero]
  refine drawn_take (i := 7) (v := .slice a0 m cap0) (some 0) rfl rfl (by kernel_rfl) (by kernel_rfl) (by kernel_rfl) (fun _ _ _ h => h) (Or.inl ⟨by kernel_rfl, fun wq hw => by go_simp⟩) hHeld ?_
  simp only [Act.put, List.setIfInBounds_toArray, List.set_cons_zero]
  refine drawn_take (i := 8) (v := .slice a1 n cap1) (some 1) rfl rfl (by kernel_rfl) (by kernel_rfl) (by kernel_rfl) (fun _ _ _ h => h) (Or.inl ⟨by kernel_rfl, fun wq hw => by go_simp⟩) hHeld ?_
  simp only [Act.put, List.setIfInBounds_toArray, List.set_cons_succ, List.set_cons_zero]
  refine wpAnyH_done (by kernel_rfl) ?_ _
  refine NoPanic.normal ?_
  clear hHeld
  have hxl := HI.out.1
  have HCI := hidn (ixClone_any a0 m cap0 xs w.drew HI.out (by omega))
  obtain ⟨W0, hW0⟩ : ∃ W0, W0 = w.drew := ⟨_, rfl⟩
  rw [← hW0] at HI HB HD HCI ⊢
  clear hW0 HC m1 m2 m3 m4
  go_wp2_with fail
  refine HCI.out.mono ?_
  rintro e w1 ⟨v1, rfl, o1, b1⟩
  rw [← hxl] at o1
  obtain ⟨xa, xc, rfl, hxI, hxc⟩ := ils_of_own o1
  rw [hxl] at hxI hxc ⊢
  have HD1 := hidn (HD.out.trans (b1.mono HD.out.size))
  have HI1 := hidn (HI.out.below b1)
  have HB1 := hidn (HB.out.below b1)
  have HX1 := hidn hxI
  have HCB := hidn (sclone_any a1 n cap1 ys w1 HB1.out (by omega))
  clear o1 b1 hxI HI HB HD hxl
  go_wp2_with fail
  refine HCB.out.mono ?_
  rintro e w2 ⟨v2, rfl, o2, b2⟩
  obtain ⟨ya, yc, rfl, hyB⟩ := bs_of_own o2 HB1.out.2.2.1
  obtain ⟨hyc, hym⟩ := own_capB o2
  have HD2 := hidn (HD1.out.trans (b2.mono HD1.out.size))
  have HI2 := hidn (HI1.out.below b2)
  have HB2 := hidn (HB1.out.below b2)
  have HX2 := hidn (HX1.out.below b2)
  have HY2 := hidn hyB
  have HP := hidn (pack_tot xa m xc xs w2 HX2.out hxc (by omega))
  clear o2 b2 hyB HI1 HB1 HX1 HD1
  go_wp2_with fail
  refine HP.out.mono ?_
  rintro e w3 ⟨pa, pn, pc, rfl, hpB, hpn, b3⟩
  have HD3 := hidn (HD2.out.trans (b3.mono HD2.out.size))
  have HI3 := hidn (HI2.out.below b3)
  have HB3 := hidn (HB2.out.below b3)
  have HX3 := hidn (HX2.out.below b3)
  have HY3 := hidn (HY2.out.below b3)
  have HP3 := hidn hpB
  have HQ := hidn (refPack_tot a0 m cap0 xs w3 HI3.out hmc (by omega))
  obtain ⟨E1, hE1⟩ : ∃ E1, E1 = packE xs := ⟨_, rfl⟩
  rw [← hE1] at HQ ⊢
  clear b3 hpB HI2 HB2 HX2 HY2 HD2 hE1
  go_wp2_with fail
  refine HQ.out.mono ?_
  rintro e w4 ⟨qa, qn, qc, rfl, hqB, hqn, b4⟩
  have HD4 := hidn (HD3.out.trans (b4.mono HD3.out.size))
  have HI4 := hidn (HI3.out.below b4)
  have HB4 := hidn (HB3.out.below b4)
  have HX4 := hidn (HX3.out.below b4)
  have HY4 := hidn (HY3.out.below b4)
  have HP4 := hidn (HP3.out.below b4)
  have HQ4 := hidn hqB
  have HU := hidn (unpack_tot ya n yc ys w4 HY4.out (by omega) hyc hym)
  clear b4 hqB HI3 HB3 HX3 HY3 HP3 HD3
  go_wp2_with fail
  refine HU.out.mono ?_
  rintro e w5 ⟨ua, un, uc, rfl, huI, b5⟩
  have HD5 := hidn (HD4.out.trans (b5.mono HD4.out.size))
  have HI5 := hidn (HI4.out.below b5)
  have HB5 := hidn (HB4.out.below b5)
  have HX5 := hidn (HX4.out.below b5)
  have HY5 := hidn (HY4.out.below b5)
  have HP5 := hidn (HP4.out.below b5)
  have HQ5 := hidn (HQ4.out.below b5)
  have HU5 := hidn huI
  have HV := hidn (refUnpack_tot a1 n cap1 ys w5 HB5.out m5 hcm1)
  obtain ⟨E2, hE2⟩ : ∃ E2, E2 = unpE ys := ⟨_, rfl⟩
  rw [← hE2] at HV ⊢
  clear b5 huI HI4 HB4 HX4 HY4 HP4 HQ4 HD4 hE2
  go_wp2_with fail
  refine HV.out.mono ?_
  rintro e w6 ⟨va, vn, vc, rfl, hvI, b6⟩
  have HD6 := hidn (HD5.out.trans (b6.mono HD5.out.size))
  have HI6 := hidn (HI5.out.below b6)
  have HB6 := hidn (HB5.out.below b6)
  have HX6 := hidn (HX5.out.below b6)
  have HY6 := hidn (HY5.out.below b6)
  have HU6 := hidn (HU5.out.below b6)
  have HV6 := hidn hvI
  have HPB6 := HP5.out.below b6
  have HQB6 := HQ5.out.below b6
  have HE1 := hidn (equalB_any pa pn pc (packR xs) qa qn qc (packR xs) w6 HPB6 HQB6 hpn hqn)
  rw [decide_eq_true rfl] at HE1
  have ee1 : (E1 == E1) = true := beq_self_eq_true _
  have ee2 : (E2 == E2) = true := beq_self_eq_true _
  clear b6 hvI HI5 HB5 HX5 HY5 HU5 HP5 HQ5 HD5 HPB6 HQB6
  go_wp2_with fail
  refine HE1.out.mono ?_
  rintro e w7 ⟨rfl, b7⟩
  have hun : vn = un := by rw [← HV6.out.1, ← HU6.out.1]
  have HV7 := hidn (HV6.out.below b7)
  rw [hun] at HV7 ⊢
  have HE2 := hidn (equal_same ua va un uc vc (up (unpR ys)) w7 (HU6.out.below b7) HV7.out)
  have HD7 := hidn (HD6.out.trans (b7.mono HD6.out.size))
  have HI7 := hidn (HI6.out.below b7)
  have HB7 := hidn (HB6.out.below b7)
  have HX7 := hidn (HX6.out.below b7)
  have HY7 := hidn (HY6.out.below b7)
  clear b7 HI6 HB6 HX6 HY6 HU6 HV6 HV7 HD6 hun
  go_wp2_with fail
  refine HE2.out.mono ?_
  rintro e w8 ⟨rfl, b8⟩
  have HE3 := hidn (equal_same xa a0 m xc cap0 xs w8 (HX7.out.below b8) (HI7.out.below b8))
  have HD8 := hidn (HD7.out.trans (b8.mono HD7.out.size))
  have HB8 := hidn (HB7.out.below b8)
  have HY8 := hidn (HY7.out.below b8)
  clear b8 HI7 HB7 HX7 HY7 HD7
  go_wp2_with fail
  refine HE3.out.mono ?_
  rintro e w9 ⟨rfl, b9⟩
  have HE4 := hidn (equalB_any ya n yc ys a1 n cap1 ys w9 (HY8.out.below b9) (HB8.out.below b9) (by omega) (by omega))
  rw [decide_eq_true rfl] at HE4
  have HD9 := hidn (HD8.out.trans (b9.mono HD8.out.size))
  clear b9 HB8 HY8 HD8
  go_wp2_with fail
  refine HE4.out.mono ?_
  rintro e w10 ⟨rfl, b10⟩
  have HA := hidn (awake25 w10)
  have HD10 := hidn (HD9.out.trans (b10.mono HD9.out.size))
  clear b10 HD9
  go_wp2_with fail
  refine HA.out.mono ?_
  rintro e w11 ⟨rfl, b11⟩
  have HD11 := hidn (HD10.out.trans (b11.mono HD10.out.size))
  clear b11
  go_wp2_with fail
  go_ret
  exact ⟨rfl, HD11.out⟩
end Go.Proofs.Ythmknpdhgfmogaa
