/- The reader's method takeTurned. -/
import Derived.Test.YtljkidbdlhllcaaDoorCodR
namespace Go.Proofs.YtljkidbdlhllcaaDoor
open Go.RowKit Go.Joins
set_option linter.unusedVariables false
set_option linter.unusedSimpArgs false

/-- What taking c bits at q answers, the place behind, whether the reader is broken. -/
def tkV (zs : List Nat) (q c : Nat) : Nat := if q + c ≤ 8 * zs.length then numOf (win zs q c) else 0
def tkQ (zs : List Nat) (q c : Nat) : Nat := if q + c ≤ 8 * zs.length then q + c else q
def tkB (zs : List Nat) (q c : Nat) (bad : Bool) : Bool := if q + c ≤ 8 * zs.length then bad else true
theorem tkV_lt (zs : List Nat) (q c : Nat) : tkV zs q c < 2 ^ c := by
  unfold tkV
  split
  · have := numOf_lt (win zs q c); rwa [win_length] at this
  · exact Nat.two_pow_pos c
theorem rtake_any {S : Option Addr × Nat} (r c : Nat) (zs : List Nat) (q : Nat) (bad : Bool) (w : World) (h : RI w r S zs q bad) (hc : c ≤ 64) :
    Calls Tryd.prog 43 #[.pointer (some ⟨r, 0, none⟩), .int .i64 (c : Int)] w fun e w' => e = .returned (.int .u64 (tkV zs q c : Nat)) ∧ RI w' r S zs (tkQ zs q c) (tkB zs q c bad) ∧ Kr r w w' := by
  by_cases hq : q + c ≤ 8 * zs.length
  · unfold tkV tkQ tkB
    rw [if_pos hq, if_pos hq, if_pos hq]
    exact rtake_ok r c zs q bad w h hc hq
  · unfold tkV tkQ tkB
    rw [if_neg hq, if_neg hq, if_neg hq]
    exact rtake_no r c zs q bad w h hc (by omega)
theorem turned_some (x : Nat) (h : x ≠ 0) : turned x = lowBits 1 1 ++ (lowBits (hiZ x) 6 ++ (lowBits (widZ x - 1) 6 ++ lowBits (x / 2 ^ loZ x) (widZ x))) := by
  unfold turned; rw [if_neg h]
theorem turned_zero : turned 0 = lowBits 0 1 := rfl
theorem at_of_low {zs : List Nat} {n q c x : Nat} (h : numOf (win zs q c) = x) (hn : q + c ≤ n) : At zs n q (lowBits x c) :=
  at_of_win (lowBits_length _ _) (by rw [← h]; exact win_low zs q c) hn
theorem tu_good {zs : List Nat} {N q h c t : Nat} (hb : numOf (win zs q 1) = 1) (h1 : numOf (win zs (q + 1) 6) = h) (h2 : numOf (win zs (q + 7) 6) = c) (f3 : q + 13 + (c + 1) ≤ N) (h3 : numOf (win zs (q + 13) (c + 1)) = t)
    (hl : h + (c + 1) ≤ 64) (ht : t / 2 ^ c = 1) (ho : t % 2 = 1) :
    t * 2 ^ (64 - h - (c + 1)) < 18446744073709551616 ∧ At zs N q (turned (t * 2 ^ (64 - h - (c + 1)))) ∧ (turned (t * 2 ^ (64 - h - (c + 1)))).length = 14 + c := by
  have htl : t < 2 ^ (c + 1) := by rw [← h3]; have := numOf_lt (win zs (q + 13) (c + 1)); rwa [win_length] at this
  have ht2 : 2 ^ c ≤ t := by
    by_cases hh : 2 ^ c ≤ t
    · exact hh
    · rw [Nat.div_eq_of_lt (by omega)] at ht; cases ht
  obtain ⟨z1, z2, z3, z4, z5, z6⟩ := zz_make t (c + 1) (64 - h - (c + 1)) (by omega) (by omega) (by simpa using ht2) htl ho
  generalize t * 2 ^ (64 - h - (c + 1)) = x at *
  rw [turned_some x z2, z3, z4, z5, z6, show 64 - (64 - h - (c + 1)) - (c + 1) = h from by omega, show c + 1 - 1 = c from by omega]
  refine ⟨z1, at_app.2 ⟨at_of_low hb (by omega), ?_⟩, by simp [lowBits_length]; omega⟩
  rw [lowBits_length]
  refine at_app.2 ⟨at_of_low h1 (by omega), ?_⟩
  rw [lowBits_length]
  refine at_app.2 ⟨at_of_low h2 (by omega), ?_⟩
  rw [lowBits_length]
  exact at_of_low h3 (by omega)
theorem tu_must {zs : List Nat} {N q y : Nat} (hb : numOf (win zs q 1) = 1) (hy : y < 18446744073709551616) (h : At zs N q (turned y)) :
    ∃ h c t, numOf (win zs (q + 1) 6) = h ∧ numOf (win zs (q + 7) 6) = c ∧ q + 13 + (c + 1) ≤ N ∧ numOf (win zs (q + 13) (c + 1)) = t ∧ h + (c + 1) ≤ 64 ∧ t / 2 ^ c = 1 ∧ t % 2 = 1 ∧ y = t * 2 ^ (64 - h - (c + 1)) := by
  have h0 : y ≠ 0 := by
    rintro rfl
    rw [turned_zero] at h
    have := (at_low h).2
    rw [hb] at this
    cases this
  obtain ⟨z1, z2, z3, z4, z5, z6, z7, z8, z9⟩ := zz_spec y h0 hy
  rw [turned_some y h0] at h
  obtain ⟨a1, a2⟩ := at_app.1 h
  rw [lowBits_length] at a2
  obtain ⟨a3, a4⟩ := at_app.1 a2
  rw [lowBits_length] at a4
  obtain ⟨a5, a6⟩ := at_app.1 a4
  rw [lowBits_length] at a6
  have e1 := (at_low a3).2
  have e2 := (at_low a5).2
  have e3 := at_low a6
  obtain ⟨wm, hwm⟩ : ∃ wm, widZ y = wm + 1 := ⟨widZ y - 1, by omega⟩
  rw [hwm] at e2 e3 z8 z9 z5
  rw [show wm + 1 - 1 = wm from rfl] at e2 z9
  rw [Nat.mod_eq_of_lt (by show hiZ y < 64; omega)] at e1
  rw [Nat.mod_eq_of_lt (by show wm < 64; omega)] at e2
  rw [Nat.mod_eq_of_lt z8] at e3
  refine ⟨hiZ y, wm, y / 2 ^ loZ y, e1, e2, e3.1, e3.2, by omega, ?_, z7, ?_⟩
  · rw [Nat.pow_succ] at z8
    have hp := Nat.two_pow_pos wm
    exact Nat.div_eq_of_lt_le (by omega) (by omega)
  · rw [show 64 - hiZ y - (wm + 1) = loZ y from by omega, Nat.mul_comm]; exact z6

set_option maxHeartbeats 4000000 in
set_option maxRecDepth 100000 in
theorem takeTurned_any {S : Option Addr × Nat} (r : Nat) (zs : List Nat) (q : Nat) (bad : Bool) (w : World) (h : RI w r S zs q bad) :
    Calls Tryd.prog 45 #[.pointer (some ⟨r, 0, none⟩)] w fun e w' => ∃ (x q' : Nat), e = .returned (.int .u64 (x : Int)) ∧ x < 18446744073709551616 ∧
      ((RI w' r S zs (q + (turned x).length) bad ∧ At zs (8 * zs.length) q (turned x)) ∨ (RI w' r S zs q' true ∧ ∀ y, y < 18446744073709551616 → ¬ At zs (8 * zs.length) q (turned y))) ∧ Kr r w w' := by
  have hlz := h.2.2.2.1
  go_enter Tryd.func45, Tryd.ntmps45
  go_wp2_with fail
  refine (rtake_any r 1 zs q bad _ h (by omega)).mono ?_
  rintro e w1 ⟨rfl, hr1, hk1⟩
  by_cases hq1 : q + 1 ≤ 8 * zs.length
  · have HQ := hidn hq1
    by_cases hb : numOf (win zs q 1) = 0
    · have hv : tkV zs q 1 = 0 := by unfold tkV; rw [if_pos hq1]; exact hb
      have hF : Hid ((RI w1 r S zs (q + (turned 0).length) bad ∧ At zs (8 * zs.length) q (turned 0)) ∧ Kr r w w1) := hidn (by
        unfold tkQ tkB at hr1
        rw [if_pos hq1, if_pos hq1] at hr1
        rw [turned_zero, lowBits_length]
        exact ⟨⟨hr1, at_of_low hb hq1⟩, hk1⟩)
      rw [hv]
      clear hr1 hk1 hv hb hq1
      go_wp2_with fail
      go_ret
      exact ⟨0, 0, rfl, by decide, .inl hF.out.1, hF.out.2⟩
    · have hb1 : numOf (win zs q 1) = 1 := by have := numOf_lt (win zs q 1); rw [win_length] at this; omega
      have hv : tkV zs q 1 = 1 := by unfold tkV; rw [if_pos hq1]; exact hb1
      have hr2 : RI w1 r S zs (q + 1) bad := by
        unfold tkQ tkB at hr1
        rw [if_pos hq1, if_pos hq1] at hr1
        exact hr1
      rw [hv]
      have HB1 := hidn hb1
      clear hr1 hv hb hb1 hq1
      go_wp2_with fail
      refine (rtake_any r 6 zs (q + 1) bad _ hr2 (by omega)).mono ?_
      rintro e w2 ⟨rfl, hr3, hk2⟩
      obtain ⟨hv, hhv⟩ : ∃ hv, hv = tkV zs (q + 1) 6 := ⟨_, rfl⟩
      obtain ⟨q2, hq2⟩ : ∃ q2, q2 = tkQ zs (q + 1) 6 := ⟨_, rfl⟩
      obtain ⟨b2, hb2⟩ : ∃ b2, b2 = tkB zs (q + 1) 6 bad := ⟨_, rfl⟩
      have hvl : hv < 64 := by rw [hhv]; exact tkV_lt zs (q + 1) 6
      rw [← hhv]
      rw [← hq2, ← hb2] at hr3
      have HH := hidn hhv
      have HQ2 := hidn hq2
      have HB2 := hidn hb2
      clear hhv hq2 hb2 hr2
      go_wp2_with fail
      refine (rtake_any r 6 zs q2 b2 _ hr3 (by omega)).mono ?_
      rintro e w3 ⟨rfl, hr4, hk3⟩
      obtain ⟨cv, hcv⟩ : ∃ cv, cv = tkV zs q2 6 := ⟨_, rfl⟩
      obtain ⟨q3, hq3⟩ : ∃ q3, q3 = tkQ zs q2 6 := ⟨_, rfl⟩
      obtain ⟨b3, hb3⟩ : ∃ b3, b3 = tkB zs q2 6 b2 := ⟨_, rfl⟩
      have cvl : cv < 64 := by rw [hcv]; exact tkV_lt zs q2 6
      rw [← hcv]
      rw [← hq3, ← hb3] at hr4
      have HCV := hidn hcv
      have HQ3 := hidn hq3
      have HB3 := hidn hb3
      clear hcv hq3 hb3 hr3
      obtain ⟨cn, hcn⟩ : ∃ cn, cn = cv + 1 := ⟨_, rfl⟩
      have rcn : (cv : Int) + 1 = (cn : Int) := by omega
      have HCN := hidn hcn
      have hcn64 : cn ≤ 64 := by omega
      have hcn1 : 1 ≤ cn := by omega
      clear hcn
      go_wp2_with fail
      refine (rtake_any r cn zs q3 b3 _ hr4 hcn64).mono ?_
      rintro e w4 ⟨rfl, hr5, hk4⟩
      obtain ⟨t, ht⟩ : ∃ t, t = tkV zs q3 cn := ⟨_, rfl⟩
      obtain ⟨q4, hq4⟩ : ∃ q4, q4 = tkQ zs q3 cn := ⟨_, rfl⟩
      obtain ⟨b4, hb4⟩ : ∃ b4, b4 = tkB zs q3 cn b3 := ⟨_, rfl⟩
      have htl : t < 2 ^ cn := by rw [ht]; exact tkV_lt zs q3 cn
      have ht64 : t < 18446744073709551616 := Nat.lt_of_lt_of_le htl (Nat.pow_le_pow_right (n := 2) (by omega) hcn64)
      rw [← ht]
      rw [← hq4, ← hb4] at hr5
      have HFIT : Hid (q + 13 + (numOf (win zs (q + 7) 6) + 1) ≤ 8 * zs.length → hv = numOf (win zs (q + 1) 6) ∧ cv = numOf (win zs (q + 7) 6) ∧ t = numOf (win zs (q + 13) (cv + 1)) ∧ q4 = q + (14 + cv) ∧ b4 = bad) := hidn (by
        intro hf
        have e1 := HH.out
        have e2 := HQ2.out
        have e3 := HB2.out
        unfold tkV at e1
        unfold tkQ at e2
        unfold tkB at e3
        rw [if_pos (by omega)] at e1 e2 e3
        have g1 := HCV.out
        have g2 := HQ3.out
        have g3 := HB3.out
        rw [e2] at g1 g2 g3
        unfold tkV at g1
        unfold tkQ at g2
        unfold tkB at g3
        rw [if_pos (by omega)] at g1 g2 g3
        have g1' : cv = numOf (win zs (q + 7) 6) := g1
        have g2' : q3 = q + 13 := by rw [g2]
        rw [g2', HCN.out] at ht hq4 hb4
        unfold tkV at ht
        unfold tkQ at hq4
        unfold tkB at hb4
        rw [if_pos (by rw [g1']; omega)] at ht hq4 hb4
        exact ⟨e1, g1', ht, by omega, by rw [hb4, g3, e3]⟩)
      have HNOT : Hid (¬ q + 13 + (numOf (win zs (q + 7) 6) + 1) ≤ 8 * zs.length → b4 = true) := hidn (by
        intro hf
        have e2 := HQ2.out
        have e3 := HB2.out
        have g1 := HCV.out
        have g2 := HQ3.out
        have g3 := HB3.out
        unfold tkQ at e2 g2
        unfold tkB at e3 g3 hb4
        unfold tkV at g1
        by_cases f1 : q + 1 + 6 ≤ 8 * zs.length
        · rw [if_pos f1] at e2 e3
          by_cases f2 : q2 + 6 ≤ 8 * zs.length
          · rw [if_pos f2] at g1 g2 g3
            have g1' : cv = numOf (win zs (q + 7) 6) := by rw [g1, e2]
            rw [HCN.out, g2, e2, if_neg (by rw [g1']; omega)] at hb4
            exact hb4
          · rw [if_neg f2] at g3
            rw [g3] at hb4
            rw [hb4]; split <;> rfl
        · rw [if_neg f1] at e3
          rw [e3] at g3
          have : b3 = true := by rw [g3]; split <;> rfl
          rw [this] at hb4
          rw [hb4]; split <;> rfl)
      have HMUST : Hid (∀ y, y < 18446744073709551616 → At zs (8 * zs.length) q (turned y) → q + 13 + (numOf (win zs (q + 7) 6) + 1) ≤ 8 * zs.length ∧ hv + cn ≤ 64 ∧ t / 2 ^ cv = 1 ∧ t % 2 = 1) := hidn (by
        intro y hy hat
        obtain ⟨h', c', t', e1, e2, e3, e4, e5, e6, e7, e8⟩ := tu_must HB1.out hy hat
        have hf : q + 13 + (numOf (win zs (q + 7) 6) + 1) ≤ 8 * zs.length := by rw [e2]; exact e3
        obtain ⟨k1, k2, k3, k4, k5⟩ := HFIT.out hf
        rw [e1] at k1
        rw [e2] at k2
        rw [k2, e4] at k3
        exact ⟨hf, by have := HCN.out; omega, by rw [k3, k2]; exact e6, by rw [k3]; exact e7⟩)
      have HGOOD : Hid (q + 13 + (numOf (win zs (q + 7) 6) + 1) ≤ 8 * zs.length → hv + cn ≤ 64 → t / 2 ^ cv = 1 → t % 2 = 1 → t * 2 ^ (64 - hv - cn) < 18446744073709551616 ∧ At zs (8 * zs.length) q (turned (t * 2 ^ (64 - hv - cn))) ∧ (turned (t * 2 ^ (64 - hv - cn))).length = 14 + cv) := hidn (by
        intro hf a1 a2 a3
        obtain ⟨k1, k2, k3, k4, k5⟩ := HFIT.out hf
        rw [HCN.out] at a1 ⊢
        exact tu_good HB1.out k1.symm k2.symm (by rw [k2]; exact hf) k3.symm a1 a2 a3)
      have hkr := hidn (((hk1.trans hk2).trans hk3).trans hk4)
      have hr5' := hr5
      obtain ⟨ra, rc⟩ := S
      obtain ⟨p1, p2, p3, p4, p5⟩ := hr5
      simp only at p1 p2 p5
      have HBRK := hidn (RI.break p1 p2 p3 p4 p5)
      have y3 : w4.cell? ⟨r, 3, none⟩ = some (.bool b4) := cell_of_row _ _ _ _ _ _ p1
      have z3 : w4.frozen? ⟨r, 3, none⟩ = false := unfrozen_of_block p1 _
      clear ht hq4 hb4 p1 p2 p3 p4 p5 hr4 hk1 hk2 hk3 hk4 HH HQ2 HB2 HCV HQ3 HB3
      obtain ⟨tq, htq⟩ : ∃ tq, tq = t / 2 ^ cv := ⟨_, rfl⟩
      have rtq : (t : Int) / 2 ^ cv = (tq : Int) := by rw [htq]; push_cast; rfl
      obtain ⟨to, hto⟩ : ∃ to, to = t % 2 := ⟨_, rfl⟩
      have rto : bits BinOp.and IntKind.u64 (t : Int) 1 = (to : Int) := by rw [and1_u64 t ht64, hto]
      have rcv : (cn : Int) - 1 = (cv : Int) := by omega
      have HTQ := hidn htq
      have HTO := hidn hto
      clear htq hto rcn
      by_cases hlow : hv + cn ≤ 64
      · obtain ⟨lo, hlo⟩ : ∃ lo, lo = 64 - hv - cn := ⟨_, rfl⟩
        have rlo : (64 : Int) - (hv : Int) - (cn : Int) = (lo : Int) := by omega
        have HLO := hidn hlo
        have hlo64 : lo ≤ 63 := by omega
        clear hlo
        by_cases h1 : tq = 1
        · by_cases h2 : to = 1
          · subst h1 h2
            go_wp2_with fail
            obtain ⟨x, hx, hxl⟩ : ∃ x : Nat, IntKind.u64.wrap ((t : Int) * 2 ^ lo) = (x : Int) ∧ x < 18446744073709551616 := by
              refine ⟨t * 2 ^ lo % 18446744073709551616, ?_, Nat.mod_lt _ (by omega)⟩
              have h9 : ((t * 2 ^ lo : Nat) : Int) = (t : Int) * 2 ^ lo := by push_cast; rfl
              rw [IntKind.wrap_u64, ← h9]
              omega
            refine bodyPost_ret (v := .int .u64 (IntKind.u64.wrap ((t : Int) * 2 ^ lo))) (by simp [results, Tryd.results45, go_sem]) rfl ?_
            rw [hx]
            by_cases hf : q + 13 + (numOf (win zs (q + 7) 6) + 1) ≤ 8 * zs.length
            · obtain ⟨k1, k2, k3, k4, k5⟩ := HFIT.out hf
              obtain ⟨g1, g2, g3⟩ := HGOOD.out hf hlow HTQ.out.symm HTO.out.symm
              rw [← HLO.out] at g1 g2 g3
              have hxe : x = t * 2 ^ lo := by
                have : ((t * 2 ^ lo : Nat) : Int) = (x : Int) := by
                  rw [← hx, IntKind.wrap_u64]
                  have h9 : ((t * 2 ^ lo : Nat) : Int) = (t : Int) * 2 ^ lo := by push_cast; rfl
                  rw [← h9]; omega
                omega
              rw [← hxe] at g2 g3
              refine ⟨x, q4, rfl, hxl, .inl ⟨?_, g2⟩, hkr.out⟩
              rw [g3, ← k4, ← k5]; exact hr5'
            · refine ⟨x, q4, rfl, hxl, .inr ⟨?_, fun y hy hat => hf (HMUST.out y hy hat).1⟩, hkr.out⟩
              rw [← HNOT.out hf]; exact hr5'
          · have HNO : Hid (∀ y, y < 18446744073709551616 → ¬ At zs (8 * zs.length) q (turned y)) := hidn (fun y hy hat => h2 (by rw [HTO.out]; exact (HMUST.out y hy hat).2.2.2))
            have hne : ((to : Int) != 1) = true := by rw [bne_iff_ne]; omega
            subst h1
            go_wp2_with fail
            exact bodyPost_ret (v := .int .u64 0) (by simp [results, Tryd.results45, go_sem]) rfl ⟨0, q4, rfl, by decide, .inr ⟨HBRK.out, HNO.out⟩, hkr.out.setCell 3 _⟩
        · have HNO : Hid (∀ y, y < 18446744073709551616 → ¬ At zs (8 * zs.length) q (turned y)) := hidn (fun y hy hat => h1 (by rw [HTQ.out]; exact (HMUST.out y hy hat).2.2.1))
          have hne : ((tq : Int) != 1) = true := by rw [bne_iff_ne]; omega
          go_wp2_with fail
          exact bodyPost_ret (v := .int .u64 0) (by simp [results, Tryd.results45, go_sem]) rfl ⟨0, q4, rfl, by decide, .inr ⟨HBRK.out, HNO.out⟩, hkr.out.setCell 3 _⟩
      · have HNO : Hid (∀ y, y < 18446744073709551616 → ¬ At zs (8 * zs.length) q (turned y)) := hidn (fun y hy hat => hlow (HMUST.out y hy hat).2.1)
        have hneg : (64 : Int) - (hv : Int) - (cn : Int) < 0 := by omega
        have hdn : decide ((64 : Int) - (hv : Int) - (cn : Int) < 0) = true := decide_eq_true hneg
        go_wp2_with fail
        exact bodyPost_ret (v := .int .u64 0) (by simp [results, Tryd.results45, go_sem]) rfl ⟨0, q4, rfl, by decide, .inr ⟨HBRK.out, HNO.out⟩, hkr.out.setCell 3 _⟩
  · have hv : tkV zs q 1 = 0 := by unfold tkV; rw [if_neg hq1]
    have hF : Hid (RI w1 r S zs q true ∧ (∀ y, y < 18446744073709551616 → ¬ At zs (8 * zs.length) q (turned y)) ∧ Kr r w w1) := hidn (by
      unfold tkQ tkB at hr1
      rw [if_neg hq1, if_neg hq1] at hr1
      refine ⟨hr1, fun y hy hat => hq1 ?_, hk1⟩
      have h1 := hat.1
      have h2 : 1 ≤ (turned y).length := by
        unfold turned
        split
        · rw [lowBits_length]; omega
        · rw [List.length_append, lowBits_length]; omega
      omega)
    rw [hv]
    clear hr1 hk1 hv hq1
    go_wp2_with fail
    go_ret
    exact ⟨0, q, rfl, by decide, .inr ⟨hF.out.1, hF.out.2.1⟩, hF.out.2.2⟩
end Go.Proofs.YtljkidbdlhllcaaDoor
