/- FsckManifests: the law. -/
import Derived.Test.YteammmhlpinhfaaFkH
namespace Go.Proofs.Yteammmhlpinhfaa
open Go.RowKit
set_option linter.unusedVariables false

theorem fk_min (len k : Nat) : ∃ n : Nat, n ≤ len ∧ n ≤ k ∧ min (len : Int) (k : Int) = (n : Int) ∧ (if (k : Int) < (len : Int) then (k : Int) else (len : Int)) = (n : Int) := by
  refine ⟨min len k, by omega, by omega, by omega, ?_⟩
  split <;> omega

set_option maxHeartbeats 2000000 in
set_option maxRecDepth 100000 in
theorem fsckManifests_walk (a : Option Addr) (len cap : Nat) (l0 : List Fo) (b : Option Addr) (blen bcap : Nat) (zs0 : List Nat) (w : World) (h0 : Fls w a len l0) (hc0 : len ≤ cap) (hB0 : Bs w b blen zs0) (hbc0 : blen ≤ bcap) :
    Calls Try.prog 3 #[.slice a len cap, .slice b blen bcap] w fun e w' => e = .returned (.bool true) ∧ Below w.heap.size w w' := by
  obtain ⟨n, hn, hn20, hn3, hn4⟩ := fk_min len 20
  obtain ⟨m, hm, hm1200, hm3, hm4⟩ := fk_min blen 1200
  have nc : (n : Int) ≤ (cap : Int) := by omega
  have mc : (m : Int) ≤ (bcap : Int) := by omega
  have hn5 : min (len : Int) 20 = (n : Int) := hn3
  have hn6 : (if (20 : Int) < (len : Int) then (20 : Int) else (len : Int)) = (n : Int) := hn4
  have hm5 : min (blen : Int) 1200 = (m : Int) := hm3
  have hm6 : (if (1200 : Int) < (blen : Int) then (1200 : Int) else (blen : Int)) = (m : Int) := hm4
  clear hn3 hn4 hm3 hm4
  have h : Fls w.drew a n (l0.take n) := (h0.take n hn).below ((Below.refl _ w).drew)
  have hB : Bs w.drew b m (zs0.take m) := (fk_take hB0 m hm).below ((Below.refl _ w).drew)
  generalize l0.take n = l at *
  generalize zs0.take m = zs at *
  have H1 := hidn (sclone_any b m bcap zs w.drew hB (by omega))
  have H2 := hidn (fun w2 (bb : Below w.heap.size w.drew w2) => man_fin a n cap l w2 (h.below bb) (by omega) (by omega))
  have H3 := hidn (fun w2 (bb : Below w.heap.size w.drew w2) => refMan_fin a n cap l w2 (h.below bb) (by omega) (by omega))
  have H4 := hidn (fun w2 (bb : Below w.heap.size w.drew w2) => refRead_fin b m bcap zs w2 (hB.below bb) (by omega))
  have HB := hidn hB
  have hxl := manX_len l (by rw [h.1]; omega)
  have hrl := readX_len zs
  have HMX := hidn hxl
  have HRX := hidn hrl
  obtain ⟨X, hX⟩ : ∃ X, X = manX l := ⟨_, rfl⟩
  obtain ⟨x, hx⟩ : ∃ x, x = X.length := ⟨_, rfl⟩
  obtain ⟨E, hE⟩ : ∃ E, E = manE l := ⟨_, rfl⟩
  obtain ⟨R, hR⟩ : ∃ R, R = readX zs := ⟨_, rfl⟩
  obtain ⟨r, hr⟩ : ∃ r, r = R.length := ⟨_, rfl⟩
  obtain ⟨G, hG⟩ : ∃ G, G = readE zs := ⟨_, rfl⟩
  have hEE : (E == E) = true := by simp
  have hGG : (G == G) = true := by simp
  rw [← hX, ← hx] at hxl
  rw [← hR, ← hr] at hrl
  have HX := hidn hX
  have HXL := hidn hx
  have HE := hidn hE
  have HR := hidn hR
  have HRL := hidn hr
  have HG := hidn hG
  clear h0 hc0 hB0 hbc0 h hB hX hE hR hG hx hr hn hm
  go_enter Try.func3, Try.ntmps3
  go_wp2_with fail
  go_region
  go_wp2_with fail
  refine H1.out.mono ?_
  rintro e w1 ⟨v, rfl, ho, b1⟩
  obtain ⟨ga, gc, rfl, hGB, hgc⟩ := bs_cap ho HB.out.lt
  have HGB := hidn hGB
  have HB1 : Hid (Below w.heap.size w.drew w1) := hidn b1
  clear ho hGB b1
  go_wp2_with fail
  refine (H2.out w1 HB1.out).mono ?_
  rintro e w2 ⟨xa, xc, rfl, hXB, hxc, b2⟩
  rw [← HX.out, ← HXL.out] at hXB hxc
  rw [← HX.out, ← HXL.out, ← HE.out]
  have HXB := hidn hXB
  have HB2 := hidn (HB1.out.trans (b2.mono HB1.out.size))
  have HG2 := hidn (HGB.out.below b2)
  clear hXB b2
  go_wp2_with fail
  refine (H3.out w2 HB2.out).mono ?_
  rintro e w3 ⟨ya, yc, rfl, hYB, hyc, b3⟩
  rw [← HX.out, ← HXL.out] at hYB hyc
  rw [← HX.out, ← HXL.out, ← HE.out]
  have HYB := hidn hYB
  have HX3 := hidn (HXB.out.below b3)
  have HB3 := hidn (HB2.out.trans (b3.mono HB2.out.size))
  have HG3 := hidn (HG2.out.below b3)
  have H5 := hidn (read_fin ga m gc zs w3 HG3.out hgc)
  clear hYB b3
  go_wp2_with fail
  refine H5.out.mono ?_
  rintro e w4 ⟨pa, pc, rfl, hPF, b4⟩
  rw [← HR.out, ← HRL.out] at hPF
  rw [← HR.out, ← HRL.out, ← HG.out]
  have HPF := hidn hPF
  have HB4 := hidn (HB3.out.trans (b4.mono HB3.out.size))
  have HG4 := hidn (HG3.out.below b4)
  have HX4 := hidn (HX3.out.below b4)
  have HY4 := hidn (HYB.out.below b4)
  clear hPF b4 H5
  go_wp2_with fail
  refine (H4.out w4 HB4.out).mono ?_
  rintro e w5 ⟨qa, qc, rfl, hQF, b5⟩
  rw [← HR.out, ← HRL.out] at hQF
  rw [← HR.out, ← HRL.out, ← HG.out]
  have HQF := hidn hQF
  have HB5 := hidn (HB4.out.trans (b5.mono HB4.out.size))
  have HG5 := hidn (HG4.out.below b5)
  have HX5 := hidn (HX4.out.below b5)
  have HY5 := hidn (HY4.out.below b5)
  have HP5 := hidn (HPF.out.below b5)
  have H6 := hidn (equalB_any xa x xc X ya x yc X w5 HX5.out HY5.out (by omega) (by omega))
  rw [decide_eq_true rfl] at H6
  clear hQF b5
  go_wp2_with fail
  refine H6.out.mono ?_
  rintro e w6 ⟨rfl, b6⟩
  have HB6 := hidn (HB5.out.trans (b6.mono HB5.out.size))
  have HG6 := hidn (HG5.out.below b6)
  have H7 := hidn (sameFooters_same pa qa r pc qc R R w6 (HP5.out.below b6) (HQF.out.below b6) rfl (by omega))
  clear b6 H6
  go_wp2_with fail
  refine H7.out.mono ?_
  rintro e w7 ⟨rfl, b7⟩
  have HB7 := hidn (HB6.out.trans (b7.mono HB6.out.size))
  have HG7 := hidn (HG6.out.below b7)
  have H8 := hidn (equalB_any ga m gc zs b m bcap zs w7 HG7.out (HB.out.below HB7.out) (by omega) (by omega))
  rw [decide_eq_true rfl] at H8
  clear b7 H7
  go_wp2_with fail
  refine H8.out.mono ?_
  rintro e w8 ⟨rfl, b8⟩
  have HB8 := hidn (HB7.out.trans (b8.mono HB7.out.size))
  clear b8 H8
  go_wp2_with fail
  refine (awake21 w8).mono ?_
  rintro e w9 ⟨rfl, b9⟩
  have HB9 : Hid (Below w.heap.size w w9) := hidn (((Below.refl _ w).drew).trans (HB8.out.trans (b9.mono HB8.out.size)))
  go_wp2_with fail
  exact bodyPost_ret (v := .bool true) (by simp [results, Try.results3, go_sem]) rfl ⟨rfl, HB9.out⟩

end Go.Proofs.Yteammmhlpinhfaa
