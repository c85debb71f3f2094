/- LabelsBytes: the law's walk. -/
import Derived.Test.YtkcmaneibfambaaLabUni
import Derived.Test.YtkcmaneibfambaaLabRefEnc
import Derived.Test.YtkcmaneibfambaaLabRefDec
import Derived.Test.YtkcmaneibfambaaLabBs
import Derived.Test.YtkcmaneibfambaaLabEqL
import Derived.Test.YtkcmaneibfambaaLabAwake
namespace Go.Proofs.Ytkcmaneibfambaa
open Go.RowKit
set_option linter.unusedVariables false

theorem renc_any (a : Option Addr) (len cap : Nat) (ls : List Lab) (w : World) (h : Ls w a len ls) (hr : len ≤ 140737488355328) :
    Calls Try.prog 31 #[.slice a len cap] w fun e w' => ∃ a' c', e = .returned (.tuple #[.slice a' (eL ls).length c', .int .i64 (eE ls)]) ∧ Bs w' a' (eL ls).length (eL ls) ∧ Below w.heap.size w w' := by
  unfold eL eE
  cases hc : canOK ls with
  | false =>
    refine (renc_no a len cap ls w h hr hc).mono fun e w' hh => ?_
    exact ⟨none, 0, hh.1, Bs.nil _, hh.2⟩
  | true =>
    refine (renc_yes a len cap ls w h hr hc).mono fun e w' hh => ?_
    obtain ⟨g, c, h1, _, _, _, h2, _, h3⟩ := hh
    exact ⟨_, c, h1, h2, h3⟩

set_option maxHeartbeats 4000000 in
set_option maxRecDepth 100000 in
theorem bytes_walk (a b : Option Addr) (n m n' m' : Nat) (ls : List Lab) (zs : List Nat) (w : World) (ha : Ls w a n ls) (hb : Bs w b m zs) (ra : n ≤ 140737488355328) (rb : m ≤ 140737488351232) (hm1 : m ≤ m') (hm2 : m' ≤ maxLen) :
    Calls Try.prog 6 #[.slice a n n', .slice b m m'] w fun e w' => e = .returned (.bool true) ∧ Below w.heap.size w w' := by
  have hel := eL_len ls
  have hdr := dR_len zs
  have hdl := dL_len zs
  rw [hb.1] at hdr
  obtain ⟨xe, hxe⟩ : ∃ x, eL ls = x := ⟨_, rfl⟩
  obtain ⟨ee, hee⟩ : ∃ x, eE ls = x := ⟨_, rfl⟩
  obtain ⟨xl, hxl⟩ : ∃ x, dL zs = x := ⟨_, rfl⟩
  obtain ⟨xr, hxr⟩ : ∃ x, dR zs = x := ⟨_, rfl⟩
  obtain ⟨xd, hxd⟩ : ∃ x, dE zs = x := ⟨_, rfl⟩
  have HXE := hidn hxe
  have HEE := hidn hee
  have HXL := hidn hxl
  have HXR := hidn hxr
  have HXD := hidn hxd
  rw [hxe] at hel
  rw [hxr] at hdr
  rw [hxl] at hdl
  have q1 : (ee == ee) = true := beq_iff_eq.2 rfl
  have q2 : (xd == xd) = true := beq_iff_eq.2 rfl
  have hlt := hidn hb.2.2.1
  clear hxe hee hxl hxr hxd
  go_enter Try.func6, Try.ntmps6
  go_wp2_with fail
  refine (sclone_any b m m' zs _ hb (by omega)).mono ?_
  rintro e w1 ⟨vg, rfl, og, b1⟩
  obtain ⟨ag, cg, hvg, hBg, hg1, hg2⟩ := bs_of_own2 og hlt.out
  subst hvg
  clear og
  have ha1 := ha.below b1
  have hb1 := hb.below b1
  clear ha hb
  go_wp2_with fail
  refine (enc_any a n n' ls _ ha1 ra).mono ?_
  rintro e w2 ⟨a2, c2, rfl, hB2, b2⟩
  rw [HXE.out] at hB2
  rw [HXE.out, HEE.out]
  have B2 := b1.trans (b2.mono b1.size)
  have ha2 := ha1.below b2
  have hb2 := hb1.below b2
  have hBg2 := hBg.below b2
  clear ha1 hb1 hBg
  go_wp2_with fail
  refine (renc_any a n n' ls _ ha2 ra).mono ?_
  rintro e w3 ⟨a3, c3, rfl, hB3, b3⟩
  rw [HXE.out] at hB3
  rw [HXE.out, HEE.out]
  have B3 := B2.trans (b3.mono B2.size)
  have hb3 := hb2.below b3
  have hBg3 := hBg2.below b3
  have hB23 := hB2.below b3
  clear ha2 hb2 hBg2 hB2
  go_wp2_with fail
  refine (dec_any ag m cg zs _ hBg3 (by omega) hg1 hg2).mono ?_
  intro e w4 hp4
  obtain ⟨a4, c4, a5, c5, rfl, hL4, hB4, b4⟩ := uni_of_post hp4
  rw [HXL.out] at hL4
  rw [HXR.out] at hB4
  rw [HXL.out, HXR.out, HXD.out]
  have B4 := B3.trans (b4.mono B3.size)
  have hb4 := hb3.below b4
  have hBg4 := hBg3.below b4
  have hB24 := hB23.below b4
  have hB34 := hB3.below b4
  clear hp4 hb3 hBg3 hB23 hB3
  go_wp2_with fail
  refine (rdec_any b m m' zs _ hb4 (by omega) hm1 hm2).mono ?_
  intro e w5 hp5
  obtain ⟨a6, c6, a7, c7, rfl, hL5, hB5, b5⟩ := uni_of_post hp5
  rw [HXL.out] at hL5
  rw [HXR.out] at hB5
  rw [HXL.out, HXR.out, HXD.out]
  have B5 := B4.trans (b5.mono B4.size)
  have hb5 := hb4.below b5
  have hBg5 := hBg4.below b5
  have hB25 := hB24.below b5
  have hB35 := hB34.below b5
  have hL45 := hL4.below b5
  have hB45 := hB4.below b5
  clear hp5 hb4 hBg4 hB24 hB34 hL4 hB4
  go_wp2_with fail
  refine (equalB_any a2 _ c2 xe a3 _ c3 xe _ hB25 hB35 (by omega) (by omega)).mono ?_
  rintro e w6 ⟨rfl, b6⟩
  rw [decide_eq_true (rfl : xe = xe)]
  have B6 := B5.trans (b6.mono B5.size)
  have hb6 := hb5.below b6
  have hBg6 := hBg5.below b6
  have hL46 := hL45.below b6
  have hL56 := hL5.below b6
  have hB46 := hB45.below b6
  have hB56 := hB5.below b6
  clear hb5 hBg5 hB25 hB35 hL45 hB45 hL5 hB5
  go_wp2_with fail
  refine (equalL_any a4 _ c4 xl a6 _ c6 xl _ hL46 hL56 (by omega) (by omega)).mono ?_
  rintro e w7 ⟨rfl, b7⟩
  rw [decide_eq_true (rfl : xl = xl)]
  have B7 := B6.trans (b7.mono B6.size)
  have hb7 := hb6.below b7
  have hBg7 := hBg6.below b7
  have hB47 := hB46.below b7
  have hB57 := hB56.below b7
  clear hb6 hBg6 hL46 hL56 hB46 hB56
  go_wp2_with fail
  refine (equalB_any a5 _ c5 xr a7 _ c7 xr _ hB47 hB57 (by omega) (by omega)).mono ?_
  rintro e w8 ⟨rfl, b8⟩
  rw [decide_eq_true (rfl : xr = xr)]
  have B8 := B7.trans (b8.mono B7.size)
  have hb8 := hb7.below b8
  have hBg8 := hBg7.below b8
  clear hb7 hBg7 hB47 hB57
  go_wp2_with fail
  refine (equalB_any ag m cg zs b m m' zs _ hBg8 hb8 (by omega) (by omega)).mono ?_
  rintro e w9 ⟨rfl, b9⟩
  rw [decide_eq_true (rfl : zs = zs)]
  have B9 := B8.trans (b9.mono B8.size)
  clear hb8 hBg8
  go_wp2_with fail
  refine (awake_any _).mono ?_
  rintro e w10 ⟨rfl, b10⟩
  go_wp2
  go_ret
  exact ⟨rfl, B9.trans (b10.mono B9.size)⟩
end Go.Proofs.Ytkcmaneibfambaa
