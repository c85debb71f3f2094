/- CodecWrites: the law. -/
import Derived.Test.YtljkidbdlhllcaaDoorCodRefW
namespace Go.Proofs.YtljkidbdlhllcaaDoor
open Go.RowKit Go.Joins
set_option linter.unusedVariables false
set_option linter.unusedSimpArgs false

theorem isPack_inj {xs ys : List Nat} {L : List Bool} (hx : IsPack xs L) (hy : IsPack ys L) : xs = ys := by
  exact IsPack.unique hx hy
set_option maxHeartbeats 4000000 in
set_option maxRecDepth 100000 in
theorem codecWrites_walk (a : Option Addr) (len cap : Nat) (l0 : List Sam) (w : World) (h : Sm w a len l0) (hl : len ≤ cap) (hc : cap ≤ maxLen) (hT : BitsTab w ∧ DbTab w) :
    Calls Tryd.prog 3 #[.slice a len cap] w fun e w' => e = .returned (.bool true) ∧ Below w.heap.size w w' := by
  obtain ⟨M, hM⟩ : ∃ M, M = min len 60 := ⟨_, rfl⟩
  have hM60 : M ≤ 60 := by omega
  have hSm := h.take M (by omega)
  obtain ⟨l, hle⟩ : ∃ l, l = l0.take M := ⟨_, rfl⟩
  rw [← hle] at hSm
  have hok : SamsOK l := hSm.2.2.1
  have HM := hidn hM
  have HLl := hidn hSm.1
  clear hM hle
  go_enter Tryd.func3, Tryd.ntmps3
  go_wp2_with fail
  refine (cut_any a len cap _ hl hc).mono ?_
  rintro e w0 ⟨rfl, rfl⟩
  rw [← HM.out]
  go_wp2_with fail
  refine (samClone_any a M cap l _ hSm (by omega)).mono ?_
  rintro e w1 ⟨v, rfl, own1, B1⟩
  obtain ⟨a1, c1, rfl⟩ := own_slice own1
  obtain ⟨a1', c1', hv, _, hSm1⟩ := sm_of_own own1 hok
  injection hv with e1 _ e3
  subst e1 e3
  have hSmw := hSm.below B1
  have T1 := hT.1.below B1
  have D1 := hT.2.below B1
  clear own1 hSm
  cases hcan : canS l with
  | true =>
    go_wp2_with fail
    refine (senc_yes a1 M c1 l _ hSm1 hcan T1 D1).mono ?_
    rintro e w2 ⟨v2, zs, rfl, pk2, own2, b2⟩
    have B2 := B1.trans (b2.mono B1.size)
    obtain ⟨a2, c2, rfl⟩ := own_slice own2
    obtain ⟨a2', c2', hv, hBs2⟩ := bs_of_own own2 pk2.2.1
    injection hv with e1 _ e3
    subst e1 e3
    have hzl : zs.length ≤ 1000000000 := by
      have h1 := pk2.1
      have h2 := encTo_len l l.length
      have h3 := ((canS_iff l).1 hcan).1
      have h4 : (encS l).length ≤ 16 + 150 * l.length := h2
      unfold nb at h1
      omega
    have hSm2 := hSm1.below b2
    have hSmw2 := hSmw.below b2
    obtain ⟨zn, hzn⟩ : ∃ zn, zn = zs.length := ⟨_, rfl⟩
    rw [← hzn] at hBs2 hzl ⊢
    clear hzn own2 hSm1 hSmw b2
    go_wp2_with fail
    refine (renc_yes a M cap l _ hSmw2 hcan).mono ?_
    rintro e w3 ⟨v3, ys, rfl, pk3, own3, b3⟩
    obtain rfl : ys = zs := isPack_inj pk3 pk2
    have B3 := B2.trans (b3.mono B2.size)
    obtain ⟨a3, c3, rfl⟩ := own_slice own3
    obtain ⟨a3', c3', hv, hBs3⟩ := bs_of_own own3 pk3.2.1
    injection hv with e1 _ e3
    subst e1 e3
    have hBs4 := hBs2.below b3
    have hSm3 := hSm2.below b3
    have hSmw3 := hSmw2.below b3
    have hzl3 : ys.length ≤ 140737488355328 := by have := hBs4.1; omega
    obtain ⟨yn, hyn⟩ : ∃ yn, yn = ys.length := ⟨_, rfl⟩
    rw [← hyn] at hBs3 hzl3 ⊢
    clear hyn own3 hSm2 hSmw2 b3 hBs2
    go_wp2_with fail
    refine (equalB_any a2 zn c2 ys a3 yn c3 ys _ hBs4 hBs3 (by omega) hzl3).mono ?_
    rintro e w4 ⟨rfl, b4⟩
    rw [decide_eq_true rfl]
    have B4 := B3.trans (b4.mono B3.size)
    have hSm4 := hSm3.below b4
    have hSmw4 := hSmw3.below b4
    clear hSm3 hSmw3 b4 hBs4 hBs3
    go_wp2_with fail
    refine (scan_any a M cap l _ hSmw4).mono ?_
    rintro e w5 ⟨rfl, b5⟩
    rw [hcan]
    have B5 := B4.trans (b5.mono B4.size)
    have hSm5 := hSm4.below b5
    have hSmw5 := hSmw4.below b5
    clear hSm4 hSmw4 b5
    go_wp2_with fail
    refine (rcan_any a M cap l _ hSmw5).mono ?_
    rintro e w6 ⟨rfl, b6⟩
    rw [hcan]
    have B6 := B5.trans (b6.mono B5.size)
    have hSm6 := hSm5.below b6
    have hSmw6 := hSmw5.below b6
    clear hSm5 hSmw5 b6
    go_wp2_with fail
    refine (seq_any a1 a M c1 M cap l l _ hSm6 hSmw6).mono ?_
    rintro e w7 ⟨rfl, b7⟩
    rw [dcd_true rfl]
    have B7 := B6.trans (b7.mono B6.size)
    clear hSm6 hSmw6 b7
    go_wp2_with fail
    refine (awake11 _ (hT.1.below B7) (hT.2.below B7)).mono ?_
    rintro e w8 ⟨rfl, b8⟩
    have B8 := B7.trans (b8.mono B7.size)
    clear b8
    go_wp2_with fail
    exact bodyPost_ret (v := .bool true) (by simp [results, Tryd.results3, go_sem]) rfl ⟨rfl, B8⟩
  | false =>
    go_wp2_with fail
    refine (senc_no a1 M c1 l _ hSm1 hcan).mono ?_
    rintro e w2 ⟨rfl, b2⟩
    have B2 := B1.trans (b2.mono B1.size)
    have hSm2 := hSm1.below b2
    have hSmw2 := hSmw.below b2
    clear hSm1 hSmw b2
    go_wp2_with fail
    refine (renc_no a M cap l _ hSmw2 hcan).mono ?_
    rintro e w3 ⟨rfl, b3⟩
    have B3 := B2.trans (b3.mono B2.size)
    have hSm3 := hSm2.below b3
    have hSmw3 := hSmw2.below b3
    clear hSm2 hSmw2 b3
    go_wp2_with fail
    refine (equalB_any none 0 0 [] none 0 0 [] _ (Bs.nil _) (Bs.nil _) (by omega) (by omega)).mono ?_
    rintro e w4 ⟨rfl, b4⟩
    rw [decide_eq_true rfl]
    have B4 := B3.trans (b4.mono B3.size)
    have hSm4 := hSm3.below b4
    have hSmw4 := hSmw3.below b4
    clear hSm3 hSmw3 b4
    go_wp2_with fail
    refine (scan_any a M cap l _ hSmw4).mono ?_
    rintro e w5 ⟨rfl, b5⟩
    rw [hcan]
    have B5 := B4.trans (b5.mono B4.size)
    have hSm5 := hSm4.below b5
    have hSmw5 := hSmw4.below b5
    clear hSm4 hSmw4 b5
    go_wp2_with fail
    refine (rcan_any a M cap l _ hSmw5).mono ?_
    rintro e w6 ⟨rfl, b6⟩
    rw [hcan]
    have B6 := B5.trans (b6.mono B5.size)
    have hSm6 := hSm5.below b6
    have hSmw6 := hSmw5.below b6
    clear hSm5 hSmw5 b6
    go_wp2_with fail
    refine (seq_any a1 a M c1 M cap l l _ hSm6 hSmw6).mono ?_
    rintro e w7 ⟨rfl, b7⟩
    rw [dcd_true rfl]
    have B7 := B6.trans (b7.mono B6.size)
    clear hSm6 hSmw6 b7
    go_wp2_with fail
    refine (awake11 _ (hT.1.below B7) (hT.2.below B7)).mono ?_
    rintro e w8 ⟨rfl, b8⟩
    have B8 := B7.trans (b8.mono B7.size)
    clear b8
    go_wp2_with fail
    exact bodyPost_ret (v := .bool true) (by simp [results, Tryd.results3, go_sem]) rfl ⟨rfl, B8⟩
end Go.Proofs.YtljkidbdlhllcaaDoor
