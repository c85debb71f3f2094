/- CodecBack: the law. -/
import Derived.Test.YtljkidbdlhllcaaDoorCodAwake
namespace Go.Proofs.YtljkidbdlhllcaaDoor
open Go.RowKit Go.Joins
set_option linter.unusedVariables false
set_option linter.unusedSimpArgs false

theorem own_room {w : World} {base e size n c : Nat} {a : Option Addr} {xs : List Value} (h : w.ownsRow base e size (.slice a n c) n xs) : n ≤ c ∧ c ≤ maxLen := by
  rcases h.2 with ⟨h1, h2⟩ | ⟨g, c', cur, h1, _, _, h2, h3, _⟩
  · injection h1 with h3 h4 h5
    exact ⟨by omega, by rw [h5]; exact Nat.zero_le _⟩
  · cases h1; exact ⟨h2, h3⟩
set_option maxHeartbeats 4000000 in
set_option maxRecDepth 100000 in
theorem codecBack_walk (first : Int) (a : Option Addr) (len cap : Nat) (l0 : List Sam) (w : World) (h : Sm w a len l0) (hl : len ≤ cap) (hc : cap ≤ maxLen) (hf : (Lit.int .i64 first).wf = true) (hT : BitsTab w ∧ DbTab w) :
    Calls Tryd.prog 5 #[.int .i64 first, .slice a len cap] w fun e w' => e = .returned (.bool true) ∧ Below w.heap.size w w' := by
  go_enter Tryd.func5, Tryd.ntmps5
  go_wp2_with fail
  refine (risen_any first a len cap l0 _ h hl hc hf).mono ?_
  rintro e w1 ⟨v, rfl, ⟨l, own1, hok, hri, h60⟩, B1⟩
  obtain ⟨a1, c1, rfl⟩ := own_slice own1
  obtain ⟨a1', c1', hv, _, hSm1⟩ := sm_of_own own1 hok
  injection hv with e1 _ e3
  subst e1 e3
  have hcan : canS l = true := (canS_iff l).2 ⟨by omega, hri⟩
  have T1 := hT.1.below B1
  have D1 := hT.2.below B1
  obtain ⟨n, hn⟩ : ∃ n, n = l.length := ⟨_, rfl⟩
  rw [← hn] at own1 hSm1 ⊢
  have HN := hidn hn
  clear hn hri h60
  go_wp2_with fail
  refine (senc_yes a1 n c1 l _ hSm1 hcan T1 D1).mono ?_
  rintro e w2 ⟨v2, zs, rfl, pk, own2, b2⟩
  have B2 := B1.trans (b2.mono B1.size)
  obtain ⟨a2, c2, rfl⟩ := own_slice own2
  obtain ⟨a2', c2', hv, hBs⟩ := bs_of_own own2 pk.2.1
  injection hv with e1 _ e3
  subst e1 e3
  have hr2 := own_room own2
  have hzl : zs.length ≤ 1000000000 := by
    have h1 := pk.1
    have h2 := encTo_len l l.length
    have h3 := ((canS_iff l).1 hcan).1
    have h4 : (encS l).length ≤ 16 + 150 * l.length := h2
    unfold nb at h1
    omega
  have hSm2 := hSm1.below b2
  obtain ⟨zn, hzn⟩ : ∃ zn, zn = zs.length := ⟨_, rfl⟩
  rw [← hzn] at hBs hr2 hzl ⊢
  have HZ := hidn hzn
  clear hzn own1 own2 hSm1 b2
  go_wp2_with fail
  refine (sdec_any a2 zn c2 zs _ hBs hzl hr2.1 hr2.2 (hT.1.below B2)).mono ?_
  intro e w3 hdp
  obtain ⟨a3, c3, rfl, own3, b3⟩ := enc_dec hok hcan pk hdp
  rw [← HN.out] at own3 ⊢
  have B3 := B2.trans (b3.mono B2.size)
  obtain ⟨a3', c3', hv, _, hSm3⟩ := sm_of_own own3 hok
  injection hv with e1 _ e3
  subst e1 e3
  have hSm4 := hSm2.below b3
  clear hdp own3 hSm2 b3 hBs
  go_wp2_with fail
  refine (seq_any a3 a1 n c3 n c1 l l _ hSm3 hSm4).mono ?_
  rintro e w4 ⟨rfl, b4⟩
  rw [dcd_true rfl]
  have B4 := B3.trans (b4.mono B3.size)
  clear hSm3 hSm4 b4
  go_wp2_with fail
  refine (awake11 _ (hT.1.below B4) (hT.2.below B4)).mono ?_
  rintro e w5 ⟨rfl, b5⟩
  have B5 := B4.trans (b5.mono B4.size)
  clear b5
  go_wp2_with fail
  exact bodyPost_ret (v := .bool true) (by simp [results, Tryd.results5, go_sem]) rfl ⟨rfl, B5⟩
end Go.Proofs.YtljkidbdlhllcaaDoor
