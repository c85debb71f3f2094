/- CodecOnce: the law. -/
import Derived.Test.YtljkidbdlhllcaaDoorCodI3
import Derived.Test.YtljkidbdlhllcaaDoorBytesEq
namespace Go.Proofs.YtljkidbdlhllcaaDoor
open Go.RowKit Go.Joins
set_option linter.unusedVariables false
set_option linter.unusedSimpArgs false

theorem bs_take {w : World} {a : Option Addr} {len : Nat} {zs : List Nat} (h : Bs w a len zs) (m : Nat) (hm : m ≤ len) : Bs w a m (zs.take m) := by
  obtain ⟨h1, h2, h3, h4, h5⟩ := h
  refine ⟨by rw [List.length_take]; omega, by omega, fun x hx => h3 x (List.mem_of_mem_take hx), fun h => by have := h4 h; omega, fun x hx j hj => ?_⟩
  rw [h5 x hx j (by omega)]
  simp [List.getD_eq_getElem?_getD, hj]
theorem own_room2 {w : World} {base e size n c : Nat} {a : Option Addr} {xs : List Value} (h : w.ownsRow base e size (.slice a n c) n xs) : n ≤ c ∧ c ≤ maxLen := by
  rcases h.2 with ⟨h1, h2⟩ | ⟨g, c', cur, h1, _, _, h2, h3, _⟩
  · injection h1 with h3 h4 h5
    exact ⟨by omega, by rw [h5]; exact Nat.zero_le _⟩
  · cases h1; exact ⟨h2, h3⟩
set_option maxHeartbeats 4000000 in
set_option maxRecDepth 100000 in
theorem codecOnce_walk (a : Option Addr) (len cap : Nat) (z0 : List Nat) (w : World) (h : Bs w a len z0) (hl : len ≤ cap) (hc : cap ≤ maxLen) (hT : BitsTab w ∧ DbTab w) :
    Calls Tryd.prog 7 #[.slice a len cap] w fun e w' => e = .returned (.bool true) ∧ Below w.heap.size w w' := by
  have hcm := hc
  unfold maxLen at hc
  obtain ⟨m, hm⟩ : ∃ m, m = min len 200 := ⟨_, rfl⟩
  have hm2 : m ≤ 200 := by omega
  have hBs := bs_take h m (by omega)
  obtain ⟨zs, hzs⟩ : ∃ zs, zs = z0.take m := ⟨_, rfl⟩
  rw [← hzs] at hBs
  have hmn : min (len : Int) 200 = (m : Int) := by omega
  have hmn2 : (if (200 : Int) < (len : Int) then (200 : Int) else (len : Int)) = (m : Int) := by split <;> omega
  have hml : (m : Int) ≤ (cap : Int) := by omega
  have hmc : m ≤ cap := by omega
  clear hm hzs h
  go_enter Tryd.func7, Tryd.ntmps7
  go_wp2_with fail
  refine (sdec_any a m cap zs _ hBs (by omega) hmc hcm hT.1).mono ?_
  rintro e w1 ⟨hal, B1⟩
  have hBs1 := hBs.below B1
  rcases hal with ⟨l, v, rfl, hcan, hok, pk, own1⟩ | ⟨rfl, hno⟩
  · obtain ⟨a1, c1, rfl⟩ := own_slice own1
    obtain ⟨a1', c1', hv, _, hSm1⟩ := sm_of_own own1 hok
    injection hv with e1 _ e3
    subst e1 e3
    obtain ⟨n, hn⟩ : ∃ n, n = l.length := ⟨_, rfl⟩
    rw [← hn] at own1 hSm1 ⊢
    clear hn own1
    go_wp2_with fail
    refine (senc_yes a1 n c1 l _ hSm1 hcan (hT.1.below B1) (hT.2.below B1)).mono ?_
    rintro e w2 ⟨v2, ys, rfl, pk2, own2, b2⟩
    obtain rfl : ys = zs := IsPack.unique pk2 pk
    have B2 := B1.trans (b2.mono B1.size)
    obtain ⟨a2, c2, rfl⟩ := own_slice own2
    obtain ⟨a2', c2', hv, hBs2⟩ := bs_of_own own2 pk2.2.1
    injection hv with e1 _ e3
    subst e1 e3
    have hSm2 := hSm1.below b2
    have hBs3 := hBs1.below b2
    have hyl : ys.length = m := hBs1.1
    obtain ⟨yn, hyn⟩ : ∃ yn, yn = ys.length := ⟨_, rfl⟩
    rw [← hyn] at hBs2 hyl ⊢
    have hyb : yn ≤ 140737488355328 := by omega
    clear hyn own2 hSm1 b2 hyl hBs1
    go_wp2_with fail
    refine (equalB_any a2 yn c2 ys a m cap ys _ hBs2 hBs3 hyb (by omega)).mono ?_
    rintro e w3 ⟨rfl, b3⟩
    rw [decide_eq_true rfl]
    have B3 := B2.trans (b3.mono B2.size)
    have hSm3 := hSm2.below b3
    clear b3 hSm2 hBs2 hBs3
    go_wp2_with fail
    refine (scan_any a1 n c1 l _ hSm3).mono ?_
    rintro e w4 ⟨rfl, b4⟩
    rw [hcan]
    have B4 := B3.trans (b4.mono B3.size)
    clear b4 hSm3
    go_wp2_with fail
    refine (awake11 _ (hT.1.below B4) (hT.2.below B4)).mono ?_
    rintro e w5 ⟨rfl, b5⟩
    have B5 := B4.trans (b5.mono B4.size)
    clear b5
    go_wp2_with fail
    exact bodyPost_ret (v := .bool true) (by simp [results, Tryd.results7, go_sem]) rfl ⟨rfl, B5⟩
  · have HNO := hidn hno
    clear hno
    go_wp2_with fail
    refine (rdec_weak a m cap zs _ hBs1 (by omega) hmc hcm).mono ?_
    rintro e w2 ⟨hal2, b2⟩
    have B2 := B1.trans (b2.mono B1.size)
    rcases hal2 with rfl | ⟨l, v, rfl, hcan, hok, pk, _⟩
    · clear b2 hBs1
      go_wp2_with fail
      refine (awake11 _ (hT.1.below B2) (hT.2.below B2)).mono ?_
      rintro e w5 ⟨rfl, b5⟩
      have B5 := B2.trans (b5.mono B2.size)
      clear b5
      go_wp2_with fail
      exact bodyPost_ret (v := .bool true) (by simp [results, Tryd.results7, go_sem]) rfl ⟨rfl, B5⟩
    · exact absurd pk (HNO.out l hok hcan)
end Go.Proofs.YtljkidbdlhllcaaDoor
