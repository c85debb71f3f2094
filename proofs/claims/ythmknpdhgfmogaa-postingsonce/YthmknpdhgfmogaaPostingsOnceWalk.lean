/- PostingsOnce: bytes that are packed numbers are what is packed of them. -/
import Derived.Test.YthmknpdhgfmogaaPgK
namespace Go.Proofs.Ythmknpdhgfmogaa
open Go.RowKit
set_option linter.unusedVariables false

theorem bs_takeN {w : World} {a : Option Addr} {len m : Nat} {zs : List Nat} (h : Bs w a len zs) (hm : m ≤ len) : Bs w a m (zs.take m) := by
  obtain ⟨h1, h2, h3, h4, h5⟩ := h
  refine ⟨by rw [List.length_take, h1]; omega, by omega, fun x hx => h3 x (List.mem_of_mem_take hx), fun e => by have := h4 e; omega, fun x hx j hj => ?_⟩
  rw [h5 x hx j (by omega)]
  congr 3
  simp only [List.getD_eq_getElem?_getD]
  rw [List.getElem?_take, if_pos hj]

set_option maxHeartbeats 4000000 in
set_option maxRecDepth 100000 in
theorem postingsOnce_walk (a : Option Addr) (len cap : Nat) (zs : List Nat) (w : World) (h : Bs w a len zs) (hlc : len ≤ cap) (hcm : cap ≤ maxLen) :
    Calls Try.prog 5 #[.slice a len cap] w fun e w' => e = .returned (.bool true) ∧ Below w.heap.size w w' := by
  obtain ⟨m, hm⟩ : ∃ m, m = min len 400 := ⟨_, rfl⟩
  have m1 : min (len : Int) 400 = (m : Int) := by omega
  have m2 : (if (400 : Int) < (len : Int) then (400 : Int) else (len : Int)) = (m : Int) := by split <;> omega
  have m3 : (if 400 < len then (400 : Int) else (len : Int)) = (m : Int) := by split <;> omega
  have m4 : (m : Int) ≤ (cap : Int) := by omega
  have m5 : m ≤ cap := by omega
  have hml : m ≤ 400 := by omega
  have HB := hidn (bs_takeN (m := m) h (by omega))
  have HU := hidn (unpack_any a m cap (zs.take m) w HB.out (by omega) m5 hcm)
  obtain ⟨ys, hys⟩ : ∃ ys, ys = zs.take m := ⟨_, rfl⟩
  rw [← hys] at HB HU
  clear h hm hys
  go_enter Try.func5, Try.ntmps5
  go_wp2_with fail
  refine HU.out.mono ?_
  rintro e w1 ⟨b1, ⟨_, rfl⟩ | ⟨l, g, hu, hg, hll, rfl, hrow⟩⟩
  · have HA := hidn (awake25 w1)
    have HB1 := hidn b1
    clear b1
    go_wp2_with fail
    refine HA.out.mono ?_
    rintro e w2 ⟨rfl, b2⟩
    have HB2 := hidn (HB1.out.trans (b2.mono HB1.out.size))
    clear b2
    go_wp2_with fail
    go_ret
    exact ⟨rfl, HB2.out⟩
  · obtain ⟨hcan, hpk⟩ := unpP_spec hu
    have hI := ils_row hrow (by unfold maxLen; omega)
    have HP := hidn (pack_yes (some ⟨g, 0, none⟩) l.length l.length l w1 hI (canP_riseN hcan) hcan (Nat.le_refl _) hll)
    have HB1 := hidn b1
    have HPK := hidn hpk
    obtain ⟨n, hn⟩ : ∃ n, n = l.length := ⟨_, rfl⟩
    rw [← hn] at HP ⊢
    clear b1 hu hcan hpk hI hrow hn hg hll
    go_wp2_with fail
    refine HP.out.mono ?_
    rintro e w2 ⟨b2, v, rfl, own2⟩
    rw [HPK.out] at own2
    obtain ⟨va, vc, rfl, hbs⟩ := bs_of_own own2 HB.out.2.2.1
    have hyl := HB.out.1
    have HB2 := hidn (HB1.out.trans (b2.mono HB1.out.size))
    rw [hyl] at hbs
    have HE := hidn (equalB_any va m vc ys a m cap ys w2 hbs (HB.out.below HB2.out) (by omega) (by omega))
    rw [decide_eq_true rfl] at HE
    rw [hyl]
    clear own2 b2 hbs hyl
    go_wp2_with fail
    refine HE.out.mono ?_
    rintro e w3 ⟨rfl, b3⟩
    have HB3 := hidn (HB2.out.trans (b3.mono HB2.out.size))
    clear b3
    go_wp2_with fail
    go_ret
    exact ⟨rfl, HB3.out⟩
end Go.Proofs.Ythmknpdhgfmogaa
