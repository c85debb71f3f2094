/- TombPrunes: the law. -/
import Derived.Test.YtdgkjiiegmnjfaaTmE
import Derived.Test.YtdgkjiiegmnjfaaTmF
import Derived.Test.YtdgkjiiegmnjfaaTmG
import Derived.Deep.RegionWith
namespace Go.Proofs.Ytdgkjiiegmnjfaa
open Go.RowKit Go.Joins
set_option linter.unusedVariables false
theorem heed_eq (l : List Del) (rs : List Int) (rl : Nat) (h : rs.length = rl) : (l.filter fun d => rs.any fun x => decide (x ≤ d.up)) = (if rl = 0 then [] else l.filter (fun d => decide (minL rs ≤ d.up))) := by
  by_cases h0 : rl = 0
  · rw [if_pos h0]
    obtain rfl : rs = [] := List.length_eq_zero_iff.1 (by omega)
    simp
  · rw [if_neg h0]
    have hne : rs ≠ [] := fun e => h0 (by rw [← h, e]; rfl)
    congr 1
    funext d
    have := minL_le rs hne d.up
    by_cases hu : minL rs ≤ d.up
    · rw [decide_eq_true hu, List.any_eq_true]
      obtain ⟨r, hr, hru⟩ := this.1 hu
      exact ⟨r, hr, by simpa using hru⟩
    · rw [decide_eq_false hu, Bool.eq_false_iff]
      intro e
      obtain ⟨r, hr, hru⟩ := List.any_eq_true.1 e
      exact hu (this.2 ⟨r, hr, by simpa using hru⟩)
theorem min20 (len : Nat) : ∃ n : Nat, n ≤ len ∧ n ≤ 20 ∧ min (len : Int) 20 = (n : Int) ∧ (if (20 : Int) < (len : Int) then (20 : Int) else (len : Int)) = (n : Int) := by
  refine ⟨min len 20, by omega, by omega, by omega, ?_⟩
  split <;> omega
set_option maxHeartbeats 2000000 in
set_option maxRecDepth 100000 in
theorem tombPrunes_walk (a : Option Addr) (len cap : Nat) (l : List Del) (ra : Option Addr) (rl rc : Nat) (rs : List Int) (w : World) (h : Dls w a len l) (hc : len ≤ cap) (hr : Ils w ra rl rs) (hrc : rl ≤ rc) :
    Calls Try.prog 3 #[.slice a len cap, .slice ra rl rc] w fun e w' => e = .returned (.bool true) ∧ Below w.heap.size w w' := by
  obtain ⟨n, hn1, hn2, hn3, hn4⟩ := min20 len
  obtain ⟨m, hm1, hm2, hm3, hm4⟩ := min20 rl
  have hD := h.take n hn1
  have hI := hr.take m hm1
  have nc : (n : Int) ≤ (cap : Int) := by omega
  have mc : (m : Int) ≤ (rc : Int) := by omega
  go_enter Try.func3, Try.ntmps3
  go_wp2_with fail
  go_region
  have bd : Below w.heap.size w w.drew := (Below.refl _ w).drew
  have hD1 := hD.below bd
  have hI1 := hI.below bd
  have HE := hidn (heed_eq (l.take n) (rs.take m) m hI.1)
  have HP := hidn (prune_any a n cap (l.take n) ra m rc (rs.take m) w.drew hD1 hI1 (by omega))
  clear hn3 hn4 hm3 hm4 nc mc
  go_wp2_with fail
  refine HP.out.mono ?_
  rintro e w1 ⟨v1, l1, rfl, o1, p1, b1⟩
  have B1 := bd.trans b1
  have HQ := hidn (refPrune_any a n cap (l.take n) ra m rc (rs.take m) w1 (hD1.below b1) (hI1.below b1) (by omega))
  obtain ⟨a1, c1, rfl, d1⟩ := o1.dls
  have P1 := hidn p1
  clear p1 o1
  go_wp2_with fail
  refine HQ.out.mono ?_
  rintro e w2 ⟨v2, l2, rfl, o2, p2, b2⟩
  have B2 := B1.trans (b2.mono B1.size)
  obtain ⟨a2, c2, rfl, d2⟩ := o2.dls
  have HS := hidn (same_any a1 a2 l1.length c1 l2.length c2 l1 l2 w2 (d1.below b2) d2 (by rw [P1.out, p2, HE.out]))
  clear p2 o2
  go_wp2_with fail
  refine HS.out.mono ?_
  rintro e w3 ⟨rfl, b3⟩
  have B3 := B2.trans (b3.mono B2.size)
  go_wp2_with fail
  refine (awake14 w3).mono ?_
  rintro e w4 ⟨rfl, b4⟩
  have B4 := B3.trans (b4.mono B3.size)
  go_wp2_with fail
  exact bodyPost_ret (v := .bool true) (by simp [results, Try.results3, go_sem]) rfl ⟨rfl, B4⟩
end Go.Proofs.Ytdgkjiiegmnjfaa
