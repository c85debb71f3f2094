/- The walk of dryrotlaw01.CrcSums: it returns true. -/
import Derived.Test.YtdpoiodaonhjiaaDoorAwake1
namespace Go.Proofs.YtdpoiodaonhjiaaDoor
open Go.RowKit

set_option maxHeartbeats 1000000 in
theorem sums_walk (a : Option Addr) (len cap : Nat) (zs : List Nat) (w : World) (hB : Bs w a len zs) (hr : len ≤ 140737488355328) (hT : CrcTab w) :
    Calls Tryd.prog 3 #[.slice a len cap] w fun e w' => e = .returned (.bool true) ∧ Below w.heap.size w w' := by
  go_enter Tryd.func3, Tryd.ntmps3
  go_wp2_with fail
  refine (clone_any a len cap zs _ hB hr).mono ?_
  rintro e w1 ⟨v, rfl, hown, hb1⟩
  obtain ⟨a1, cap1, hv, hB1⟩ := bs_of_own hown hB.2.2.1
  subst hv
  have hB' := hB.below hb1
  have hT' := hT.below hb1
  clear hown hB hT
  go_wp2_with fail
  refine (sum_any a1 len cap1 zs _ hB1 hT').mono ?_
  rintro e w2 ⟨rfl, rfl⟩
  go_wp2_with fail
  refine (refSum_any a len cap zs _ hB').mono ?_
  rintro e w3 ⟨rfl, rfl⟩
  go_wp2_with fail
  refine (equal_any a1 a len cap1 len cap zs zs _ hB1 hB').mono ?_
  rintro e w4 ⟨rfl, rfl⟩
  rw [decide_eq_true (rfl : zs = zs)]
  go_wp2_with fail
  refine (awake1_any _ hT').mono ?_
  rintro e w5 ⟨rfl, hb5⟩
  go_wp2
  go_ret
  exact ⟨rfl, hb1.trans (hb5.mono hb1.size)⟩
end Go.Proofs.YtdpoiodaonhjiaaDoor
