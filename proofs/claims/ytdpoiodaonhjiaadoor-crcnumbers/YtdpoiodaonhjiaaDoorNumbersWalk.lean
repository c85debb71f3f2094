/- The walk of dryrotlaw01.CrcNumbers: it returns true. -/
import Derived.Test.YtdpoiodaonhjiaaDoorAwake1
import Derived.Test.YtdpoiodaonhjiaaDoorPutWalk
import Derived.Test.YtdpoiodaonhjiaaDoorGetWalk
import Derived.OpenShut
import Derived.ProofKit
namespace Go.Proofs.YtdpoiodaonhjiaaDoor
open Go.RowKit

def gV (zs : List Nat) : Nat := if zs.length = 0 ∨ 8 < zs.length then 0 else getB 0 zs
def gOk (zs : List Nat) : Bool := decide (¬ (zs.length = 0 ∨ 8 < zs.length))

theorem get_all (a : Option Addr) (len cap : Nat) (zs : List Nat) (w : World) (hB : Bs w a len zs) :
    Calls Tryd.prog 15 #[.slice a len cap] w fun e w' => e = .returned (.tuple #[.int .u64 (gV zs : Nat), .bool (gOk zs)]) ∧ w' = w := by
  by_cases h : zs.length = 0 ∨ 8 < zs.length
  · have e1 : gV zs = 0 := if_pos h
    have e2 : gOk zs = false := decide_eq_false (fun hn => hn h)
    rw [e1, e2]
    exact get_none a len cap w hB.2.1 (by rw [← hB.1]; exact h)
  · have e1 : gV zs = getB 0 zs := if_neg h
    have e2 : gOk zs = true := decide_eq_true h
    rw [e1, e2]
    have hl := hB.1
    obtain ⟨b, off, rfl, _, hc⟩ := hB.pos (by omega)
    exact get_some b off len cap zs w hB.2.2.1 hl.symm (by omega) (by omega) hc
theorem refGet_all (a : Option Addr) (len cap : Nat) (zs : List Nat) (w : World) (hB : Bs w a len zs) :
    Calls Tryd.prog 16 #[.slice a len cap] w fun e w' => e = .returned (.tuple #[.int .u64 (gV zs : Nat), .bool (gOk zs)]) ∧ w' = w := by
  by_cases h : zs.length = 0 ∨ 8 < zs.length
  · have e1 : gV zs = 0 := if_pos h
    have e2 : gOk zs = false := decide_eq_false (fun hn => hn h)
    rw [e1, e2]
    exact refGet_none a len cap w hB.2.1 (by rw [← hB.1]; exact h)
  · have e1 : gV zs = getB 0 zs := if_neg h
    have e2 : gOk zs = true := decide_eq_true h
    rw [e1, e2]
    have hl := hB.1
    obtain ⟨b, off, rfl, _, hc⟩ := hB.pos (by omega)
    exact refGet_some b off len cap zs w hB.2.2.1 hl.symm (by omega) (by omega) hc

set_option maxHeartbeats 1000000 in
theorem numbers_core (n : Nat) (wd : Int) (k : Nat) (a : Option Addr) (len cap : Nat) (zs : List Nat) (w : World) (hn : n < 18446744073709551616)
    (hk : (wd < 0 ∧ k = 0) ∨ (0 ≤ wd ∧ wd ≤ 8 ∧ wd = k) ∨ (8 < wd ∧ k = 8)) (hB : Bs w a len zs) (hT : CrcTab w) :
    Calls Tryd.prog 5 #[.int .u64 n, .int .i64 wd, .slice a len cap] w fun e w' => e = .returned (.bool true) ∧ Below w.heap.size w w' := by
  have HK : Hid _ := hk
  clear hk
  go_enter Tryd.func5, Tryd.ntmps5
  go_wp2_with fail
  refine (get_all a len cap zs _ hB).mono ?_
  rintro e w1 ⟨rfl, rfl⟩
  go_wp2_with fail
  refine (refGet_all a len cap zs _ hB).mono ?_
  rintro e w1 ⟨rfl, rfl⟩
  generalize gV zs = gv at *
  generalize gOk zs = gb at *
  go_wp2_with fail
  refine (put_any n wd k _ hn HK.out).mono ?_
  rintro e w2 ⟨rfl, hown2, hb2⟩
  go_wp2_with fail
  refine (refPut_any n wd k _ hn HK.out).mono ?_
  rintro e w3 ⟨rfl, hown3, hb3⟩
  obtain ⟨a2, c2, hv2, hB2⟩ := bs_of_own (own_of_below hown2 hb3) (putB_lt _ _)
  obtain ⟨a3, c3, hv3, hB3⟩ := bs_of_own hown3 (putB_lt _ _)
  cases hv2
  cases hv3
  have hT' := (hT.below hb2).below hb3
  clear hown2 hown3 HK hT hB
  go_wp2_with fail
  refine (equal_any _ _ k _ k _ _ _ _ hB2 hB3).mono ?_
  rintro e w4 ⟨rfl, rfl⟩
  rw [decide_eq_true (rfl : putB n k = putB n k)]
  have hg1 : ((gv : Int) == (gv : Int)) = true := by simp
  have hg2 : (gb == gb) = true := by simp
  go_wp2_with fail
  refine (awake1_any _ hT').mono ?_
  rintro e w5 ⟨rfl, hb5⟩
  go_wp2
  go_ret
  exact ⟨rfl, (hb2.trans (hb3.mono hb2.size)).trans (hb5.mono (Nat.le_trans hb2.size hb3.size))⟩

theorem numbers_walk (n wd : Int) (a : Option Addr) (len cap : Nat) (zs : List Nat) (w : World) (h0 : (Lit.int .u64 n).wf = true) (_h1 : (Lit.int .i64 wd).wf = true) (hB : Bs w a len zs) (hT : CrcTab w) :
    Calls Tryd.prog 5 #[.int .u64 n, .int .i64 wd, .slice a len cap] w fun e w' => e = .returned (.bool true) ∧ Below w.heap.size w w' := by
  obtain ⟨b0, b1⟩ := bounds_u64 h0
  obtain ⟨m, rfl⟩ := Int.eq_ofNat_of_zero_le b0
  exact numbers_core m wd (min wd.toNat 8) a len cap zs w (by omega) (by omega) hB hT
end Go.Proofs.YtdpoiodaonhjiaaDoor
