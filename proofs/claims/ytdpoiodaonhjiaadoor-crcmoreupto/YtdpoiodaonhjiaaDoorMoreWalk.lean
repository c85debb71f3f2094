/- The walk of dryrotlaw01.CrcMore: it returns true. -/
import Derived.Test.YtdpoiodaonhjiaaDoorAwake1
import Derived.OpenShut
import Derived.ProofKit
import Derived.Laws.AppendOwnNone
namespace Go.Proofs.YtdpoiodaonhjiaaDoor
open Go.RowKit

theorem vb_append (xs ys : List Nat) : vb xs ++ vb ys = vb (xs ++ ys) := by simp [vb]
theorem vb_one (zs : List Nat) : ∀ u ∈ vb zs, u.oneCell' = true := by
  intro u hu
  simp only [vb, List.mem_map] at hu
  obtain ⟨y, _, rfl⟩ := hu
  rfl
theorem bs_news {w : World} {x : Addr} {len : Nat} {zs : List Nat} (hB : Bs w (some x) len zs) : ∀ (j : Nat) (u : Value), (vb zs)[j]? = some u → w.cell? (x.add j) = some u := by
  intro j u hj
  have hj' : j < zs.length := by
    have := (List.getElem?_eq_some_iff.1 hj).1; simpa [vb] using this
  rw [vb_getD zs j hj'] at hj
  cases hj
  exact hB.2.2.2.2 x rfl j (by rw [← hB.1]; exact hj')

set_option maxHeartbeats 2000000 in
theorem more_core (a : Option Addr) (len cap : Nat) (zs : List Nat) (a' : Option Addr) (len' cap' : Nat) (zs' : List Nat) (s : Nat) (w : World) (hB : Bs w a len zs) (hr : len ≤ 1048576)
    (hB' : Bs w a' len' zs') (hr' : len' ≤ 1048576) (hcap : a' = none → cap' = 0) (hs : s < 4294967296) (hT : CrcTab w) :
    Calls Tryd.prog 4 #[.slice a len cap, .slice a' len' cap', .int .u32 s] w fun e w' => e = .returned (.bool true) ∧ Below w.heap.size w w' := by
  obtain ⟨i0, hi, hz0, hz1, hz2⟩ := info_parts Tryd.info5
  have hz := hB.2.2.1
  have hz' := hB'.2.2.1
  have hl := hB.1
  have hl' := hB'.1
  have HM : Hid (_ = _) := crcM_append zs zs' hz
  have hzz : ∀ x ∈ zs ++ zs', x < 256 := by
    intro x hx
    rcases List.mem_append.1 hx with h | h
    · exact hz x h
    · exact hz' x h
  go_enter Tryd.func4, Tryd.ntmps4
  go_wp2_with fail
  refine (sum_any a len cap zs _ hB hT).mono ?_
  rintro e w ⟨rfl, rfl⟩
  go_wp2_with fail
  refine (more_any (crcM 0 zs) a' len' cap' zs' _ (crcM_lt _ _) hB' hT).mono ?_
  rintro e w ⟨rfl, rfl⟩
  rw [HM.out]
  go_wp2_with fail
  refine (clone_any a len cap zs _ hB (by omega)).mono ?_
  rintro e w2 ⟨v, rfl, hown, hb2⟩
  have hB2 := hB'.below hb2
  have hT2 := hT.below hb2
  have hsz := hb2.size
  have hbase : ∀ k, v.ownBlock = some k → w.heap.size ≤ k := by
    intro k hk
    rcases hown.2 with ⟨rfl, _⟩ | ⟨g, cap, cur, rfl, hg, _⟩
    · simp [Value.ownBlock] at hk
    · simp [Value.ownBlock] at hk; omega
  clear hB
  have HZ : Hid (∀ x ∈ zs, x < 256) := hz
  have HZ' : Hid (∀ x ∈ zs', x < 256) := hz'
  have HL : Hid (zs.length = len) := hl
  have HL' : Hid (zs'.length = len') := hl'
  clear hz hz' hl hl'
  cases a' with
  | none =>
    obtain rfl := hcap rfl
    obtain rfl : len' = 0 := hB'.2.2.2.1 rfl
    have hnil : zs' = [] := List.length_eq_zero_iff.1 HL'.out
    rw [← List.append_nil (vb zs), show ([] : List Value) = vb zs' from by rw [hnil]; rfl, vb_append] at hown
    have HN : Hid (_ = _) := hnil
    clear hnil hcap
    go_wp2_with (at_builtin; refine wpList_append_own_none rfl _ _ 22 rfl w.heap.size 5 i0 1 Tryd.underlying22 hi v len (vb (zs ++ zs')) rfl hown rfl ?_)
    obtain ⟨a3, cap3, hv3, hB3⟩ := bs_of_own hown hzz
    rw [hv3]
    clear hown hbase
    go_wp2_with fail
    refine (sum_any a3 _ cap3 (zs ++ zs') _ hB3 hT2).mono ?_
    rintro e w4 ⟨rfl, rfl⟩
    go_wp2_with fail
    refine (more_any s _ 0 0 zs' _ hs hB2 hT2).mono ?_
    rintro e w4 ⟨rfl, rfl⟩
    go_wp2_with fail
    refine (refMore_any s _ 0 0 zs' _ hs hB2).mono ?_
    rintro e w4 ⟨rfl, rfl⟩
    go_wp2_with fail
    refine (awake1_any _ hT2).mono ?_
    rintro e w5 ⟨rfl, hb5⟩
    go_wp2
    go_ret
    exact ⟨rfl, hb2.trans (hb5.mono hb2.size)⟩
  | some x =>
    go_wp2_with (at_builtin; refine wpList_append_own _ rfl _ _ 22 rfl w.heap.size 5 i0 (.int .u8 0) 1 1 Tryd.underlying22 hi hz0 hz1 hz2 rfl (by decide) v len (vb zs) rfl hown x len' cap' (vb zs') rfl (by simp [vb, HL'.out]) (bs_news hB2) (vb_one zs') (by unfold maxLen; omega) (by omega) (by omega) ?_)
    intro v3 w3 hown3 hgrow3 _
    rw [vb_append] at hown3
    have hb3 : Below w.heap.size w w3 := hb2.grown hgrow3 (by omega) hbase
    have hB3' := hB'.below hb3
    have hT3 := hT.below hb3
    obtain ⟨a3, cap3, hv3, hB3⟩ := bs_of_own hown3 hzz
    rw [hv3]
    clear hown hown3 hgrow3 hB2 hT2 hT hb2 hsz hbase
    go_wp2_with fail
    refine (sum_any a3 _ cap3 (zs ++ zs') _ hB3 hT3).mono ?_
    rintro e w4 ⟨rfl, rfl⟩
    go_wp2_with fail
    refine (more_any s _ len' cap' zs' _ hs hB3' hT3).mono ?_
    rintro e w4 ⟨rfl, rfl⟩
    go_wp2_with fail
    refine (refMore_any s _ len' cap' zs' _ hs hB3').mono ?_
    rintro e w4 ⟨rfl, rfl⟩
    go_wp2_with fail
    refine (awake1_any _ hT3).mono ?_
    rintro e w5 ⟨rfl, hb5⟩
    go_wp2
    go_ret
    exact ⟨rfl, hb3.trans (hb5.mono hb3.size)⟩
theorem more_walk (a : Option Addr) (len cap : Nat) (zs : List Nat) (a' : Option Addr) (len' cap' : Nat) (zs' : List Nat) (s : Int) (w : World) (hB : Bs w a len zs) (hr : len ≤ 1048576)
    (hB' : Bs w a' len' zs') (hr' : len' ≤ 1048576) (hcap : a' = none → cap' = 0) (hs : (Lit.int .u32 s).wf = true) (hT : CrcTab w) :
    Calls Tryd.prog 4 #[.slice a len cap, .slice a' len' cap', .int .u32 s] w fun e w' => e = .returned (.bool true) ∧ Below w.heap.size w w' := by
  obtain ⟨b0, b1⟩ := bounds_u32 hs
  obtain ⟨m, rfl⟩ := Int.eq_ofNat_of_zero_le b0
  exact more_core a len cap zs a' len' cap' zs' m w hB hr hB' hr' hcap (by omega) hT
end Go.Proofs.YtdpoiodaonhjiaaDoor
