/- The walk of dryrotlaw01.CrcTells: it returns true. -/
import Derived.Test.YtdpoiodaonhjiaaDoorAwake1
import Derived.OpenShut
import Derived.ProofKit
namespace Go.Proofs.YtdpoiodaonhjiaaDoor
open Go.RowKit

set_option maxHeartbeats 1000000 in
theorem tells_empty (a : Option Addr) (cap : Nat) (at_ mk : Int) (w : World) (hB : Bs w a 0 []) (hT : CrcTab w) :
    Calls Tryd.prog 6 #[.slice a 0 cap, .int .i64 at_, .int .u8 mk] w fun e w' => e = .returned (.bool true) ∧ Below w.heap.size w w' := by
  have e0 : crcM 0 [] = 0 := rfl
  go_enter Tryd.func6, Tryd.ntmps6
  go_wp2_with fail
  refine (sum_any a 0 cap [] _ hB hT).mono ?_
  rintro e w2 ⟨rfl, rfl⟩
  rw [e0]
  go_wp2_with fail
  refine (awake1_any _ hT).mono ?_
  rintro e w5 ⟨rfl, hb5⟩
  go_wp2
  go_ret
  exact ⟨rfl, hb5⟩

theorem own_pos {w : World} {base e n : Nat} {v : Value} {xs : List Value} (h : w.ownsRow base e 1 v n xs) (hn : 0 < n) : ∃ g cap, v = .slice (some ⟨g, 0, none⟩) n cap ∧ base ≤ g := by
  rcases h.2 with ⟨_, h0⟩ | ⟨g, cap, cur, hv, hg, _⟩
  · omega
  · exact ⟨g, cap, hv, hg⟩
theorem vb_set (zs : List Nat) (i y : Nat) : (vb zs).set i (.int .u8 (y : Int)) = vb (zs.set i y) := by
  simp only [vb, List.map_set]
  rfl
theorem or1_u8 (m : Nat) (h : m < 256) : bits .or .u8 (m : Int) 1 = ((m ||| 1 : Nat) : Int) := bits_or_u .u8 rfl m 1 h (by decide)
theorem xor_u8 (x y : Nat) (hx : x < 256) (hy : y < 256) : bits .xor .u8 (x : Int) (y : Int) = ((x ^^^ y : Nat) : Int) := bits_xor_u .u8 rfl x y hx hy
theorem or1_lt (m : Nat) (h : m < 256) : m ||| 1 < 256 := Nat.or_lt_two_pow (n := 8) h (by decide)
theorem or1_ne (m : Nat) : m ||| 1 ≠ 0 := by
  intro h
  have := congrArg (fun x => x.testBit 0) h
  simp at this
theorem xor_ne (x y : Nat) (h : y ≠ 0) : x ^^^ y ≠ x := by
  intro e
  have : x ^^^ y = x ^^^ 0 := by simpa using e
  exact h (xor_cancel_left this)

set_option maxHeartbeats 1000000 in
theorem tells_some (a : Option Addr) (len cap : Nat) (zs : List Nat) (at_ : Int) (mk i : Nat) (w : World) (hB : Bs w a len zs) (h0 : 0 < len) (hr : len ≤ 140737488355328) (hT : CrcTab w)
    (hm : mk < 256) (hi : (IntKind.u64.wrap at_).tmod (len : Int) = (i : Int)) (hil : i < len) :
    Calls Tryd.prog 6 #[.slice a len cap, .int .i64 at_, .int .u8 mk] w fun e w' => e = .returned (.bool true) ∧ Below w.heap.size w w' := by
  have hne : ((len : Int) == 0) = false := beq_eq_false_iff_ne.2 (by omega)
  have ho := or1_u8 mk hm
  go_enter Tryd.func6, Tryd.ntmps6
  go_wp2_with fail
  refine (clone_any a len cap zs _ hB hr).mono ?_
  rintro e w1 ⟨v, rfl, hown, hb1⟩
  obtain ⟨g, cap1, hv, hg⟩ := own_pos hown h0
  subst hv
  have hB' := hB.below hb1
  have hT' := hT.below hb1
  have hcell := hown.cellAt i (by omega)
  rw [vb_getD zs i (by rw [hB.1]; exact hil)] at hcell
  have hfz := hown.frozenAt i
  have hx : zs.getD i 0 < 256 := by rw [List.getD_eq_getElem?_getD]; exact getD_mem_lt zs i 256 (by omega) hB.2.2.1
  have hxo := xor_u8 (zs.getD i 0) (mk ||| 1) hx (or1_lt mk hm)
  have hst := hown.stored i (.int .u8 ((zs.getD i 0 ^^^ (mk ||| 1) : Nat) : Int))
  rw [vb_set] at hst
  have hne2 := crcM_tells zs i (zs.getD i 0 ^^^ (mk ||| 1)) hB.2.2.1 (by rw [hB.1]; exact hil) (Nat.xor_lt_two_pow (n := 8) hx (or1_lt mk hm)) (xor_ne _ _ (or1_ne _))
  have hzs : ∀ x ∈ zs.set i (zs.getD i 0 ^^^ (mk ||| 1)), x < 256 := by
    intro x hx'
    rcases List.mem_or_eq_of_mem_set hx' with h | rfl
    · exact hB.2.2.1 x h
    · exact Nat.xor_lt_two_pow (n := 8) hx (or1_lt mk hm)
  obtain ⟨a2, cap2, hv2, hB2⟩ := bs_of_own hst.1 hzs
  cases hv2
  have hb2 : Below w.heap.size w (w1.setCell ⟨g, i, none⟩ (.int .u8 ((zs.getD i 0 ^^^ (mk ||| 1) : Nat) : Int))) := hb1.setCell hg _
  have hB3 := hB.below hb2
  have hT3 := hT.below hb2
  clear hst hown hB hT hB' hT' hb1
  generalize zs.set i (zs.getD i 0 ^^^ (mk ||| 1)) = zs2 at *
  generalize zs.getD i 0 = x at *
  have HN : Hid (_ ≠ _) := hne2
  clear hne2
  go_wp2_with fail
  refine (sum_any _ len _ zs2 _ hB2 hT3).mono ?_
  rintro e w3 ⟨rfl, rfl⟩
  go_wp2_with fail
  refine (sum_any a len cap zs _ hB3 hT3).mono ?_
  rintro e w4 ⟨rfl, rfl⟩
  have hbn : (((crcM 0 zs2 : Nat) : Int) != ((crcM 0 zs : Nat) : Int)) = true := by
    rw [bne_iff_ne]; intro h; exact HN.out (by omega)
  generalize crcM 0 zs2 = s2 at *
  generalize crcM 0 zs = s1 at *
  go_wp2
  go_ret
  exact ⟨rfl, hb2⟩
theorem tells_walk (a : Option Addr) (len cap : Nat) (zs : List Nat) (at_ mk : Int) (w : World) (hB : Bs w a len zs) (hr : len ≤ 140737488351232) (_h1 : (Lit.int .i64 at_).wf = true) (h2 : (Lit.int .u8 mk).wf = true) (hT : CrcTab w) :
    Calls Tryd.prog 6 #[.slice a len cap, .int .i64 at_, .int .u8 mk] w fun e w' => e = .returned (.bool true) ∧ Below w.heap.size w w' := by
  by_cases h0 : len = 0
  · subst h0
    obtain rfl : zs = [] := List.length_eq_zero_iff.1 hB.1
    exact tells_empty a cap at_ mk w hB hT
  · have b2 := bounds_u8 h2
    obtain ⟨m, rfl⟩ := Int.eq_ofNat_of_zero_le b2.1
    have h1 : 0 ≤ IntKind.u64.wrap at_ := by rw [IntKind.wrap_u64]; omega
    have h3 : (IntKind.u64.wrap at_).tmod (len : Int) = IntKind.u64.wrap at_ % (len : Int) := Int.tmod_eq_emod_of_nonneg h1
    have h4 := Int.emod_nonneg (IntKind.u64.wrap at_) (b := (len : Int)) (by omega)
    have h5 := Int.emod_lt_of_pos (IntKind.u64.wrap at_) (b := (len : Int)) (by omega)
    obtain ⟨i, hi⟩ := Int.eq_ofNat_of_zero_le h4
    exact tells_some a len cap zs at_ m i w hB (by omega) (by omega) hT (by omega) (h3.trans hi) (by omega)
end Go.Proofs.YtdpoiodaonhjiaaDoor
