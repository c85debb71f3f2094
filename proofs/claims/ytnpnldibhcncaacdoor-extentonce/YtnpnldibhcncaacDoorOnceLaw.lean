/- The walk of dryrotlaw04.ExtentOnce: it returns true. -/
import Derived.Test.YtnpnldibhcncaacDoorExtLaws
namespace Go.Proofs.YtnpnldibhcncaacDoor
open Go.RowKit
set_option linter.unusedVariables false

set_option maxHeartbeats 1000000 in
theorem once_no (s : ByteArray) (i : Int) (a : Option Addr) (len cap : Nat) (zs : List Nat) (w : World) (hB : Bs w a len zs) (hcap : len ≤ cap) (hT : CrcTab w) (hsm : s.size ≤ maxLen) (HO : Hid (openB zs (nums s) i = none)) :
    Calls Tryd.prog 3 #[.slice a len cap, .string s, .int .i64 i] w fun e w' => e = .returned (.bool true) ∧ Below w.heap.size w w' := by
  go_enter Tryd.func3, Tryd.ntmps3
  go_wp2_with fail
  refine (open_any s i a len cap zs _ hB hcap hT hsm).mono ?_
  rw [HO.out]
  rintro e w2 ⟨hb2, rfl⟩
  have hT2 := hT.below hb2
  go_wp2_with fail
  refine (awake4_any _ hT2).mono ?_
  rintro e w6 ⟨rfl, hb6⟩
  go_wp2
  go_ret
  exact ⟨rfl, hb2.trans (hb6.mono hb2.size)⟩

set_option maxHeartbeats 1000000 in
theorem once_yes (s : ByteArray) (i : Int) (a : Option Addr) (len cap : Nat) (zs : List Nat) (w : World) (hB : Bs w a len zs) (hcap : len ≤ cap) (hT : CrcTab w) (hsm : s.size ≤ maxLen)
    (p : List Nat) (g j pl : Nat) (HO : Hid (openB zs (nums s) i = some (p, g))) (HI : Hid (i = j)) (HPL : Hid (p.length = pl)) (HF : Hid (zs = frameB (nums s) j g p)) (hj : j ≤ 2147483647) (hg : g ≤ 4611686018427387904) (hpl : pl ≤ 106) (HZ : Hid (∀ x ∈ p, x < 256)) (h128 : len = 128) :
    Calls Tryd.prog 3 #[.slice a len cap, .string s, .int .i64 i] w fun e w' => e = .returned (.bool true) ∧ Below w.heap.size w w' := by
  subst h128
  go_enter Tryd.func3, Tryd.ntmps3
  go_wp2_with fail
  refine (open_any s i a 128 cap zs _ hB hcap hT hsm).mono ?_
  rw [HO.out]
  rintro e w2 ⟨hb2, v, rfl, hown⟩
  rw [HPL.out] at hown
  obtain ⟨a2, c2, rfl, hB2⟩ := bs_of_own hown HZ.out
  have hT2 := hT.below hb2
  have hB' := hB.below hb2
  clear hB hown
  go_wp2_with fail
  refine (frame_bs s i g j g HI.out rfl a2 pl c2 p _ hB2 hT2 hsm hj hg hpl zs HF).mono ?_
  rintro e w3 ⟨b, rfl, hb, _, hB3, hb3⟩
  have hT3 := hT2.below hb3
  have hB'' := hB'.below hb3
  go_wp2_with fail
  refine (equal_any _ a 128 128 128 cap zs zs _ hB3 hB'').mono ?_
  rintro e w4 ⟨rfl, rfl⟩
  rw [decide_eq_true (rfl : zs = zs)]
  go_wp2_with fail
  refine (awake4_any _ hT3).mono ?_
  rintro e w6 ⟨rfl, hb6⟩
  go_wp2
  go_ret
  exact ⟨rfl, hb2.trans ((hb3.mono hb2.size).trans (hb6.mono (Nat.le_trans hb2.size hb3.size)))⟩
theorem once_walk (s : ByteArray) (i : Int) (a : Option Addr) (len cap : Nat) (zs : List Nat) (w : World) (hB : Bs w a len zs) (hcap : len ≤ cap) (hT : CrcTab w) (hsm : s.size ≤ maxLen) :
    Calls Tryd.prog 3 #[.slice a len cap, .string s, .int .i64 i] w fun e w' => e = .returned (.bool true) ∧ Below w.heap.size w w' := by
  cases ho : openB zs (nums s) i with
  | none => exact once_no s i a len cap zs w hB hcap hT hsm (hid ho)
  | some x =>
    obtain ⟨p, g⟩ := x
    obtain ⟨hz, hc⟩ := openB_some ho
    obtain ⟨c1, c2, c3, c4, c5⟩ := of_decide_eq_true hc
    obtain ⟨j, rfl⟩ := Int.eq_ofNat_of_zero_le c1
    have hl : len = 128 := by
      rw [← hB.1, hz]; exact frameB_length _ _ _ _ c5
    have hp : ∀ x ∈ p, x < 256 := by
      intro x hx
      refine hB.2.2.1 x ?_
      rw [hz]
      simp [frameB, headB, hx]
    exact once_yes s j a len cap zs w hB hcap hT hsm p g j _ (hid ho) (hid rfl) (hid rfl) (hid (by simpa using hz)) (by omega) (by omega) c5 (hid hp) hl
end Go.Proofs.YtnpnldibhcncaacDoor
