/- The walk of dryrotlaw04.ExtentFrames: it returns true. -/
import Derived.Test.YtnpnldibhcncaabDoorExtLaws
import Derived.Test.YtnpnldibhcncaabDoorRefFrame
namespace Go.Proofs.YtnpnldibhcncaabDoor
open Go.RowKit
set_option linter.unusedVariables false

theorem refFrame_bs (s : ByteArray) (I G : Int) (i g : Nat) (hI : I = i) (hG : G = g) (a : Option Addr) (len cap : Nat) (p : List Nat) (w : World) (hB : Bs w a len p) (hnil : a = none → cap = 0) (hsm : s.size ≤ maxLen) (hi : i ≤ 2147483647) (hg : g ≤ 4611686018427387904) (hl : len ≤ 106) (fz : List Nat) (HF : Hid (fz = frameB (nums s) i g p)) :
    Calls Tryd.prog 9 #[.string s, .int .i64 I, .int .i64 G, .slice a len cap] w fun e w' => ∃ a' c', e = .returned (.tuple #[.slice a' 128 c', .int .i64 0]) ∧ Bs w' a' 128 fz ∧ Below w.heap.size w w' := by
  refine (refFrame_ok s I G i g hI hG a len cap p w hB hnil hsm hi hg hl).mono ?_
  rintro e w' ⟨v, he, hown, hb⟩
  obtain ⟨a', c', rfl, hB'⟩ := bs_of_own hown (frameB_lt _ _ _ _ (by rw [hB.1]; exact hl) hB.2.2.1)
  rw [← HF.out] at hB'
  exact ⟨a', c', he, hB', hb⟩

set_option maxHeartbeats 1000000 in
theorem frames_yes (s : ByteArray) (I G : Int) (i g : Nat) (hI : I = i) (hG : G = g) (a : Option Addr) (len cap : Nat) (p fz : List Nat) (w : World) (hB : Bs w a len p) (hnil : a = none → cap = 0) (hT : CrcTab w) (hsm : s.size ≤ maxLen) (hi : i ≤ 2147483647) (hg : g ≤ 4611686018427387904) (hl : len ≤ 106) (HF : Hid (fz = frameB (nums s) i g p)) :
    Calls Tryd.prog 3 #[.string s, .int .i64 I, .int .i64 G, .slice a len cap] w fun e w' => e = .returned (.bool true) ∧ Below w.heap.size w w' := by
  have HI : Hid (I = i) := hI
  have HG : Hid (G = g) := hG
  clear hI hG
  go_enter Tryd.func3, Tryd.ntmps3
  go_wp2_with fail
  refine (clone_any a len cap p _ hB (by omega)).mono ?_
  rintro e w1 ⟨v, rfl, hown, hb1⟩
  obtain ⟨a1, cap1, hv, hB1⟩ := bs_of_own hown hB.2.2.1
  subst hv
  have hB' := hB.below hb1
  have hT1 := hT.below hb1
  clear hown hB
  go_wp2_with fail
  refine (frame_bs s I G i g HI.out HG.out a1 len cap1 p _ hB1 hT1 hsm hi hg hl fz HF).mono ?_
  rintro e w2 ⟨b, rfl, hb, _, hB2, hb2⟩
  have hB1' := hB1.below hb2
  have hB'' := hB'.below hb2
  have hT2 := hT1.below hb2
  clear hB1 hB'
  go_wp2_with fail
  refine (refFrame_bs s I G i g HI.out HG.out a len cap p _ hB'' hnil hsm hi hg hl fz HF).mono ?_
  rintro e w3 ⟨a3, c3, rfl, hB3, hb3⟩
  have hB2' := hB2.below hb3
  have hG1 := hB1'.below hb3
  have hG2 := hB''.below hb3
  have hT3 := hT2.below hb3
  clear hB2 hB1' hB''
  go_wp2_with fail
  refine (equal_any _ a3 128 128 128 c3 fz fz _ hB2' hB3).mono ?_
  rintro e w4 ⟨rfl, rfl⟩
  rw [decide_eq_true (rfl : fz = fz)]
  go_wp2_with fail
  refine (equal_any a1 a len cap1 len cap p p _ hG1 hG2).mono ?_
  rintro e w5 ⟨rfl, rfl⟩
  rw [decide_eq_true (rfl : p = p)]
  go_wp2_with fail
  refine (awake4_any _ hT3).mono ?_
  rintro e w6 ⟨rfl, hb6⟩
  go_wp2
  go_ret
  exact ⟨rfl, hb1.trans ((hb2.mono hb1.size).trans ((hb3.mono (Nat.le_trans hb1.size hb2.size)).trans (hb6.mono (Nat.le_trans hb1.size (Nat.le_trans hb2.size hb3.size)))))⟩

set_option maxHeartbeats 1000000 in
theorem frames_no (s : ByteArray) (I G : Int) (a : Option Addr) (len cap : Nat) (p : List Nat) (w : World) (hB : Bs w a len p) (hT : CrcTab w) (hr : len ≤ 140737488355328) (hc : canB I G len = false) :
    Calls Tryd.prog 3 #[.string s, .int .i64 I, .int .i64 G, .slice a len cap] w fun e w' => e = .returned (.bool true) ∧ Below w.heap.size w w' := by
  have HC : Hid (canB I G len = false) := hc
  clear hc
  go_enter Tryd.func3, Tryd.ntmps3
  go_wp2_with fail
  refine (clone_any a len cap p _ hB hr).mono ?_
  rintro e w1 ⟨v, rfl, hown, hb1⟩
  obtain ⟨a1, cap1, hv, hB1⟩ := bs_of_own hown hB.2.2.1
  subst hv
  have hB' := hB.below hb1
  have hT1 := hT.below hb1
  clear hown hB
  go_wp2_with fail
  refine (frame_no s I G a1 len cap1 _ HC.out).mono ?_
  rintro e w2 ⟨rfl, hb2⟩
  have hB1' := hB1.below hb2
  have hB'' := hB'.below hb2
  have hT2 := hT1.below hb2
  clear hB1 hB'
  go_wp2_with fail
  refine (refFrame_no s I G a len cap _ HC.out).mono ?_
  rintro e w3 ⟨rfl, hb3⟩
  have hG1 := hB1'.below hb3
  have hG2 := hB''.below hb3
  have hT3 := hT2.below hb3
  clear hB1' hB''
  go_wp2_with fail
  refine (equal_any none none 0 0 0 0 [] [] _ (Bs.nil _) (Bs.nil _)).mono ?_
  rintro e w4 ⟨rfl, rfl⟩
  rw [decide_eq_true (rfl : ([] : List Nat) = [])]
  go_wp2_with fail
  refine (equal_any a1 a len cap1 len cap p p _ hG1 hG2).mono ?_
  rintro e w5 ⟨rfl, rfl⟩
  rw [decide_eq_true (rfl : p = p)]
  go_wp2_with fail
  refine (awake4_any _ hT3).mono ?_
  rintro e w6 ⟨rfl, hb6⟩
  go_wp2
  go_ret
  exact ⟨rfl, hb1.trans ((hb2.mono hb1.size).trans ((hb3.mono (Nat.le_trans hb1.size hb2.size)).trans (hb6.mono (Nat.le_trans hb1.size (Nat.le_trans hb2.size hb3.size)))))⟩

theorem frames_walk (s : ByteArray) (I G : Int) (a : Option Addr) (len cap : Nat) (p : List Nat) (w : World) (hB : Bs w a len p) (hnil : a = none → cap = 0) (hT : CrcTab w) (hsm : s.size ≤ maxLen) (hr : len ≤ 140737488351232) :
    Calls Tryd.prog 3 #[.string s, .int .i64 I, .int .i64 G, .slice a len cap] w fun e w' => e = .returned (.bool true) ∧ Below w.heap.size w w' := by
  cases hc : canB I G len with
  | false => exact frames_no s I G a len cap p w hB hT (by omega) hc
  | true =>
    obtain ⟨c1, c2, c3, c4, c5⟩ := of_decide_eq_true hc
    obtain ⟨i, rfl⟩ := Int.eq_ofNat_of_zero_le c1
    obtain ⟨g, rfl⟩ := Int.eq_ofNat_of_zero_le c3
    exact frames_yes s i g i g rfl rfl a len cap p _ w hB hnil hT hsm (by omega) (by omega) c5 (hid rfl)
end Go.Proofs.YtnpnldibhcncaabDoor
