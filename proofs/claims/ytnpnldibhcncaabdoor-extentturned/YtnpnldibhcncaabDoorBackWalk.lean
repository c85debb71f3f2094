/- The walk of dryrotlaw04.ExtentBack: it returns true. -/
import Derived.Test.YtnpnldibhcncaabDoorExtLaws
namespace Go.Proofs.YtnpnldibhcncaabDoor
open Go.RowKit
set_option linter.unusedVariables false

/-- The first bytes of a slice. -/
theorem Bs.cut {w : World} {a : Option Addr} {len : Nat} {zs : List Nat} (h : Bs w a len zs) (m : Nat) (hm : m ≤ len) : Bs w a m (zs.take m) := by
  obtain ⟨hl, hx, hz, hn, hc⟩ := h
  refine ⟨by simp; omega, by omega, fun x hx => hz x (List.mem_of_mem_take hx), (fun h => by have := hn h; omega), fun x hx j hj => ?_⟩
  rw [hc x hx j (by omega)]
  simp [List.getD_eq_getElem?_getD, hj]

set_option maxHeartbeats 1000000 in
theorem back_few (s : ByteArray) (index gen : Int) (i g j : Nat) (a : Option Addr) (len cap : Nat) (zs pp fz : List Nat) (w : World) (hB : Bs w a len zs) (hcap : len ≤ cap) (hcm : cap ≤ maxLen) (hT : CrcTab w) (hsm : s.size ≤ maxLen)
    (hm : len ≤ 106) (HP : Hid (pp = zs.take len)) (HF : Hid (fz = frameB (nums s) i g pp)) (hi : (IntKind.u64.wrap index).tmod 2147483648 = (i : Int)) (hg : (IntKind.u64.wrap gen).tmod 4611686018427387905 = (g : Int))
    (hi2 : i ≤ 2147483647) (hg2 : g ≤ 4611686018427387904) (hj : ((i : Int) + 1) % 2147483648 = (j : Int)) (HIJ : Hid (i ≠ j)) :
    Calls Tryd.prog 5 #[.string s, .int .i64 index, .int .i64 gen, .slice a len cap] w fun e w' => e = .returned (.bool true) ∧ Below w.heap.size w w' := by
  have hBp := hB.cut len (by omega)
  rw [← HP.out] at hBp
  have hwi : IntKind.i64.wrap (i : Int) = (i : Int) := by rw [IntKind.wrap_i64]; omega
  have hwg : IntKind.i64.wrap (g : Int) = (g : Int) := by rw [IntKind.wrap_i64]; omega
  have hmi : (len : Int) ≤ 106 := by omega
  have hpz := hBp.2.2.1
  have hpl := hBp.1
  have HPL : Hid (pp.length = len) := hpl
  clear hpl
  have HO1 : Hid (openB fz (nums s) (i : Int) = some (pp, g)) := by
    rw [HF.out]; exact openB_frame _ i g pp hi2 hg2 (by rw [HPL.out]; omega)
  have HO2 : Hid (openB fz (nums s) (j : Int) = none) := by
    rw [HF.out]; exact openB_other _ i j g pp hi2 HIJ.out
  clear hB
  go_enter Tryd.func5, Tryd.ntmps5
  go_wp2_with fail
  refine (frame_bs s i g i g rfl rfl a len cap pp _ hBp hT hsm hi2 hg2 (by omega) fz HF).mono ?_
  rintro e w2 ⟨b, rfl, hb, _, hB2, hb2⟩
  have hT2 := hT.below hb2
  have hBp2 := hBp.below hb2
  go_wp2_with fail
  refine (open_yes s i b 0 128 fz _ hB2 (Nat.le_refl _) hT2 hsm pp g len HPL.out hpz HO1).mono ?_
  rintro e w3 ⟨a3, c3, rfl, hB3, hb3⟩
  have hT3 := hT2.below hb3
  have hBp3 := hBp2.below hb3
  have hB23 := hB2.below hb3
  go_wp2_with fail
  refine (equal_any a3 a len c3 len cap pp pp _ hB3 hBp3).mono ?_
  rintro e w4 ⟨rfl, rfl⟩
  rw [decide_eq_true (rfl : pp = pp)]
  go_wp2_with fail
  refine (open_no s j b 0 128 fz _ hB23 (Nat.le_refl _) hT3 hsm HO2).mono ?_
  rintro e w5 ⟨rfl, hb5⟩
  go_wp2
  go_ret
  exact ⟨rfl, hb2.trans ((hb3.mono hb2.size).trans (hb5.mono (Nat.le_trans hb2.size hb3.size)))⟩

set_option maxHeartbeats 1000000 in
theorem back_many (s : ByteArray) (index gen : Int) (i g j : Nat) (a : Option Addr) (len cap : Nat) (zs pp fz : List Nat) (w : World) (hB : Bs w a len zs) (hcap : len ≤ cap) (hcm : cap ≤ maxLen) (hT : CrcTab w) (hsm : s.size ≤ maxLen)
    (hm : ¬ len ≤ 106) (HP : Hid (pp = zs.take 106)) (HF : Hid (fz = frameB (nums s) i g pp)) (hi : (IntKind.u64.wrap index).tmod 2147483648 = (i : Int)) (hg : (IntKind.u64.wrap gen).tmod 4611686018427387905 = (g : Int))
    (hi2 : i ≤ 2147483647) (hg2 : g ≤ 4611686018427387904) (hj : ((i : Int) + 1) % 2147483648 = (j : Int)) (HIJ : Hid (i ≠ j)) :
    Calls Tryd.prog 5 #[.string s, .int .i64 index, .int .i64 gen, .slice a len cap] w fun e w' => e = .returned (.bool true) ∧ Below w.heap.size w w' := by
  have hBp := hB.cut 106 (by omega)
  rw [← HP.out] at hBp
  have hwi : IntKind.i64.wrap (i : Int) = (i : Int) := by rw [IntKind.wrap_i64]; omega
  have hwg : IntKind.i64.wrap (g : Int) = (g : Int) := by rw [IntKind.wrap_i64]; omega
  have hmi : ¬ (len : Int) ≤ 106 := by omega
  have hpz := hBp.2.2.1
  have hpl := hBp.1
  have HPL : Hid (pp.length = 106) := hpl
  clear hpl
  have HO1 : Hid (openB fz (nums s) (i : Int) = some (pp, g)) := by
    rw [HF.out]; exact openB_frame _ i g pp hi2 hg2 (by rw [HPL.out]; omega)
  have HO2 : Hid (openB fz (nums s) (j : Int) = none) := by
    rw [HF.out]; exact openB_other _ i j g pp hi2 HIJ.out
  clear hB
  go_enter Tryd.func5, Tryd.ntmps5
  go_wp2_with fail
  refine (frame_bs s i g i g rfl rfl a 106 cap pp _ hBp hT hsm hi2 hg2 (by omega) fz HF).mono ?_
  rintro e w2 ⟨b, rfl, hb, _, hB2, hb2⟩
  have hT2 := hT.below hb2
  have hBp2 := hBp.below hb2
  go_wp2_with fail
  refine (open_yes s i b 0 128 fz _ hB2 (Nat.le_refl _) hT2 hsm pp g 106 HPL.out hpz HO1).mono ?_
  rintro e w3 ⟨a3, c3, rfl, hB3, hb3⟩
  have hT3 := hT2.below hb3
  have hBp3 := hBp2.below hb3
  have hB23 := hB2.below hb3
  go_wp2_with fail
  refine (equal_any a3 a 106 c3 106 cap pp pp _ hB3 hBp3).mono ?_
  rintro e w4 ⟨rfl, rfl⟩
  rw [decide_eq_true (rfl : pp = pp)]
  go_wp2_with fail
  refine (open_no s j b 0 128 fz _ hB23 (Nat.le_refl _) hT3 hsm HO2).mono ?_
  rintro e w5 ⟨rfl, hb5⟩
  go_wp2
  go_ret
  exact ⟨rfl, hb2.trans ((hb3.mono hb2.size).trans (hb5.mono (Nat.le_trans hb2.size hb3.size)))⟩

theorem umod (x : Int) (n : Nat) (hn : 0 < n) : ∃ i : Nat, (IntKind.u64.wrap x).tmod (n : Int) = (i : Int) ∧ i < n := by
  have h1 : 0 ≤ IntKind.u64.wrap x := by rw [IntKind.wrap_u64]; omega
  have h3 : (IntKind.u64.wrap x).tmod (n : Int) = IntKind.u64.wrap x % (n : Int) := Int.tmod_eq_emod_of_nonneg h1
  have h4 := Int.emod_nonneg (IntKind.u64.wrap x) (b := (n : Int)) (by omega)
  have h5 := Int.emod_lt_of_pos (IntKind.u64.wrap x) (b := (n : Int)) (by omega)
  obtain ⟨i, hi⟩ := Int.eq_ofNat_of_zero_le h4
  exact ⟨i, h3.trans hi, by omega⟩
theorem back_walk (s : ByteArray) (index gen : Int) (a : Option Addr) (len cap : Nat) (zs : List Nat) (w : World) (hB : Bs w a len zs) (hcap : len ≤ cap) (hcm : cap ≤ maxLen) (hT : CrcTab w) (hsm : s.size ≤ maxLen) :
    Calls Tryd.prog 5 #[.string s, .int .i64 index, .int .i64 gen, .slice a len cap] w fun e w' => e = .returned (.bool true) ∧ Below w.heap.size w w' := by
  obtain ⟨i, hi, hi2⟩ := umod index 2147483648 (by omega)
  obtain ⟨g, hg, hg2⟩ := umod gen 4611686018427387905 (by omega)
  obtain ⟨j, hj, hij⟩ : ∃ j : Nat, ((i : Int) + 1) % 2147483648 = (j : Int) ∧ i ≠ j := ⟨(i + 1) % 2147483648, by omega, by omega⟩
  by_cases hm : len ≤ 106
  · exact back_few s index gen i g j a len cap zs _ _ w hB hcap hcm hT hsm hm (hid rfl) (hid rfl) hi hg (by omega) (by omega) hj hij
  · exact back_many s index gen i g j a len cap zs _ _ w hB hcap hcm hT hsm hm (hid rfl) (hid rfl) hi hg (by omega) (by omega) hj hij
end Go.Proofs.YtnpnldibhcncaabDoor
