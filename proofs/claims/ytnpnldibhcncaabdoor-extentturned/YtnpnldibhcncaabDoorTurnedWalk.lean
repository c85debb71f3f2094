/- The walk of dryrotlaw04.ExtentTurned: it returns true. -/
import Derived.Test.YtnpnldibhcncaabDoorBackWalk
import Derived.ProofKit
import Derived.OpenShut
namespace Go.Proofs.YtnpnldibhcncaabDoor
open Go.RowKit
set_option linter.unusedVariables false

theorem or1_u8 (m : Nat) (h : m < 256) : bits .or .u8 (m : Int) 1 = ((m ||| 1 : Nat) : Int) := bits_or_u .u8 rfl m 1 h (by decide)
theorem xor_u8 (x y : Nat) (hx : x < 256) (hy : y < 256) : bits .xor .u8 (x : Int) (y : Int) = ((x ^^^ y : Nat) : Int) := bits_xor_u .u8 rfl x y hx hy
theorem or1_lt (m : Nat) (h : m < 256) : m ||| 1 < 256 := Nat.or_lt_two_pow (n := 8) h (by decide)
theorem or1_ne (m : Nat) : m ||| 1 ≠ 0 := by
  intro h
  have := congrArg (fun x => x.testBit 0) h
  simp at this
theorem xor_ne (x y : Nat) (h : y ≠ 0) : x ^^^ y ≠ x := by
  intro e
  have : x ^^^ y = x ^^^ 0 := by simpa using e
  exact h (xor_cancel_left this)

/-- A byte of a block that is another one. -/
theorem bs_set_block {w : World} {b t : Nat} {zs : List Nat} (h : w.heap[b]? = some (.cells (vb zs).toArray t (0, 0))) (hm : zs.length ≤ maxLen) (hz : ∀ x ∈ zs, x < 256) (k y : Nat) (hy : y < 256) :
    Bs (w.setCell ⟨b, k, none⟩ (.int .u8 (y : Int))) (some ⟨b, 0, none⟩) zs.length (zs.set k y) := by
  have h2 : (w.setCell ⟨b, k, none⟩ (.int .u8 (y : Int))).heap[b]? = some (.cells (vb (zs.set k y)).toArray t (0, 0)) := by
    rw [setCell_eq_setRow _ _ _ _ _ _ _ h, List.setIfInBounds_toArray, vb_set]
    exact setRow_heap _ _ _ _ _ _ h
  have := bs_of_block h2 (by simpa using hm) (fun x hx => by
    rcases List.mem_or_eq_of_mem_set hx with h | rfl
    · exact hz x h
    · exact hy)
  rwa [List.length_set] at this

set_option maxHeartbeats 1000000 in
theorem turned_few (s : ByteArray) (index at_ : Int) (i k mk mo : Nat) (a : Option Addr) (len cap : Nat) (zs pp fz fz2 : List Nat) (w : World) (hB : Bs w a len zs) (hcap : len ≤ cap) (hcm : cap ≤ maxLen) (hT : CrcTab w) (hsm : s.size ≤ maxLen)
    (hm : len ≤ 106) (HP : Hid (pp = zs.take len)) (HF : Hid (fz = frameB (nums s) i 3 pp)) (hi : (IntKind.u64.wrap index).tmod 2147483648 = (i : Int)) (hk : (IntKind.u64.wrap at_).tmod 128 = (k : Int))
    (hi2 : i ≤ 2147483647) (hk2 : k < 128) (hmo : bits .or .u8 (mk : Int) 1 = (mo : Int)) (HM0 : Hid (mo ≠ 0)) (HM1 : Hid (mo < 256)) (xb yb : Nat) (HX : Hid (xb = fz.getD k 0)) (HY : Hid (yb = xb ^^^ mo)) (HF2 : Hid (fz2 = fz.set k yb)) :
    Calls Tryd.prog 6 #[.string s, .int .i64 index, .slice a len cap, .int .i64 at_, .int .u8 mk] w fun e w' => e = .returned (.bool true) ∧ Below w.heap.size w w' := by
  have hBp := hB.cut len (by omega)
  rw [← HP.out] at hBp
  have hwi : IntKind.i64.wrap (i : Int) = (i : Int) := by rw [IntKind.wrap_i64]; omega
  have hwk : IntKind.i64.wrap (k : Int) = (k : Int) := by rw [IntKind.wrap_i64]; omega
  have hmi : (len : Int) ≤ 106 := by omega
  have hpz := hBp.2.2.1
  have HPL : Hid (pp.length = len) := hBp.1
  have hfl : fz.length = 128 := by rw [HF.out]; exact frameB_length _ _ _ _ (by rw [HPL.out]; omega)
  have hfz : ∀ x ∈ fz, x < 256 := by rw [HF.out]; exact frameB_lt _ _ _ _ (by rw [HPL.out]; omega) hpz
  have hxb : xb < 256 := by rw [HX.out, List.getD_eq_getElem?_getD]; exact getD_mem_lt fz k 256 (by omega) hfz
  have hyb : yb < 256 := by rw [HY.out]; exact Nat.xor_lt_two_pow (n := 8) hxb HM1.out
  have hxo : bits .xor .u8 (xb : Int) (mo : Int) = (yb : Int) := by rw [HY.out]; exact xor_u8 xb mo hxb HM1.out
  have HO : Hid (openB fz2 (nums s) (i : Int) = none) := by
    rw [HF2.out, HF.out]
    refine openB_turned _ i i 3 pp (by rw [HPL.out]; omega) hpz k yb hk2 hyb ?_
    rw [← HF.out, ← HX.out, HY.out]
    exact xor_ne _ _ HM0.out
  have HFL : Hid (fz.length = 128) := hfl
  clear hB hfl
  go_enter Tryd.func6, Tryd.ntmps6
  go_wp2_with fail
  refine (frame_bs s i 3 i 3 rfl rfl a len cap pp _ hBp hT hsm hi2 (by omega) (by omega) fz HF).mono ?_
  rintro e w2 ⟨b, rfl, hb, hblk, hB2, hb2⟩
  have hck := hB2.at k hk2
  rw [← HX.out, Nat.zero_add] at hck
  have hfk := frozen_of_row _ _ k _ _ hblk
  have hb3 : Below w.heap.size w (w2.setCell ⟨b, k, none⟩ (.int .u8 (yb : Int))) := hb2.setCell hb _
  have hB3 := bs_set_block hblk (by rw [HFL.out]; decide) hfz k yb hyb
  rw [HFL.out, ← HF2.out] at hB3
  have hT3 := hT.below hb3
  have HBLK : Hid (_ = _) := hblk
  clear hblk hB2
  go_wp2_with fail
  refine (open_no s i b 0 128 fz2 _ hB3 (Nat.le_refl _) hT3 hsm HO).mono ?_
  rintro e w5 ⟨rfl, hb5⟩
  go_wp2
  go_ret
  exact ⟨rfl, hb3.trans (hb5.mono hb3.size)⟩

set_option maxHeartbeats 1000000 in
theorem turned_many (s : ByteArray) (index at_ : Int) (i k mk mo : Nat) (a : Option Addr) (len cap : Nat) (zs pp fz fz2 : List Nat) (w : World) (hB : Bs w a len zs) (hcap : len ≤ cap) (hcm : cap ≤ maxLen) (hT : CrcTab w) (hsm : s.size ≤ maxLen)
    (hm : ¬ len ≤ 106) (HP : Hid (pp = zs.take 106)) (HF : Hid (fz = frameB (nums s) i 3 pp)) (hi : (IntKind.u64.wrap index).tmod 2147483648 = (i : Int)) (hk : (IntKind.u64.wrap at_).tmod 128 = (k : Int))
    (hi2 : i ≤ 2147483647) (hk2 : k < 128) (hmo : bits .or .u8 (mk : Int) 1 = (mo : Int)) (HM0 : Hid (mo ≠ 0)) (HM1 : Hid (mo < 256)) (xb yb : Nat) (HX : Hid (xb = fz.getD k 0)) (HY : Hid (yb = xb ^^^ mo)) (HF2 : Hid (fz2 = fz.set k yb)) :
    Calls Tryd.prog 6 #[.string s, .int .i64 index, .slice a len cap, .int .i64 at_, .int .u8 mk] w fun e w' => e = .returned (.bool true) ∧ Below w.heap.size w w' := by
  have hBp := hB.cut 106 (by omega)
  rw [← HP.out] at hBp
  have hwi : IntKind.i64.wrap (i : Int) = (i : Int) := by rw [IntKind.wrap_i64]; omega
  have hwk : IntKind.i64.wrap (k : Int) = (k : Int) := by rw [IntKind.wrap_i64]; omega
  have hmi : ¬ (len : Int) ≤ 106 := by omega
  have hpz := hBp.2.2.1
  have HPL : Hid (pp.length = 106) := hBp.1
  have hfl : fz.length = 128 := by rw [HF.out]; exact frameB_length _ _ _ _ (by rw [HPL.out]; omega)
  have hfz : ∀ x ∈ fz, x < 256 := by rw [HF.out]; exact frameB_lt _ _ _ _ (by rw [HPL.out]; omega) hpz
  have hxb : xb < 256 := by rw [HX.out, List.getD_eq_getElem?_getD]; exact getD_mem_lt fz k 256 (by omega) hfz
  have hyb : yb < 256 := by rw [HY.out]; exact Nat.xor_lt_two_pow (n := 8) hxb HM1.out
  have hxo : bits .xor .u8 (xb : Int) (mo : Int) = (yb : Int) := by rw [HY.out]; exact xor_u8 xb mo hxb HM1.out
  have HO : Hid (openB fz2 (nums s) (i : Int) = none) := by
    rw [HF2.out, HF.out]
    refine openB_turned _ i i 3 pp (by rw [HPL.out]; omega) hpz k yb hk2 hyb ?_
    rw [← HF.out, ← HX.out, HY.out]
    exact xor_ne _ _ HM0.out
  have HFL : Hid (fz.length = 128) := hfl
  clear hB hfl
  go_enter Tryd.func6, Tryd.ntmps6
  go_wp2_with fail
  refine (frame_bs s i 3 i 3 rfl rfl a 106 cap pp _ hBp hT hsm hi2 (by omega) (by omega) fz HF).mono ?_
  rintro e w2 ⟨b, rfl, hb, hblk, hB2, hb2⟩
  have hck := hB2.at k hk2
  rw [← HX.out, Nat.zero_add] at hck
  have hfk := frozen_of_row _ _ k _ _ hblk
  have hb3 : Below w.heap.size w (w2.setCell ⟨b, k, none⟩ (.int .u8 (yb : Int))) := hb2.setCell hb _
  have hB3 := bs_set_block hblk (by rw [HFL.out]; decide) hfz k yb hyb
  rw [HFL.out, ← HF2.out] at hB3
  have hT3 := hT.below hb3
  have HBLK : Hid (_ = _) := hblk
  clear hblk hB2
  go_wp2_with fail
  refine (open_no s i b 0 128 fz2 _ hB3 (Nat.le_refl _) hT3 hsm HO).mono ?_
  rintro e w5 ⟨rfl, hb5⟩
  go_wp2
  go_ret
  exact ⟨rfl, hb3.trans (hb5.mono hb3.size)⟩

theorem turned_walk (s : ByteArray) (index : Int) (a : Option Addr) (len cap : Nat) (zs : List Nat) (at_ mk : Int) (w : World) (hB : Bs w a len zs) (hcap : len ≤ cap) (hcm : cap ≤ maxLen) (hmk : (Lit.int .u8 mk).wf = true) (hT : CrcTab w) (hsm : s.size ≤ maxLen) :
    Calls Tryd.prog 6 #[.string s, .int .i64 index, .slice a len cap, .int .i64 at_, .int .u8 mk] w fun e w' => e = .returned (.bool true) ∧ Below w.heap.size w w' := by
  obtain ⟨i, hi, hi2⟩ := umod index 2147483648 (by omega)
  obtain ⟨k, hk, hk2⟩ := umod at_ 128 (by omega)
  have b2 := bounds_u8 hmk
  obtain ⟨m, rfl⟩ := Int.eq_ofNat_of_zero_le b2.1
  have hm256 : m < 256 := by omega
  by_cases hm : len ≤ 106
  · exact turned_few s index at_ i k m (m ||| 1) a len cap zs _ _ _ w hB hcap hcm hT hsm hm (hid rfl) (hid rfl) hi hk (by omega) hk2 (or1_u8 m hm256) (hid (or1_ne m)) (hid (or1_lt m hm256)) _ _ (hid rfl) (hid rfl) (hid rfl)
  · exact turned_many s index at_ i k m (m ||| 1) a len cap zs _ _ _ w hB hcap hcm hT hsm hm (hid rfl) (hid rfl) hi hk (by omega) hk2 (or1_u8 m hm256) (hid (or1_ne m)) (hid (or1_lt m hm256)) _ _ (hid rfl) (hid rfl) (hid rfl)
end Go.Proofs.YtnpnldibhcncaabDoor
