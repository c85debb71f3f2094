/- The walks of crc.shiftByte, crc.More, crc.Sum, and of the document's own sum; awake. -/
import Derived.Test.YtoopdmfijbbfdaaDoorBytes
import Derived.Test.YtoopdmfijbbfdaaDoorCrcMath
namespace Go.Proofs.YtoopdmfijbbfdaaDoor
open Go.RowKit
set_option linter.unusedVariables false

/-- The table of crc holds what its text lays. -/
def CrcTab (w : World) : Prop :=
  w.cell? ⟨3, 0, none⟩ = some (.int .u32 0) ∧ w.cell? ⟨3, 1, none⟩ = some (.int .u32 1098587580) ∧
  w.cell? ⟨3, 2, none⟩ = some (.int .u32 2197175160) ∧ w.cell? ⟨3, 3, none⟩ = some (.int .u32 3280807620)
theorem CrcTab.below {w w' : World} (h : CrcTab w) (hb : Below w.heap.size w w') : CrcTab w' := by
  obtain ⟨h0, h1, h2, h3⟩ := h
  exact ⟨(hb.cell (block_lt_of_cell h0)).trans h0, (hb.cell (block_lt_of_cell h1)).trans h1, (hb.cell (block_lt_of_cell h2)).trans h2, (hb.cell (block_lt_of_cell h3)).trans h3⟩

theorem and3 (r : Nat) (h : r < 4294967296) : bits .and .u32 (r : Int) 3 = ((r % 4 : Nat) : Int) := by
  have := bits_and_u .u32 rfl r 3 h (by decide)
  rw [show ((3 : Nat) : Int) = 3 from rfl] at this
  rw [this, show (3 : Nat) = 2 ^ 2 - 1 from rfl, Nat.and_two_pow_sub_one_eq_mod]
theorem and1 (r : Nat) (h : r < 4294967296) : bits .and .u32 (r : Int) 1 = ((r % 2 : Nat) : Int) := by
  have := bits_and_u .u32 rfl r 1 h (by decide)
  rw [show ((1 : Nat) : Int) = 1 from rfl] at this
  rw [this, show (1 : Nat) = 2 ^ 1 - 1 from rfl, Nat.and_two_pow_sub_one_eq_mod]

theorem sh2_walk (q s : Nat) (T : Int) (hq : q < 4294967296) (hs : q % 4 = s) (hT : T = ((crcT s : Nat) : Int)) : bits .xor .u32 ((q : Int) / 4) T = ((sh2 q : Nat) : Int) := by
  subst hT; subst hs
  exact bits_xor_u .u32 rfl (q / 4) (crcT (q % 4)) (by show q / 4 < 4294967296; omega) (crcT_lt _)

set_option maxHeartbeats 1000000 in
theorem shift_any (r : Nat) (w : World) (h : r < 4294967296) (hT : CrcTab w) :
    Calls Tryd.prog 114 #[.int .u32 r] w fun e w' => e = .returned (.int .u32 (sh8 r : Nat)) ∧ w' = w := by
  obtain ⟨c0, c1, c2, c3⟩ := hT
  go_enter Tryd.func114, Tryd.ntmps114
  go_wp2
  go_loop [0, 3] (fun rv iv => ∃ k : Nat, k ≤ 4 ∧ iv = .int .i64 k ∧ rv = .int .u32 (iter sh2 k r : Nat)) (fun _ iv => 4 - (intOf iv).toNat)
  case atStart => exact ⟨0, by omega, rfl, rfl⟩
  case round =>
    obtain ⟨k, hk, rfl, rfl⟩ := hrel
    by_cases hlt : k < 4
    · have hq := iter2_lt k h
      have hstep : iter sh2 (k + 1) r = sh2 (iter sh2 k r) := rfl
      have HS : Hid (_ = _) := hstep
      clear hstep
      generalize iter sh2 k r = q at *
      have ha := and3 q hq
      have hs : q % 4 = 0 ∨ q % 4 = 1 ∨ q % 4 = 2 ∨ q % 4 = 3 := by omega
      rcases hs with hs | hs | hs | hs
      all_goals
        rw [hs] at ha
        have HQ : Hid (_ = _) := hs
        clear hs
        go_wp2
        go_round
        case rel => exact ⟨k + 1, by omega, by go_num, congrArg (Value.int .u32) (by rw [HS.out]; exact sh2_walk q _ _ hq HQ.out rfl)⟩
        case measure => simp [intOf]; omega
    · go_wp2
      go_ret
      obtain rfl : k = 4 := by omega
      exact ⟨rfl, rfl⟩

theorem not32 (s : Nat) (h : s < 4294967296) : bits .xor .u32 IntKind.u32.max (s : Int) = ((4294967295 - s : Nat) : Int) := by
  have e : IntKind.u32.max = ((4294967295 : Nat) : Int) := rfl
  rw [e, bits_xor_u .u32 rfl 4294967295 s (by decide) h]
  congr 1
  have h1 : (BitVec.allOnes 32 ^^^ BitVec.ofNat 32 s).toNat = 4294967295 - s := by
    rw [BitVec.allOnes_xor, BitVec.toNat_not, BitVec.toNat_ofNat, Nat.mod_eq_of_lt (by omega : s < 2 ^ 32)]
  rw [BitVec.toNat_xor, BitVec.toNat_ofNat, Nat.mod_eq_of_lt (by omega : s < 2 ^ 32)] at h1
  exact h1
theorem xorb (r c : Nat) (hr : r < 4294967296) (hc : c < 256) : bits .xor .u32 (r : Int) (c : Int) = ((r ^^^ c : Nat) : Int) := by
  exact bits_xor_u .u32 rfl r c hr (by show c < 4294967296; omega)

set_option maxHeartbeats 1000000 in
theorem more_any (s : Nat) (a : Option Addr) (len cap : Nat) (zs : List Nat) (w : World) (hs : s < 4294967296) (hB : Bs w a len zs) (hT : CrcTab w) :
    Calls Tryd.prog 104 #[.int .u32 s, .slice a len cap] w fun e w' => e = .returned (.int .u32 (crcM s zs : Nat)) ∧ w' = w := by
  have hm : len ≤ 9223372036854775807 := hB.2.1
  go_enter Tryd.func104, Tryd.ntmps104
  go_wp2
  go_loop [5, 12] (fun rv iv => ∃ k : Nat, k ≤ len ∧ iv = .int .i64 k ∧ rv = .int .u32 (crcR (4294967295 - s) (zs.take k) : Nat)) (fun _ iv => len - (intOf iv).toNat)
  case atStart => exact ⟨0, Nat.zero_le _, rfl, congrArg (Value.int .u32) (not32 s hs)⟩
  case round =>
    obtain ⟨k, hk, rfl, rfl⟩ := hrel
    have hr : crcR (4294967295 - s) (zs.take k) < 4294967296 := crcR_lt _ (by omega) (fun x hx => hB.2.2.1 x (List.mem_of_mem_take hx))
    by_cases hlt : k < len
    · have hstep : crcR (4294967295 - s) (zs.take (k + 1)) = sh8 (crcR (4294967295 - s) (zs.take k) ^^^ zs[k]?.getD 0) := by
        rw [take_succ_getD zs k (by rw [hB.1]; exact hlt), crcR_snoc]
      have HS : Hid (_ = _) := hstep
      clear hstep
      have hx : zs[k]?.getD 0 < 256 := getD_mem_lt zs k 256 (by omega) hB.2.2.1
      obtain ⟨b, off, rfl, hb, hc⟩ := hB.pos (by omega)
      have hck := hc k hlt
      clear hc hb
      rw [List.getD_eq_getElem?_getD] at hck
      generalize zs[k]?.getD 0 = c at *
      generalize crcR (4294967295 - s) (zs.take k) = r at *
      go_wp2_with fail
      rw [xorb r c hr hx]
      refine (shift_any (r ^^^ c) _ (xor_lt32 hr (by omega)) hT).mono ?_
      rintro e w' ⟨rfl, rfl⟩
      go_wp2
      go_round
      case rel => exact ⟨k + 1, by omega, by go_num, congrArg (Value.int .u32) (by rw [HS.out])⟩
      case measure => simp [intOf]; omega
    · go_wp2
      go_ret
      have e : zs.take k = zs := List.take_of_length_le (by rw [hB.1]; omega)
      rw [e] at hr ⊢
      exact ⟨congrArg (fun x => Ending.returned (Value.int .u32 x)) (not32 _ hr), rfl⟩

set_option maxHeartbeats 1000000 in
theorem sum_any (a : Option Addr) (len cap : Nat) (zs : List Nat) (w : World) (hB : Bs w a len zs) (hT : CrcTab w) :
    Calls Tryd.prog 86 #[.slice a len cap] w fun e w' => e = .returned (.int .u32 (crcM 0 zs : Nat)) ∧ w' = w := by
  go_enter Tryd.func86, Tryd.ntmps86
  go_wp2_with fail
  refine (more_any 0 a len cap zs _ (by omega) hB hT).mono ?_
  rintro e w' ⟨rfl, rfl⟩
  go_wp2
  go_ret
  exact ⟨rfl, rfl⟩

theorem sh1_walk1 (q : Nat) (hq : q < 4294967296) (h : q % 2 = 1) : bits .xor .u32 ((q : Int) / 2) 2197175160 = ((sh1 q : Nat) : Int) := by
  have := bits_xor_u .u32 rfl (q / 2) 2197175160 (by show q / 2 < 4294967296; omega) (by decide)
  unfold sh1
  rw [if_pos h]
  exact this
theorem sh1_walk0 (q : Nat) (h : q % 2 = 0) : ((q : Int) / 2) = ((sh1 q : Nat) : Int) := by
  unfold sh1
  rw [if_neg (by omega)]
  simp

set_option maxHeartbeats 1000000 in
theorem refMore_any (s : Nat) (a : Option Addr) (len cap : Nat) (zs : List Nat) (w : World) (hs : s < 4294967296) (hB : Bs w a len zs) :
    Calls Tryd.prog 85 #[.int .u32 s, .slice a len cap] w fun e w' => e = .returned (.int .u32 (crcM s zs : Nat)) ∧ w' = w := by
  have hm : len ≤ 9223372036854775807 := hB.2.1
  go_enter Tryd.func85, Tryd.ntmps85
  go_wp2
  go_loop [5, 13] (fun rv iv => ∃ k : Nat, k ≤ len ∧ iv = .int .i64 k ∧ rv = .int .u32 (crcR (4294967295 - s) (zs.take k) : Nat)) (fun _ iv => len - (intOf iv).toNat)
  case atStart => exact ⟨0, Nat.zero_le _, rfl, congrArg (Value.int .u32) (not32 s hs)⟩
  case round =>
    obtain ⟨k, hk, rfl, rfl⟩ := hrel
    have hr : crcR (4294967295 - s) (zs.take k) < 4294967296 := crcR_lt _ (by omega) (fun x hx => hB.2.2.1 x (List.mem_of_mem_take hx))
    by_cases hlt : k < len
    · have hstep : crcR (4294967295 - s) (zs.take (k + 1)) = sh8 (crcR (4294967295 - s) (zs.take k) ^^^ zs[k]?.getD 0) := by
        rw [take_succ_getD zs k (by rw [hB.1]; exact hlt), crcR_snoc]
      have HS : Hid (_ = _) := hstep
      clear hstep
      have hx : zs[k]?.getD 0 < 256 := getD_mem_lt zs k 256 (by omega) hB.2.2.1
      obtain ⟨b, off, rfl, hb, hc⟩ := hB.pos (by omega)
      have hck := hc k hlt
      clear hc hb
      rw [List.getD_eq_getElem?_getD] at hck
      generalize zs[k]?.getD 0 = c at *
      generalize crcR (4294967295 - s) (zs.take k) = r at *
      have hX : Hid (_ = _) := xorb r c hr hx
      have hq0 : r ^^^ c < 4294967296 := xor_lt32 hr (by omega)
      go_wp2
      go_loop [5, 21] (fun rv iv => ∃ j : Nat, j ≤ 8 ∧ iv = .int .i64 j ∧ rv = .int .u32 (iter sh1 j (r ^^^ c) : Nat)) (fun _ iv => 8 - (intOf iv).toNat)
      case atStart => exact ⟨0, by omega, rfl, congrArg (Value.int .u32) hX.out⟩
      case round =>
        obtain ⟨j, hj, rfl, rfl⟩ := hrel
        have hq := iter1_lt j hq0
        have HJ : Hid (iter sh1 (j + 1) (r ^^^ c) = sh1 (iter sh1 j (r ^^^ c))) := rfl
        have H8 : Hid (iter sh1 8 (r ^^^ c) = sh8 (r ^^^ c)) := sh8_iter1 _
        by_cases hjl : j < 8
        · generalize iter sh1 j (r ^^^ c) = q at *
          have ha := and1 q hq
          have hs2 : q % 2 = 0 ∨ q % 2 = 1 := by omega
          rcases hs2 with hs2 | hs2
          · rw [hs2] at ha
            have HQ : Hid (_ = _) := hs2
            clear hs2
            go_wp2
            go_round
            case rel => exact ⟨j + 1, by omega, by go_num, congrArg (Value.int .u32) (by rw [HJ.out]; exact sh1_walk0 q HQ.out)⟩
            case measure => simp [intOf]; omega
          · rw [hs2] at ha
            have HQ : Hid (_ = _) := hs2
            clear hs2
            go_wp2
            go_round
            case rel => exact ⟨j + 1, by omega, by go_num, congrArg (Value.int .u32) (by rw [HJ.out]; exact sh1_walk1 q hq HQ.out)⟩
            case measure => simp [intOf]; omega
        · obtain rfl : j = 8 := by omega
          rw [H8.out]
          go_wp2
          go_round
          case rel => exact ⟨k + 1, by omega, by go_num, congrArg (Value.int .u32) (by rw [HS.out])⟩
          case measure => simp [intOf]; omega
    · go_wp2
      go_ret
      have e : zs.take k = zs := List.take_of_length_le (by rw [hB.1]; omega)
      rw [e] at hr ⊢
      exact ⟨congrArg (fun x => Ending.returned (Value.int .u32 x)) (not32 _ hr), rfl⟩

set_option maxHeartbeats 1000000 in
theorem refSum_any (a : Option Addr) (len cap : Nat) (zs : List Nat) (w : World) (hB : Bs w a len zs) :
    Calls Tryd.prog 72 #[.slice a len cap] w fun e w' => e = .returned (.int .u32 (crcM 0 zs : Nat)) ∧ w' = w := by
  go_enter Tryd.func72, Tryd.ntmps72
  go_wp2_with fail
  refine (refMore_any 0 a len cap zs _ (by omega) hB).mono ?_
  rintro e w' ⟨rfl, rfl⟩
  go_wp2
  go_ret
  exact ⟨rfl, rfl⟩
end Go.Proofs.YtoopdmfijbbfdaaDoor
