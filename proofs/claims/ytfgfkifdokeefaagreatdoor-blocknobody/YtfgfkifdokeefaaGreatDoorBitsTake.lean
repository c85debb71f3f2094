/- The walks of bits.isPlace and bits.Take. -/
import Derived.Test.YtfgfkifdokeefaaGreatDoorBitsPutWalk
namespace Go.Proofs.YtfgfkifdokeefaaGreatDoor.Cd
open Go.RowKit
set_option linter.unusedVariables false

set_option maxHeartbeats 1000000 in
theorem isPlace_any (a : Option Addr) (len cap : Nat) (x at_ : Int) (w : World) :
    Calls Tryz.prog 289 #[.agg #[.slice a len cap, .int .i64 x], .int .i64 at_] w fun e w' => e = .returned (.bool (decide (0 ≤ at_ ∧ at_ ≤ x))) ∧ Below w.heap.size w w' := by
  by_cases h0 : 0 ≤ at_
  · have b0 : decide (0 ≤ at_) = true := decide_eq_true h0
    have HD : Hid (decide (0 ≤ at_ ∧ at_ ≤ x) = decide (at_ ≤ x)) := decide_eq_decide.2 (by simp [h0])
    go_enter Tryz.func289, Tryz.ntmps289
    go_wp2
    go_ret
    rw [HD.out]
    exact ⟨rfl, (Below.refl _ _).alloc (Nat.le_refl _) _⟩
  · have b0 : decide (0 ≤ at_) = false := decide_eq_false h0
    have HD : Hid (decide (0 ≤ at_ ∧ at_ ≤ x) = false) := decide_eq_false (fun h => h0 h.1)
    clear h0
    go_enter Tryz.func289, Tryz.ntmps289
    go_wp2
    go_ret
    rw [HD.out]
    exact ⟨rfl, (Below.refl _ _).alloc (Nat.le_refl _) _⟩

set_option maxHeartbeats 2000000 in
theorem take_bad (a : Option Addr) (len cap : Nat) (x at_ count : Int) (zs : List Nat) (w : World) (hB : Bs w a len zs) (hx : x ≤ 9223372036854775807)
    (hbad : ¬ (canB zs x = true ∧ (0 ≤ count ∧ count ≤ 64) ∧ (0 ≤ at_ ∧ at_ ≤ x))) :
    Calls Tryz.prog 267 #[.agg #[.slice a len cap, .int .i64 x], .int .i64 at_, .int .i64 count] w fun e w' =>
      e = .returned (.tuple #[.int .u64 0, .int .i64 1]) ∧ Below w.heap.size w w' := by
  have h0 : Below w.heap.size w (w.alloc (.cells #[.slice a len cap, .int .i64 x] 282)) := (Below.refl w.heap.size w).alloc (Nat.le_refl _) _
  have hB2 := hB.below h0
  have HB : Hid _ := hbad
  clear hbad
  go_enter Tryz.func267, Tryz.ntmps267
  go_wp2_with fail
  refine (can_any a len cap x zs _ hB2 hx).mono ?_
  rintro e w1 ⟨rfl, hb1⟩
  have c0 : w1.cell? ⟨w.heap.size, 0, none⟩ = some (.slice a len cap) := (hb1.cell (by simp)).trans (by simp)
  have c1 : w1.cell? ⟨w.heap.size, 1, none⟩ = some (.int .i64 x) := (hb1.cell (by simp)).trans (by simp)
  have hbw := h0.trans (hb1.mono (by simp))
  cases hcan : canB zs x with
  | false =>
    clear hcan
    go_wp2
    go_ret2
    exact ⟨rfl, hbw⟩
  | true =>
    have HC : Hid _ := hcan
    clear hcan
    go_wp2_with fail
    refine (isCount_any count _).mono ?_
    rintro e w1 ⟨rfl, rfl⟩
    by_cases hc : 0 ≤ count ∧ count ≤ 64
    · rw [decide_eq_true hc]
      have hat : Hid (decide (0 ≤ at_ ∧ at_ ≤ x) = false) := decide_eq_false (fun h => HB.out ⟨HC.out, hc, h⟩)
      clear hc
      go_wp2_with fail
      refine (isPlace_any a len cap x at_ _).mono ?_
      rintro e w2 ⟨rfl, hb2⟩
      rw [hat.out]
      go_wp2
      go_ret2
      exact ⟨rfl, hbw.trans (hb2.mono hbw.size)⟩
    · rw [decide_eq_false hc]
      clear hc
      go_wp2
      go_ret2
      exact ⟨rfl, hbw⟩

set_option maxHeartbeats 2000000 in
theorem take_short (a : Option Addr) (len cap : Nat) (x at_ count : Nat) (zs : List Nat) (w : World) (hB : Bs w a len zs) (hx : x ≤ 9223372036854775807)
    (hcan : canB zs x = true) (hc : count ≤ 64) (hat : at_ ≤ x) (hs : x < at_ + count) :
    Calls Tryz.prog 267 #[.agg #[.slice a len cap, .int .i64 x], .int .i64 at_, .int .i64 count] w fun e w' =>
      e = .returned (.tuple #[.int .u64 0, .int .i64 3]) ∧ Below w.heap.size w w' := by
  have h0 : Below w.heap.size w (w.alloc (.cells #[.slice a len cap, .int .i64 x] 282)) := (Below.refl w.heap.size w).alloc (Nat.le_refl _) _
  have hB2 := hB.below h0
  have HC : Hid _ := hcan
  have H1 : Hid (decide (0 ≤ (count : Int) ∧ (count : Int) ≤ 64) = true) := decide_eq_true (by omega)
  have H2 : Hid (decide (0 ≤ (at_ : Int) ∧ (at_ : Int) ≤ (x : Int)) = true) := decide_eq_true (by omega)
  clear hcan
  go_enter Tryz.func267, Tryz.ntmps267
  go_wp2_with fail
  refine (can_any a len cap x zs _ hB2 (by omega)).mono ?_
  rintro e w1 ⟨rfl, hb1⟩
  rw [HC.out]
  have c0 : w1.cell? ⟨w.heap.size, 0, none⟩ = some (.slice a len cap) := (hb1.cell (by simp)).trans (by simp)
  have c1 : w1.cell? ⟨w.heap.size, 1, none⟩ = some (.int .i64 x) := (hb1.cell (by simp)).trans (by simp)
  have hbw := h0.trans (hb1.mono (by simp))
  go_wp2_with fail
  refine (isCount_any count _).mono ?_
  rintro e w1 ⟨rfl, rfl⟩
  rw [decide_eq_true (show 0 ≤ (count : Int) ∧ (count : Int) ≤ 64 by omega)]
  go_wp2_with fail
  refine (isPlace_any a len cap x at_ _).mono ?_
  rintro e w2 ⟨rfl, hb2⟩
  rw [decide_eq_true (show 0 ≤ (at_ : Int) ∧ (at_ : Int) ≤ (x : Int) by omega)]
  have c1' : w2.cell? ⟨w.heap.size, 1, none⟩ = some (.int .i64 x) := (hb2.cell (block_lt_of_cell c1)).trans c1
  go_wp2
  go_ret2
  exact ⟨rfl, hbw.trans (hb2.mono hbw.size)⟩

/-- The bits of a window. -/
def win (zs : List Nat) (at_ count : Nat) : List Bool := (List.range count).map fun i => bitAt zs (at_ + i)
theorem win_length (zs : List Nat) (at_ count : Nat) : (win zs at_ count).length = count := by simp [win]
theorem win_succ (zs : List Nat) (at_ k : Nat) : win zs at_ (k + 1) = win zs at_ k ++ [bitAt zs (at_ + k)] := by simp [win, List.range_succ]
theorem take_step (N y i : Nat) (hN : N < 9223372036854775808) (hy : y < 256) :
    bits .or .u64 ((N : Int) * 2) (IntKind.u64.wrap (bits .and .u8 ((y : Int) / 2 ^ (7 - i % 8)) 1)) = ((N * 2 + (y.testBit (7 - i % 8)).toNat : Nat) : Int) := by
  generalize 7 - i % 8 = m
  have hq : y / 2 ^ m < 256 := Nat.lt_of_le_of_lt (Nat.div_le_self _ _) hy
  have e : ((y : Int) / 2 ^ m) = ((y / 2 ^ m : Nat) : Int) := by push_cast; rfl
  have h1 : bits .and .u8 ((y / 2 ^ m : Nat) : Int) 1 = ((y / 2 ^ m % 2 : Nat) : Int) := by
    have := bits_and_u .u8 rfl (y / 2 ^ m) 1 hq (by decide)
    rw [show ((1 : Nat) : Int) = 1 from rfl] at this
    rw [this, show (1 : Nat) = 2 ^ 1 - 1 from rfl, Nat.and_two_pow_sub_one_eq_mod]
  have hb : (y.testBit m).toNat = y / 2 ^ m % 2 := by
    rw [Nat.testBit_eq_decide_div_mod_eq]
    have : y / 2 ^ m % 2 = 0 ∨ y / 2 ^ m % 2 = 1 := by omega
    rcases this with h | h <;> rw [h] <;> rfl
  rw [e, h1, hb]
  generalize hr : y / 2 ^ m % 2 = r
  have hr2 : r < 2 := by omega
  rw [wrap_u_lt .u64 rfl r (by show r < 18446744073709551616; omega), show ((N : Int) * 2) = ((N * 2 : Nat) : Int) from by push_cast; rfl,
    bits_or_u .u64 rfl (N * 2) r (by show N * 2 < 18446744073709551616; omega) (by show r < 18446744073709551616; omega), show N * 2 = N * 2 ^ 1 from rfl, shl_or N r 1 (by omega)]

set_option maxHeartbeats 2000000 in
theorem take_ok (a : Option Addr) (len cap : Nat) (x at_ count : Nat) (zs : List Nat) (w : World) (hB : Bs w a len zs) (hx : x ≤ 9223372036854775807) (hm : len ≤ 137438953472)
    (hcan : canB zs x = true) (hc : count ≤ 64) (hat : at_ + count ≤ x) :
    Calls Tryz.prog 267 #[.agg #[.slice a len cap, .int .i64 x], .int .i64 at_, .int .i64 count] w fun e w' =>
      e = .returned (.tuple #[.int .u64 (numOf (win zs at_ count) : Nat), .int .i64 0]) ∧ Below w.heap.size w w' := by
  have h0 : Below w.heap.size w (w.alloc (.cells #[.slice a len cap, .int .i64 x] 282)) := (Below.refl w.heap.size w).alloc (Nat.le_refl _) _
  have hB2 := hB.below h0
  have hxl : x ≤ 8 * len := by
    have := ((canB_iff zs x).1 hcan).2.1
    rw [Int.toNat_natCast, hB.1] at this
    unfold nb at this
    omega
  have HC : Hid _ := hcan
  clear hcan
  go_enter Tryz.func267, Tryz.ntmps267
  go_wp2_with fail
  refine (can_any a len cap x zs _ hB2 (by omega)).mono ?_
  rintro e w1 ⟨rfl, hb1⟩
  rw [HC.out]
  have c0 : w1.cell? ⟨w.heap.size, 0, none⟩ = some (.slice a len cap) := (hb1.cell (by simp)).trans (by simp)
  have c1 : w1.cell? ⟨w.heap.size, 1, none⟩ = some (.int .i64 x) := (hb1.cell (by simp)).trans (by simp)
  have hbw := h0.trans (hb1.mono (by simp))
  go_wp2_with fail
  refine (isCount_any count _).mono ?_
  rintro e w1 ⟨rfl, rfl⟩
  rw [decide_eq_true (show 0 ≤ (count : Int) ∧ (count : Int) ≤ 64 by omega)]
  go_wp2_with fail
  refine (isPlace_any a len cap x at_ _).mono ?_
  rintro e w2 ⟨rfl, hb2⟩
  rw [decide_eq_true (show 0 ≤ (at_ : Int) ∧ (at_ : Int) ≤ (x : Int) by omega)]
  have c0' : w2.cell? ⟨w.heap.size, 0, none⟩ = some (.slice a len cap) := (hb2.cell (block_lt_of_cell c0)).trans c0
  have c1' : w2.cell? ⟨w.heap.size, 1, none⟩ = some (.int .i64 x) := (hb2.cell (block_lt_of_cell c1)).trans c1
  have hbw2 := hbw.trans (hb2.mono hbw.size)
  have hB3 := hB.below hbw2
  clear c0 c1 hb1 hb2 hB2 h0
  go_wp2
  go_loop [8, 9] (fun nv iv => ∃ k : Nat, k ≤ count ∧ iv = .int .i64 ((at_ + k : Nat) : Int) ∧ nv = .int .u64 (numOf (win zs at_ k) : Nat)) (fun _ iv => at_ + count - (intOf iv).toNat)
  case atStart => exact ⟨0, by omega, rfl, rfl⟩
  case round =>
    obtain ⟨k, hk, rfl, rfl⟩ := hrel
    by_cases hlt : k < count
    · obtain ⟨b, off, rfl, hb, hcl⟩ := hB3.pos (by omega)
      obtain ⟨i, hi⟩ : ∃ i, i = at_ + k := ⟨_, rfl⟩
      have hck := hcl (i / 8) (by omega)
      rw [← hi]
      have HI : Hid _ := hi
      have hil : i < at_ + count := by omega
      have hN : numOf (win zs at_ k) < 9223372036854775808 := by
        have h1 := numOf_lt (win zs at_ k)
        rw [win_length] at h1
        have h2 := Nat.pow_le_pow_right (n := 2) (by omega) (show k ≤ 63 by omega)
        exact Nat.lt_of_lt_of_le h1 h2
      have hy := getD_lt hB3.2.2.1 (i / 8)
      have HS : Hid (numOf (win zs at_ (k + 1)) = numOf (win zs at_ k) * 2 + ((zs.getD (i / 8) 0).testBit (7 - i % 8)).toNat) := by
        show _ = _
        rw [win_succ, numOf_snoc, ← hi]; rfl
      clear hi hcl
      have hi8 : i / 8 < len := by omega
      generalize zs.getD (i / 8) 0 = y at *
      generalize numOf (win zs at_ k) = N at *
      go_wp2
      go_round
      case rel => exact ⟨k + 1, by omega, congrArg (Value.int .i64) (by have := HI.out; omega), congrArg (Value.int .u64) (by rw [HS.out]; exact take_step N y i hN hy)⟩
      case measure => simp [intOf]; omega
    · go_wp2
      go_ret2
      obtain rfl : k = count := by omega
      exact ⟨rfl, hbw2⟩

/-- What taking answers, whatever it is given. -/
def tE (zs : List Nat) (x at_ count : Int) : Int := if ¬ (canB zs x = true ∧ (0 ≤ count ∧ count ≤ 64) ∧ (0 ≤ at_ ∧ at_ ≤ x)) then 1 else if x - at_ < count then 3 else 0
def tV (zs : List Nat) (x at_ count : Int) : Nat := if tE zs x at_ count = 0 then numOf (win zs at_.toNat count.toNat) else 0

theorem take_all (a : Option Addr) (len cap : Nat) (x at_ count : Int) (zs : List Nat) (w : World) (hB : Bs w a len zs) (hx : x ≤ 9223372036854775807) (hm : len ≤ 137438953472) :
    Calls Tryz.prog 267 #[.agg #[.slice a len cap, .int .i64 x], .int .i64 at_, .int .i64 count] w fun e w' =>
      e = .returned (.tuple #[.int .u64 (tV zs x at_ count : Nat), .int .i64 (tE zs x at_ count)]) ∧ Below w.heap.size w w' := by
  by_cases hg : canB zs x = true ∧ (0 ≤ count ∧ count ≤ 64) ∧ (0 ≤ at_ ∧ at_ ≤ x)
  · obtain ⟨hcan, ⟨hc0, hc1⟩, ha0, ha1⟩ := hg
    obtain ⟨c, rfl⟩ := Int.eq_ofNat_of_zero_le hc0
    obtain ⟨p, rfl⟩ := Int.eq_ofNat_of_zero_le ha0
    obtain ⟨n, rfl⟩ := Int.eq_ofNat_of_zero_le (show 0 ≤ x by omega)
    by_cases hs : (n : Int) - p < c
    · have e1 : tE zs n p c = 3 := by unfold tE; rw [if_neg (fun h => h ⟨hcan, ⟨hc0, hc1⟩, ha0, ha1⟩), if_pos hs]
      have e2 : tV zs n p c = 0 := by unfold tV; rw [e1]; rfl
      rw [e1, e2]
      exact take_short a len cap n p c zs w hB (by omega) hcan (by omega) (by omega) (by omega)
    · have e1 : tE zs n p c = 0 := by unfold tE; rw [if_neg (fun h => h ⟨hcan, ⟨hc0, hc1⟩, ha0, ha1⟩), if_neg hs]
      have e2 : tV zs n p c = numOf (win zs p c) := by unfold tV; rw [e1]; rfl
      rw [e1, e2]
      exact take_ok a len cap n p c zs w hB (by omega) hm hcan (by omega) (by omega)
  · have e1 : tE zs x at_ count = 1 := by unfold tE; rw [if_pos hg]
    have e2 : tV zs x at_ count = 0 := by unfold tV; rw [e1]; rfl
    rw [e1, e2]
    exact take_bad a len cap x at_ count zs w hB hx hg
end Go.Proofs.YtfgfkifdokeefaaGreatDoor.Cd
