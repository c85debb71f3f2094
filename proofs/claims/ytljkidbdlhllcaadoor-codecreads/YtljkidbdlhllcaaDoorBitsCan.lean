/- The walks of bits.bytesOf, bits.isCount, bits.Can. -/
import Derived.Test.YtljkidbdlhllcaaDoorBytes
import Derived.Test.YtljkidbdlhllcaaDoorBitsMath
import Derived.Deep.QuietTactic
import Derived.BigQuiet
namespace Go.Proofs.YtljkidbdlhllcaaDoor
open Go.RowKit
set_option linter.unusedVariables false

set_option maxHeartbeats 1000000 in
theorem bytesOf_any (n : Nat) (w : World) (hn : n ≤ 9223372036854775807) :
    Calls Tryd.prog 55 #[.int .i64 n] w fun e w' => e = .returned (.int .i64 (nb n : Nat)) ∧ w' = w := by
  by_cases h : n % 8 = 0
  · have e1 : nb n = n / 8 := by unfold nb; omega
    have h1 : (((n : Int) % 8) == 0) = true := beq_iff_eq.2 (by omega)
    rw [e1]
    go_enter Tryd.func55, Tryd.ntmps55
    go_wp2
    go_ret
    exact ⟨rfl, rfl⟩
  · have e1 : nb n = n / 8 + 1 := by unfold nb; omega
    have h1 : (((n : Int) % 8) == 0) = false := beq_eq_false_iff_ne.2 (by omega)
    rw [e1]
    go_enter Tryd.func55, Tryd.ntmps55
    go_wp2
    go_ret
    exact ⟨rfl, rfl⟩

set_option maxHeartbeats 1000000 in
theorem isCount_any (n : Int) (w : World) :
    Calls Tryd.prog 47 #[.int .i64 n] w fun e w' => e = .returned (.bool (decide (0 ≤ n ∧ n ≤ 64))) ∧ w' = w := by
  by_cases h0 : 0 ≤ n
  · by_cases h1 : n ≤ 64
    · rw [decide_eq_true (show 0 ≤ n ∧ n ≤ 64 from ⟨h0, h1⟩)]
      have b0 : decide (0 ≤ n) = true := decide_eq_true h0
      go_enter Tryd.func47, Tryd.ntmps47
      go_wp2
      go_ret
      exact ⟨rfl, rfl⟩
    · rw [decide_eq_false (show ¬ (0 ≤ n ∧ n ≤ 64) from fun h => h1 h.2)]
      have b0 : decide (0 ≤ n) = true := decide_eq_true h0
      have b1 : decide (n ≤ 64) = false := decide_eq_false h1
      go_enter Tryd.func47, Tryd.ntmps47
      go_wp2
      go_ret
      exact ⟨rfl, rfl⟩
  · rw [decide_eq_false (show ¬ (0 ≤ n ∧ n ≤ 64) from fun h => h0 h.1)]
    have b0 : decide (0 ≤ n) = false := decide_eq_false h0
    go_enter Tryd.func47, Tryd.ntmps47
    go_wp2
    go_ret
    exact ⟨rfl, rfl⟩

set_option maxHeartbeats 1000000 in
theorem can_neg (a : Option Addr) (len cap : Nat) (n : Int) (w : World) (hn : n < 0) :
    Calls Tryd.prog 46 #[.agg #[.slice a len cap, .int .i64 n]] w fun e w' => e = .returned (.bool false) ∧ Below w.heap.size w w' := by
  have b0 : decide (n < 0) = true := decide_eq_true hn
  go_enter Tryd.func46, Tryd.ntmps46
  go_wp2
  go_quiet (fail)
  go_wp2
  go_ret
  exact ⟨rfl, below_drewN ((Below.refl _ _).alloc (Nat.le_refl _) _) _⟩

set_option maxHeartbeats 1000000 in
theorem can_len (a : Option Addr) (len cap : Nat) (n : Nat) (w : World) (hn : n ≤ 9223372036854775807) (hm : len ≤ 9223372036854775807) (hl : len ≠ nb n) :
    Calls Tryd.prog 46 #[.agg #[.slice a len cap, .int .i64 n]] w fun e w' => e = .returned (.bool false) ∧ Below w.heap.size w w' := by
  have b0 : decide ((n : Int) < 0) = false := decide_eq_false (by omega)
  have b1 : ((len : Int) != (nb n : Int)) = true := by rw [bne_iff_ne]; omega
  go_enter Tryd.func46, Tryd.ntmps46
  go_wp2
  go_quiet ((go_at_call 55; exact Calls.quiet_of_same (bytesOf_any _ _ (by omega))))
  go_wp2
  go_ret
  exact ⟨rfl, below_drewN ((Below.refl _ _).alloc (Nat.le_refl _) _) _⟩

set_option maxHeartbeats 1000000 in
theorem can_whole (a : Option Addr) (len cap : Nat) (n : Nat) (w : World) (hn : n ≤ 9223372036854775807) (hm : len ≤ 9223372036854775807) (hl : len = nb n) (h8 : n % 8 = 0) :
    Calls Tryd.prog 46 #[.agg #[.slice a len cap, .int .i64 n]] w fun e w' => e = .returned (.bool true) ∧ Below w.heap.size w w' := by
  have b0 : decide ((n : Int) < 0) = false := decide_eq_false (by omega)
  have b1 : ((len : Int) != (nb n : Int)) = false := by rw [bne_eq_false_iff_eq]; omega
  have b2 : (((n : Int) % 8) == 0) = true := beq_iff_eq.2 (by omega)
  have HL : Hid _ := hl
  have H8 : Hid _ := h8
  clear hl h8
  go_enter Tryd.func46, Tryd.ntmps46
  go_wp2
  go_quiet ((go_at_call 55; exact Calls.quiet_of_same (bytesOf_any _ _ (by omega))))
  go_wp2
  go_quiet (fail)
  go_wp2
  go_ret
  exact ⟨rfl, below_drewN (below_drewN ((Below.refl _ _).alloc (Nat.le_refl _) _) _) _⟩

theorem can_mask (x n : Nat) (hx : x < 256) (h8 : n % 8 ≠ 0) : (bits .and .u8 (x : Int) (255 / 2 ^ (n % 8)) == 0) = decide (x % 2 ^ (8 - n % 8) = 0) := by
  have hk : n % 8 = 1 ∨ n % 8 = 2 ∨ n % 8 = 3 ∨ n % 8 = 4 ∨ n % 8 = 5 ∨ n % 8 = 6 ∨ n % 8 = 7 := by omega
  have key : ∀ m : Nat, m ≤ 8 → bits .and .u8 (x : Int) ((2 ^ m - 1 : Nat) : Int) = ((x % 2 ^ m : Nat) : Int) := by
    intro m hm
    have hp := Nat.pow_le_pow_right (n := 2) (by omega) hm
    rw [bits_and_u .u8 rfl x (2 ^ m - 1) hx (by show 2 ^ m - 1 < 256; omega), Nat.and_two_pow_sub_one_eq_mod]
  rcases hk with h | h | h | h | h | h | h
  · rw [h, show (255 / 2 ^ 1 : Int) = ((2 ^ 7 - 1 : Nat) : Int) from rfl, key 7 (by omega), Bool.eq_iff_iff]; simp; omega
  · rw [h, show (255 / 2 ^ 2 : Int) = ((2 ^ 6 - 1 : Nat) : Int) from rfl, key 6 (by omega), Bool.eq_iff_iff]; simp; omega
  · rw [h, show (255 / 2 ^ 3 : Int) = ((2 ^ 5 - 1 : Nat) : Int) from rfl, key 5 (by omega), Bool.eq_iff_iff]; simp; omega
  · rw [h, show (255 / 2 ^ 4 : Int) = ((2 ^ 4 - 1 : Nat) : Int) from rfl, key 4 (by omega), Bool.eq_iff_iff]; simp; omega
  · rw [h, show (255 / 2 ^ 5 : Int) = ((2 ^ 3 - 1 : Nat) : Int) from rfl, key 3 (by omega), Bool.eq_iff_iff]; simp; omega
  · rw [h, show (255 / 2 ^ 6 : Int) = ((2 ^ 2 - 1 : Nat) : Int) from rfl, key 2 (by omega), Bool.eq_iff_iff]; simp; omega
  · rw [h, show (255 / 2 ^ 7 : Int) = ((2 ^ 1 - 1 : Nat) : Int) from rfl, key 1 (by omega), Bool.eq_iff_iff]; simp; omega

set_option maxHeartbeats 1000000 in
theorem can_part (b off len cap : Nat) (n x : Nat) (w : World) (hn : n ≤ 9223372036854775807) (hm : len ≤ 9223372036854775807) (hl : len = nb n) (h8 : n % 8 ≠ 0) (hb : b < w.heap.size) (hx : x < 256)
    (hc : w.cell? ⟨b, off + (len - 1), none⟩ = some (.int .u8 x)) :
    Calls Tryd.prog 46 #[.agg #[.slice (some ⟨b, off, none⟩) len cap, .int .i64 n]] w fun e w' => e = .returned (.bool (decide (x % 2 ^ (8 - n % 8) = 0))) ∧ Below w.heap.size w w' := by
  have b0 : decide ((n : Int) < 0) = false := decide_eq_false (by omega)
  have b1 : ((len : Int) != (nb n : Int)) = false := by rw [bne_eq_false_iff_eq]; omega
  have b2 : (((n : Int) % 8) == 0) = false := beq_eq_false_iff_ne.2 (by omega)
  have h1 : 1 ≤ len := by unfold nb at hl; omega
  have HL : Hid _ := hl
  have H8 : Hid _ := h8
  clear hl h8
  go_enter Tryd.func46, Tryd.ntmps46
  go_wp2
  go_quiet ((go_at_call 55; exact Calls.quiet_of_same (bytesOf_any _ _ (by omega))))
  go_wp2
  go_quiet (fail)
  go_wp2
  go_ret
  exact ⟨congrArg (fun x => Ending.returned (Value.bool x)) (can_mask x n hx H8.out), below_drewN (below_drewN ((Below.refl _ _).alloc (Nat.le_refl _) _) _) _⟩

theorem can_tail (zs : List Nat) (n : Nat) (hl : zs.length = nb n) (h8 : n % 8 ≠ 0) : canB zs n = decide (zs.getD (zs.length - 1) 0 % 2 ^ (8 - n % 8) = 0) := by
  rw [Bool.eq_iff_iff, canB_iff, decide_eq_true_eq]
  have hlen : zs.length = n / 8 + 1 := by rw [hl]; unfold nb; omega
  constructor
  · rintro ⟨_, _, h⟩
    refine Nat.eq_of_testBit_eq fun k => ?_
    rw [Nat.testBit_mod_two_pow, Nat.zero_testBit]
    by_cases hk : k < 8 - n % 8
    · have := h (8 * (n / 8) + (7 - k)) (by omega) (by rw [Int.toNat_natCast]; omega)
      unfold bitAt at this
      rw [show (8 * (n / 8) + (7 - k)) / 8 = zs.length - 1 from by omega, show 7 - (8 * (n / 8) + (7 - k)) % 8 = k from by omega] at this
      rw [this]; simp
    · simp [hk]
  · intro h
    refine ⟨by omega, by rw [Int.toNat_natCast]; exact hl, fun i hi hn => ?_⟩
    rw [Int.toNat_natCast] at hn
    unfold bitAt
    rw [show i / 8 = zs.length - 1 from by omega]
    have := congrArg (fun y => y.testBit (7 - i % 8)) h
    simp only [Nat.testBit_mod_two_pow, Nat.zero_testBit] at this
    have hlt : 7 - i % 8 < 8 - n % 8 := by omega
    simpa [hlt] using this

/-- bits.Can: whatever bits. -/
theorem can_any (a : Option Addr) (len cap : Nat) (n : Int) (zs : List Nat) (w : World) (hB : Bs w a len zs) (hn : n ≤ 9223372036854775807) :
    Calls Tryd.prog 46 #[.agg #[.slice a len cap, .int .i64 n]] w fun e w' => e = .returned (.bool (canB zs n)) ∧ Below w.heap.size w w' := by
  have hm : len ≤ 9223372036854775807 := hB.2.1
  have hl := hB.1
  by_cases h0 : n < 0
  · have e : canB zs n = false := by
      rw [Bool.eq_false_iff]; intro h; have := (canB_iff zs n).1 h; unfold canP at this; omega
    rw [e]; exact can_neg a len cap n w h0
  · obtain ⟨m, rfl⟩ := Int.eq_ofNat_of_zero_le (show 0 ≤ n by omega)
    by_cases h1 : len = nb m
    · by_cases h2 : m % 8 = 0
      · have e : canB zs m = true := by
          rw [canB_iff]
          refine ⟨by omega, by rw [Int.toNat_natCast]; omega, fun i hi hn => ?_⟩
          rw [Int.toNat_natCast] at hn
          unfold nb at h1
          omega
        rw [e]; exact can_whole a len cap m w (by omega) hm h1 h2
      · rw [can_tail zs m (by omega) h2]
        have hpos : 0 < len := by unfold nb at h1; omega
        obtain ⟨b, off, rfl, hb, hc⟩ := hB.pos hpos
        rw [hl]
        exact can_part b off len cap m _ w (by omega) hm h1 h2 hb (getD_lt hB.2.2.1 _) (hc (len - 1) (by omega))
    · have e : canB zs m = false := by
        rw [Bool.eq_false_iff]; intro h
        have := ((canB_iff zs m).1 h).2.1
        rw [Int.toNat_natCast] at this
        omega
      rw [e]; exact can_len a len cap m w (by omega) hm h1
end Go.Proofs.YtljkidbdlhllcaaDoor
