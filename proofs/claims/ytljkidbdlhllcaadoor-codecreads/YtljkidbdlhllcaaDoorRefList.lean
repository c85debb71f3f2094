/- The walk of the document's list: bits as a list, or none. -/
import Derived.Test.YtljkidbdlhllcaaDoorBitsLonger
namespace Go.Proofs.YtljkidbdlhllcaaDoor
open Go.RowKit
set_option linter.unusedVariables false
theorem Tryd.info4 : (Tryd.prog.info? 4).map (fun i => (i.zero, i.size, i.bytes)) = some (some (.bool false), 1, 1) := by kernel_rfl

def vt (l : List Bool) : List Value := l.map Value.bool

theorem bit_walk (y i : Nat) (hy : y < 256) : (bits .and .u8 (y : Int) (128 / 2 ^ (i % 8)) != 0) = y.testBit (7 - i % 8) := by
  have hk : i % 8 = 0 ∨ i % 8 = 1 ∨ i % 8 = 2 ∨ i % 8 = 3 ∨ i % 8 = 4 ∨ i % 8 = 5 ∨ i % 8 = 6 ∨ i % 8 = 7 := by omega
  have key : ∀ m : Nat, m ≤ 7 → (bits .and .u8 (y : Int) ((2 ^ m : Nat) : Int) != 0) = y.testBit m := by
    intro m hm
    have hp := Nat.pow_le_pow_right (n := 2) (by omega) hm
    rw [bits_and_u .u8 rfl y (2 ^ m) hy (by show 2 ^ m < 256; omega)]
    rw [Bool.eq_iff_iff, bne_iff_ne]
    have e : y &&& 2 ^ m = if y.testBit m then 2 ^ m else 0 := by
      refine Nat.eq_of_testBit_eq fun j => ?_
      rw [Nat.testBit_and, Nat.testBit_two_pow]
      by_cases hj : m = j
      · subst hj; cases h : y.testBit m <;> simp [Nat.testBit_two_pow_self]
      · cases h : y.testBit m <;> simp [hj]
    rw [e]
    have hpos := Nat.two_pow_pos m
    cases h : y.testBit m
    · simp
    · simp only [if_true]
      generalize 2 ^ m = p at hpos ⊢
      simp
      omega
  rcases hk with h | h | h | h | h | h | h | h
  · rw [h]; exact key 7 (by omega)
  · rw [h]; exact key 6 (by omega)
  · rw [h]; exact key 5 (by omega)
  · rw [h]; exact key 4 (by omega)
  · rw [h]; exact key 3 (by omega)
  · rw [h]; exact key 2 (by omega)
  · rw [h]; exact key 1 (by omega)
  · rw [h]; exact key 0 (by omega)

theorem can_no {zs : List Nat} {n k : Nat} (hk : k < 8 * zs.length) (hn : n ≤ k) (hb : bitAt zs k = true) : canB zs n = false := by
  rw [Bool.eq_false_iff]
  intro h
  have := ((canB_iff zs n).1 h).2.2 k hk (by rw [Int.toNat_natCast]; exact hn)
  rw [hb] at this; cases this
theorem can_yes {zs : List Nat} {n : Nat} (hl : zs.length = nb n) (h : ∀ j, j < 8 * zs.length → n ≤ j → bitAt zs j = false) : canB zs n = true := by
  rw [canB_iff]
  exact ⟨by omega, by rw [Int.toNat_natCast]; exact hl, fun i hi hn => h i hi (by rw [Int.toNat_natCast] at hn; exact hn)⟩
theorem vt_snoc (zs : List Nat) (k : Nat) : vt (bitsL zs k) ++ [Value.bool (bitAt zs k)] = vt (bitsL zs (k + 1)) := by simp [vt, bitsL_succ]
theorem vt_length (zs : List Nat) (k : Nat) : (vt (bitsL zs k)).length = k := by simp [vt, bitsL_length]

end Go.Proofs.YtljkidbdlhllcaaDoor