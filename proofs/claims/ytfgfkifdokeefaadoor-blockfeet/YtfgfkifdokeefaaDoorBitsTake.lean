/- The walks of bits.isPlace and bits.Take. -/
import Derived.Test.YtfgfkifdokeefaaDoorBitsPutWalk
namespace Go.Proofs.YtfgfkifdokeefaaDoor.Cd
open Go.RowKit
set_option linter.unusedVariables false

/-- The bits of a window. -/
def win (zs : List Nat) (at_ count : Nat) : List Bool := (List.range count).map fun i => bitAt zs (at_ + i)
theorem win_length (zs : List Nat) (at_ count : Nat) : (win zs at_ count).length = count := by simp [win]
theorem win_succ (zs : List Nat) (at_ k : Nat) : win zs at_ (k + 1) = win zs at_ k ++ [bitAt zs (at_ + k)] := by simp [win, List.range_succ]
theorem take_step (N y i : Nat) (hN : N < 9223372036854775808) (hy : y < 256) :
    bits .or .u64 ((N : Int) * 2) (IntKind.u64.wrap (bits .and .u8 ((y : Int) / 2 ^ (7 - i % 8)) 1)) = ((N * 2 + (y.testBit (7 - i % 8)).toNat : Nat) : Int) := by
  generalize 7 - i % 8 = m
  have hq : y / 2 ^ m < 256 := Nat.lt_of_le_of_lt (Nat.div_le_self _ _) hy
  have e : ((y : Int) / 2 ^ m) = ((y / 2 ^ m : Nat) : Int) := by push_cast; rfl
  have h1 : bits .and .u8 ((y / 2 ^ m : Nat) : Int) 1 = ((y / 2 ^ m % 2 : Nat) : Int) := by
    have := bits_and_u .u8 rfl (y / 2 ^ m) 1 hq (by decide)
    rw [show ((1 : Nat) : Int) = 1 from rfl] at this
    rw [this, show (1 : Nat) = 2 ^ 1 - 1 from rfl, Nat.and_two_pow_sub_one_eq_mod]
  have hb : (y.testBit m).toNat = y / 2 ^ m % 2 := by
    rw [Nat.testBit_eq_decide_div_mod_eq]
    have : y / 2 ^ m % 2 = 0 ∨ y / 2 ^ m % 2 = 1 := by omega
    rcases this with h | h <;> rw [h] <;> rfl
  rw [e, h1, hb]
  generalize hr : y / 2 ^ m % 2 = r
  have hr2 : r < 2 := by omega
  rw [wrap_u_lt .u64 rfl r (by show r < 18446744073709551616; omega), show ((N : Int) * 2) = ((N * 2 : Nat) : Int) from by push_cast; rfl,
    bits_or_u .u64 rfl (N * 2) r (by show N * 2 < 18446744073709551616; omega) (by show r < 18446744073709551616; omega), show N * 2 = N * 2 ^ 1 from rfl, shl_or N r 1 (by omega)]

/-- What taking answers, whatever it is given. -/
def tE (zs : List Nat) (x at_ count : Int) : Int := if ¬ (canB zs x = true ∧ (0 ≤ count ∧ count ≤ 64) ∧ (0 ≤ at_ ∧ at_ ≤ x)) then 1 else if x - at_ < count then 3 else 0
def tV (zs : List Nat) (x at_ count : Int) : Nat := if tE zs x at_ count = 0 then numOf (win zs at_.toNat count.toNat) else 0

end Go.Proofs.YtfgfkifdokeefaaDoor.Cd
