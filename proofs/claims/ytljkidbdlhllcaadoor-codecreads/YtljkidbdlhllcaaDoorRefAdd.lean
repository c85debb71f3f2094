/- The walks of the document's list, whatever bits, and add: bits behind a list. -/
import Derived.Test.YtljkidbdlhllcaaDoorRefList
namespace Go.Proofs.YtljkidbdlhllcaaDoor
open Go.RowKit
set_option linter.unusedVariables false

theorem low_walk (n i : Nat) (hn : n < 18446744073709551616) : (bits .and .u64 ((n : Int) / 2 ^ i) 1 == 1) = n.testBit i := by
  have h1 : n / 2 ^ i < 18446744073709551616 := Nat.lt_of_le_of_lt (Nat.div_le_self _ _) hn
  have e : ((n : Int) / 2 ^ i) = ((n / 2 ^ i : Nat) : Int) := by push_cast; rfl
  rw [e, and1_u64 _ h1, Nat.testBit_eq_decide_div_mod_eq]
  have h2 : n / 2 ^ i % 2 = 0 ∨ n / 2 ^ i % 2 = 1 := by omega
  rcases h2 with h2 | h2 <;> rw [h2] <;> rfl
theorem lowBits_take_succ (n count t : Nat) (ht : t < count) : (lowBits n count).take (t + 1) = (lowBits n count).take t ++ [n.testBit (count - 1 - t)] := by
  rw [List.take_succ_eq_append_getElem (by rw [lowBits_length]; exact ht)]
  simp [lowBits]
theorem vt_app (l : List Bool) (b : Bool) : vt l ++ [Value.bool b] = vt (l ++ [b]) := by simp [vt]

end Go.Proofs.YtljkidbdlhllcaaDoor