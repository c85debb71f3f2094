/- Bits over plain numbers: the bit at a place of a row of bytes; a row is told by its bits; what bits may be; the lowest bits of a number. -/
import Derived.Test.YtljkidbdlhllcaaDoorMath
namespace Go.Proofs.YtljkidbdlhllcaaDoor
open Go.RowKit
set_option linter.unusedVariables false

def bitAt (zs : List Nat) (i : Nat) : Bool := (zs.getD (i / 8) 0).testBit (7 - i % 8)
def nb (n : Nat) : Nat := (n + 7) / 8
def isB (zs : List Nat) : Prop := ∀ x ∈ zs, x < 256
def canP (zs : List Nat) (n : Int) : Prop := 0 ≤ n ∧ zs.length = nb n.toNat ∧ ∀ i, i < 8 * zs.length → n.toNat ≤ i → bitAt zs i = false
def canB (zs : List Nat) (n : Int) : Bool := decide (0 ≤ n ∧ zs.length = nb n.toNat) && (List.range (8 * zs.length)).all fun i => decide (i < n.toNat) || !bitAt zs i
theorem canB_iff (zs : List Nat) (n : Int) : canB zs n = true ↔ canP zs n := by
  unfold canB canP
  simp only [Bool.and_eq_true, decide_eq_true_eq, List.all_eq_true, List.mem_range, Bool.or_eq_true, Bool.not_eq_true']
  constructor
  · rintro ⟨⟨h0, h1⟩, h2⟩
    refine ⟨h0, h1, fun i hi hn => ?_⟩
    rcases h2 i hi with h | h
    · omega
    · exact h
  · rintro ⟨h0, h1, h2⟩
    refine ⟨⟨h0, h1⟩, fun i hi => ?_⟩
    by_cases h : i < n.toNat
    · exact .inl h
    · exact .inr (h2 i hi (by omega))

theorem getD_lt {zs : List Nat} (h : isB zs) (j : Nat) : zs.getD j 0 < 256 := by
  rw [List.getD_eq_getElem?_getD]; exact getD_mem_lt zs j 256 (by omega) h
theorem bitAt_out (zs : List Nat) (i : Nat) (h : 8 * zs.length ≤ i) : bitAt zs i = false := by
  unfold bitAt
  rw [List.getD_eq_getElem?_getD, List.getElem?_eq_none (by omega)]
  simp
/-- A row of bytes is told by its length and its bits. -/
theorem row_ext {xs ys : List Nat} (hx : isB xs) (hy : isB ys) (hl : xs.length = ys.length) (h : ∀ i, bitAt xs i = bitAt ys i) : xs = ys := by
  refine List.ext_getElem hl fun j h1 h2 => ?_
  have e1 : xs[j] = xs.getD j 0 := by simp [h1]
  have e2 : ys[j] = ys.getD j 0 := by simp [h2]
  rw [e1, e2]
  refine Nat.eq_of_testBit_eq fun k => ?_
  by_cases hk : k < 8
  · have := h (8 * j + (7 - k))
    unfold bitAt at this
    rw [show (8 * j + (7 - k)) / 8 = j from by omega, show 7 - (8 * j + (7 - k)) % 8 = k from by omega] at this
    exact this
  · have hp : (256 : Nat) ≤ 2 ^ k := by
      have := Nat.pow_le_pow_right (n := 2) (by omega) (show 8 ≤ k by omega)
      exact this
    rw [Nat.testBit_lt_two_pow (Nat.lt_of_lt_of_le (getD_lt hx j) hp), Nat.testBit_lt_two_pow (Nat.lt_of_lt_of_le (getD_lt hy j) hp)]

/-- One bit more. -/
def setBit (ys : List Nat) (i : Nat) (b : Bool) : List Nat := ys.set (i / 8) (ys.getD (i / 8) 0 ||| (if b then 2 ^ (7 - i % 8) else 0))
theorem setBit_length (ys : List Nat) (i : Nat) (b : Bool) : (setBit ys i b).length = ys.length := by simp [setBit]
theorem pow_le_128 (i : Nat) : 2 ^ (7 - i % 8) ≤ 128 := Nat.pow_le_pow_right (n := 2) (by omega) (show 7 - i % 8 ≤ 7 by omega)
theorem or_lt_256 {a b : Nat} (ha : a < 256) (hb : b < 256) : a ||| b < 256 := Nat.or_lt_two_pow (n := 8) ha hb
theorem setBit_isB {ys : List Nat} (h : isB ys) (i : Nat) (b : Bool) : isB (setBit ys i b) := by
  intro x hx
  unfold setBit at hx
  rcases List.mem_or_eq_of_mem_set hx with h' | rfl
  · exact h x h'
  · refine or_lt_256 (getD_lt h _) ?_
    have := pow_le_128 i
    split <;> omega
theorem bitAt_setBit (ys : List Nat) (i : Nat) (b : Bool) (hi : i < 8 * ys.length) (j : Nat) : bitAt (setBit ys i b) j = (bitAt ys j || (decide (j = i) && b)) := by
  unfold bitAt setBit
  by_cases hj : j / 8 = i / 8
  · rw [hj, List.getD_eq_getElem?_getD, List.getElem?_set_self (by omega), Option.getD_some, Nat.testBit_or]
    congr 1
    cases b
    · simp
    · simp only [if_true, Nat.testBit_two_pow, Bool.and_true]
      by_cases hji : j = i
      · subst hji; simp
      · have : ¬ (7 - i % 8 = 7 - j % 8) := by omega
        simp [this, hji]
  · rw [List.getD_eq_getElem?_getD, List.getElem?_set_ne (by omega), ← List.getD_eq_getElem?_getD]
    have : j ≠ i := by rintro rfl; exact hj rfl
    simp [this]

/-- The lowest bits of a number, the highest first. -/
def lowBits (n : Nat) (count : Nat) : List Bool := (List.range count).map fun i => n.testBit (count - 1 - i)
theorem lowBits_length (n count : Nat) : (lowBits n count).length = count := by simp [lowBits]
theorem lowBits_getD (n count i : Nat) (h : i < count) : (lowBits n count).getD i false = n.testBit (count - 1 - i) := by simp [lowBits, h]
/-- The bits of a row, as far as they count. -/
def bitsL (zs : List Nat) (n : Nat) : List Bool := (List.range n).map (bitAt zs)
theorem bitsL_length (zs : List Nat) (n : Nat) : (bitsL zs n).length = n := by simp [bitsL]
theorem bitsL_getD (zs : List Nat) (n i : Nat) (h : i < n) : (bitsL zs n).getD i false = bitAt zs i := by simp [bitsL, h]
theorem bitsL_succ (zs : List Nat) (n : Nat) : bitsL zs (n + 1) = bitsL zs n ++ [bitAt zs n] := by simp [bitsL, List.range_succ]

/-- A row of bytes that is a list of bits, noughts behind them. -/
def IsPack (ys : List Nat) (l : List Bool) : Prop := ys.length = nb l.length ∧ isB ys ∧ ∀ i, bitAt ys i = l.getD i false
theorem IsPack.unique {xs ys : List Nat} {l : List Bool} (hx : IsPack xs l) (hy : IsPack ys l) : xs = ys :=
  row_ext hx.2.1 hy.2.1 (hx.1.trans hy.1.symm) fun i => (hx.2.2 i).trans (hy.2.2 i).symm
theorem getD_app (l m : List Bool) (i : Nat) : (l ++ m).getD i false = if i < l.length then l.getD i false else m.getD (i - l.length) false := by
  split
  · rename_i h; simp [List.getD_eq_getElem?_getD, List.getElem?_append_left h]
  · rename_i h; simp [List.getD_eq_getElem?_getD, List.getElem?_append_right (by omega : l.length ≤ i)]
theorem canP_pack {zs : List Nat} {n : Int} (h : canP zs n) (hb : isB zs) : IsPack zs (bitsL zs n.toNat) := by
  refine ⟨by rw [bitsL_length]; exact h.2.1, hb, fun i => ?_⟩
  by_cases hi : i < n.toNat
  · rw [bitsL_getD zs _ i hi]
  · rw [List.getD_eq_getElem?_getD, List.getElem?_eq_none (by rw [bitsL_length]; omega)]
    by_cases h8 : i < 8 * zs.length
    · exact h.2.2 i h8 (by omega)
    · exact bitAt_out zs i (by omega)
theorem IsPack.can {ys : List Nat} {l : List Bool} (h : IsPack ys l) : canP ys (l.length : Int) := by
  refine ⟨by omega, by rw [Int.toNat_natCast]; exact h.1, fun i _ hi => ?_⟩
  rw [h.2.2 i, List.getD_eq_getElem?_getD, List.getElem?_eq_none (by omega)]; rfl
theorem IsPack.bits {ys : List Nat} {l : List Bool} (h : IsPack ys l) : bitsL ys l.length = l := by
  refine List.ext_getElem (by rw [bitsL_length]) fun i h1 h2 => ?_
  have := bitsL_getD ys l.length i h2
  rw [h.2.2 i] at this
  simpa [List.getD_eq_getElem?_getD, h1, h2] using this
/-- Zero bytes behind a row. -/
theorem bitAt_append_zero (zs : List Nat) (m i : Nat) : bitAt (zs ++ List.replicate m 0) i = bitAt zs i := by
  unfold bitAt
  by_cases h : i / 8 < zs.length
  · rw [List.getD_eq_getElem?_getD, List.getElem?_append_left h, ← List.getD_eq_getElem?_getD]
  · rw [List.getD_eq_getElem?_getD, List.getElem?_append_right (by omega), List.getD_eq_getElem?_getD, List.getElem?_eq_none (l := zs) (by omega)]
    by_cases h2 : i / 8 - zs.length < m
    · simp [h2]
    · simp [h2]

/-- The number that bits say. -/
def numOf (l : List Bool) : Nat := l.foldl (fun n b => n * 2 + b.toNat) 0
theorem numOf_snoc (l : List Bool) (b : Bool) : numOf (l ++ [b]) = numOf l * 2 + b.toNat := by simp [numOf]
theorem numOf_lt (l : List Bool) : numOf l < 2 ^ l.length := by
  suffices H : ∀ (l : List Bool) (a p : Nat), a < p → l.foldl (fun n b => n * 2 + b.toNat) a < p * 2 ^ l.length by
    have := H l 0 1 (by omega); simpa [numOf] using this
  intro l
  induction l with
  | nil => intro a p h; simpa using h
  | cons b t ih =>
    intro a p h
    have hb : b.toNat ≤ 1 := by cases b <;> simp
    have := ih (a * 2 + b.toNat) (p * 2) (by omega)
    simp only [List.foldl_cons, List.length_cons]
    rw [Nat.pow_succ, Nat.mul_comm (2 ^ t.length) 2, ← Nat.mul_assoc]; exact this
end Go.Proofs.YtljkidbdlhllcaaDoor
