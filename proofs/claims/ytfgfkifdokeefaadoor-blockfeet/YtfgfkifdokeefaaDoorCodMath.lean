/- Samples as bits: rows of bytes with a tail that is not whole yet; the document's bits of samples. -/
import Derived.Test.YtfgfkifdokeefaaDoorBackMath
import Derived.Lib.TrailingZeros
import Derived.Lib.BitFns
namespace Go.Proofs.YtfgfkifdokeefaaDoor.Cd
open Go.RowKit
set_option linter.unusedVariables false

theorem bitAt_app (xs ys : List Nat) (i : Nat) : bitAt (xs ++ ys) i = if i < 8 * xs.length then bitAt xs i else bitAt ys (i - 8 * xs.length) := by
  unfold bitAt
  split
  · rename_i h
    rw [List.getD_eq_getElem?_getD, List.getElem?_append_left (by omega), ← List.getD_eq_getElem?_getD]
  · rename_i h
    rw [List.getD_eq_getElem?_getD, List.getElem?_append_right (by omega), ← List.getD_eq_getElem?_getD, show i / 8 - xs.length = (i - 8 * xs.length) / 8 from by omega, show (i - 8 * xs.length) % 8 = i % 8 from by omega]
theorem bitsL_get (zs : List Nat) (n i : Nat) : (bitsL zs n).getD i false = if i < n then bitAt zs i else false := by
  split
  · rename_i h; exact bitsL_getD zs n i h
  · rename_i h; rw [List.getD_eq_getElem?_getD, List.getElem?_eq_none (by rw [bitsL_length]; omega)]; rfl
theorem bools_ext {l m : List Bool} (hl : l.length = m.length) (h : ∀ i, l.getD i false = m.getD i false) : l = m := by
  refine List.ext_getElem hl fun i h1 h2 => ?_
  have := h i
  simpa [List.getD_eq_getElem?_getD, h1, h2] using this
theorem bitsL_app (xs ys : List Nat) (n : Nat) : bitsL (xs ++ ys) (8 * xs.length + n) = bitsL xs (8 * xs.length) ++ bitsL ys n := by
  refine bools_ext (by simp [bitsL_length]) fun i => ?_
  rw [getD_app, bitsL_get, bitsL_get, bitsL_get, bitsL_length, bitAt_app]
  by_cases h1 : i < 8 * xs.length
  · simp [h1, show i < 8 * xs.length + n from by omega]
  · simp only [h1, if_false]
    by_cases h2 : i < 8 * xs.length + n
    · simp [h2, show i - 8 * xs.length < n from by omega]
    · simp [h2, show ¬ i - 8 * xs.length < n from by omega]
theorem isB_app {xs ys : List Nat} (hx : isB xs) (hy : isB ys) : isB (xs ++ ys) := by
  intro x h
  rcases List.mem_append.1 h with h | h
  · exact hx x h
  · exact hy x h
theorem isB_take {xs : List Nat} (hx : isB xs) (n : Nat) : isB (xs.take n) := fun x h => hx x (List.mem_of_mem_take h)
theorem isB_drop {xs : List Nat} (hx : isB xs) (n : Nat) : isB (xs.drop n) := fun x h => hx x (List.mem_of_mem_drop h)
theorem pack_app {xs ys : List Nat} {T : List Bool} (hx : isB xs) (h : IsPack ys T) : IsPack (xs ++ ys) (bitsL xs (8 * xs.length) ++ T) := by
  refine ⟨?_, isB_app hx h.2.1, fun i => ?_⟩
  · rw [List.length_append, List.length_append, bitsL_length, h.1]; unfold nb; omega
  · rw [bitAt_app, getD_app, bitsL_length, bitsL_get]
    by_cases h1 : i < 8 * xs.length
    · simp [h1]
    · simp only [h1, if_false]; exact h.2.2 _
theorem getD_takeB (l : List Bool) (n i : Nat) : (l.take n).getD i false = if i < n then l.getD i false else false := by
  rw [List.getD_eq_getElem?_getD, List.getElem?_take]
  split
  · rw [List.getD_eq_getElem?_getD]
  · rfl
theorem getD_dropB (l : List Bool) (n i : Nat) : (l.drop n).getD i false = l.getD (n + i) false := by
  rw [List.getD_eq_getElem?_getD, List.getElem?_drop, List.getD_eq_getElem?_getD]
theorem pack_take {ys : List Nat} {T : List Bool} (h : IsPack ys T) (f : Nat) (hf : 8 * f ≤ T.length) : IsPack (ys.take f) (T.take (8 * f)) := by
  have hl := h.1
  have hfy : f ≤ ys.length := by rw [hl]; unfold nb; omega
  refine ⟨?_, isB_take h.2.1 f, fun i => ?_⟩
  · rw [List.length_take, List.length_take]; unfold nb; omega
  · rw [getD_takeB]
    have hb := h.2.2 i
    have ha := bitAt_app (ys.take f) (ys.drop f) i
    rw [List.take_append_drop, List.length_take, Nat.min_eq_left hfy] at ha
    by_cases h1 : i < 8 * f
    · rw [if_pos h1] at ha ⊢; rw [← ha, hb]
    · rw [if_neg h1]; exact bitAt_out _ _ (by rw [List.length_take]; omega)
theorem pack_drop {ys : List Nat} {T : List Bool} (h : IsPack ys T) (f : Nat) (hf : 8 * f ≤ T.length) : IsPack (ys.drop f) (T.drop (8 * f)) := by
  have hl := h.1
  have hfy : f ≤ ys.length := by rw [hl]; unfold nb; omega
  refine ⟨?_, isB_drop h.2.1 f, fun i => ?_⟩
  · rw [List.length_drop, List.length_drop, hl]; unfold nb; omega
  · rw [getD_dropB]
    have hb := h.2.2 (8 * f + i)
    have ha := bitAt_app (ys.take f) (ys.drop f) (8 * f + i)
    rw [List.take_append_drop, List.length_take, Nat.min_eq_left hfy, if_neg (by omega), show 8 * f + i - 8 * f = i from by omega] at ha
    rw [← ha, hb]

/-- What a writer holds: whole bytes, and a tail of fewer than eight bits. -/
structure WS (zs ys : List Nat) (T L : List Bool) : Prop where
  whole : isB zs
  tail : IsPack ys T
  few : T.length < 8
  all : L = bitsL zs (8 * zs.length) ++ T
theorem WS.pack {zs ys : List Nat} {T L : List Bool} (h : WS zs ys T L) : IsPack (zs ++ ys) L := by rw [h.all]; exact pack_app h.whole h.tail
theorem WS.part {zs ys : List Nat} {T L : List Bool} (hz : isB zs) (h : IsPack ys T) (hL : L = bitsL zs (8 * zs.length) ++ T) :
    WS (zs ++ ys.take (T.length / 8)) (ys.drop (T.length / 8)) (T.drop (8 * (T.length / 8))) L := by
  have hf : 8 * (T.length / 8) ≤ T.length := by omega
  have h1 := pack_take h _ hf
  refine ⟨isB_app hz h1.2.1, pack_drop h _ hf, by rw [List.length_drop]; omega, ?_⟩
  have hl1 : (ys.take (T.length / 8)).length = T.length / 8 := by have := h.1; unfold nb at this; rw [List.length_take]; omega
  have hb := h1.bits
  rw [List.length_take, Nat.min_eq_left hf] at hb
  have ha := bitsL_app zs (ys.take (T.length / 8)) (8 * (T.length / 8))
  rw [List.length_append, hl1, show 8 * (zs.length + T.length / 8) = 8 * zs.length + 8 * (T.length / 8) from by omega, ha, hb, hL, List.append_assoc, List.take_append_drop]

/-- A sample: its time and the bits of its value. -/
structure Sam where
  t : Int
  v : Nat
def SamOK (s : Sam) : Prop := -9223372036854775808 ≤ s.t ∧ s.t ≤ 9223372036854775807 ∧ s.v < 18446744073709551616
def samD (l : List Sam) (k : Nat) : Sam := l.getD k ⟨0, 0⟩
def stepS (l : List Sam) : Nat → Int
  | 0 => 0
  | k + 1 => wrap64 ((samD l (k + 1)).t - (samD l k).t)
def hiZ (x : Nat) : Nat := 64 - Lib.bitLen x
def loZ (x : Nat) : Nat := Lib.ctz 64 x
def widZ (x : Nat) : Nat := 64 - hiZ x - loZ x
def turned (x : Nat) : List Bool :=
  if x = 0 then lowBits 0 1 else lowBits 1 1 ++ (lowBits (hiZ x) 6 ++ (lowBits (widZ x - 1) 6 ++ lowBits (x / 2 ^ loZ x) (widZ x)))
def encOne (l : List Sam) : Nat → List Bool
  | 0 => lowBits (u64 (samD l 0).t) 64 ++ lowBits (samD l 0).v 64
  | k + 1 => intBits (wrap64 (stepS l (k + 1) - stepS l k)) ++ turned ((samD l (k + 1)).v ^^^ (samD l k).v)
def encTo (l : List Sam) : Nat → List Bool
  | 0 => lowBits l.length 16
  | k + 1 => encTo l k ++ encOne l k
def encS (l : List Sam) : List Bool := encTo l l.length
def riseS (l : List Sam) : Prop := ∀ k, k + 1 < l.length → (samD l k).t < (samD l (k + 1)).t
def canS (l : List Sam) : Bool := decide (l.length ≤ 65535) && (List.range (l.length - 1)).all fun k => decide ((samD l k).t < (samD l (k + 1)).t)
theorem canS_iff (l : List Sam) : canS l = true ↔ l.length ≤ 65535 ∧ riseS l := by
  unfold canS riseS
  simp only [Bool.and_eq_true, decide_eq_true_eq, List.all_eq_true, List.mem_range]
  constructor
  · rintro ⟨h1, h2⟩; exact ⟨h1, fun k hk => h2 k (by omega)⟩
  · rintro ⟨h1, h2⟩; exact ⟨h1, fun k hk => h2 k (by omega)⟩
theorem putB_pack (n : Nat) : ∀ k, IsPack (putB n k) (lowBits n (8 * k)) := by
  intro k
  induction k generalizing n with
  | zero => exact ⟨by simp [putB, lowBits_length, nb], by simp [putB, isB], fun i => by rw [bitAt_out _ _ (by simp [putB])]; rfl⟩
  | succ k ih =>
    have h1 := ih (n / 256)
    have e : lowBits n (8 * (k + 1)) = lowBits (n / 256) (8 * k) ++ lowBits (n % 256) 8 := by
      refine bools_ext (by simp [lowBits_length]; omega) fun i => ?_
      rw [getD_app, lowBits_length]
      have lb : ∀ m c j, (lowBits m c).getD j false = if j < c then m.testBit (c - 1 - j) else false := by
        intro m c j
        split
        · rename_i h; exact lowBits_getD m c j h
        · rename_i h; rw [List.getD_eq_getElem?_getD, List.getElem?_eq_none (by rw [lowBits_length]; omega)]; rfl
      rw [lb, lb, lb]
      by_cases c1 : i < 8 * k
      · rw [if_pos (by omega), if_pos c1, if_pos c1, show 8 * (k + 1) - 1 - i = (8 * k - 1 - i) + 8 from by omega, show (256 : Nat) = 2 ^ 8 from rfl, Nat.testBit_div_two_pow]
      · rw [if_neg c1]
        by_cases c2 : i < 8 * (k + 1)
        · rw [if_pos c2, if_pos (by omega), show (256 : Nat) = 2 ^ 8 from rfl, Nat.testBit_mod_two_pow, show 8 - 1 - (i - 8 * k) = 8 * (k + 1) - 1 - i from by omega]
          simp; omega
        · rw [if_neg c2, if_neg (by omega)]
    have h2 : IsPack [n % 256] (lowBits (n % 256) 8) := by
      refine ⟨by simp [lowBits_length, nb], fun x hx => by simp at hx; omega, fun i => ?_⟩
      by_cases c : i < 8
      · rw [lowBits_getD _ _ _ c]
        unfold bitAt
        rw [show i / 8 = 0 from by omega, show i % 8 = i from by omega]
        rfl
      · rw [bitAt_out _ _ (by simp; omega), List.getD_eq_getElem?_getD, List.getElem?_eq_none (by rw [lowBits_length]; omega)]; rfl
    have h3 := pack_app h1.2.1 h2
    have hlen : (putB (n / 256) k).length = k := putB_length k _
    have hb := h1.bits
    rw [lowBits_length] at hb
    rw [hlen, hb, ← e] at h3
    exact h3
theorem encTo_zero (l : List Sam) : encTo l 0 = lowBits l.length 16 := rfl
theorem encTo_succ (l : List Sam) (k : Nat) : encTo l (k + 1) = encTo l k ++ encOne l k := rfl
end Go.Proofs.YtfgfkifdokeefaaDoor.Cd
