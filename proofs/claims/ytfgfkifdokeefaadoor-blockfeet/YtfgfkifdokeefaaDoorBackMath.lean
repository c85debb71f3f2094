/- There and back: what was put behind bits is what is taken there. -/
import Derived.Test.YtfgfkifdokeefaaDoorTakeInt2
namespace Go.Proofs.YtfgfkifdokeefaaDoor.Cd
open Go.RowKit
set_option linter.unusedVariables false

theorem lowBits_snoc (n c : Nat) : lowBits n (c + 1) = lowBits (n / 2) c ++ [n.testBit 0] := by
  unfold lowBits
  rw [List.range_succ, List.map_append]
  congr 1
  · apply List.map_congr_left
    intro i hi
    have hi' : i < c := List.mem_range.1 hi
    rw [← Nat.testBit_succ, show c + 1 - 1 - i = c - 1 - i + 1 from by omega]
  · simp

theorem numOf_lowBits (c : Nat) : ∀ n, numOf (lowBits n c) = n % 2 ^ c := by
  induction c with
  | zero => intro n; simp [lowBits, numOf, Nat.mod_one]
  | succ c ih =>
    intro n
    rw [lowBits_snoc, numOf_snoc, ih, Nat.pow_succ, Nat.mul_comm (2 ^ c) 2, Nat.mod_mul]
    have : (n.testBit 0).toNat = n % 2 := by
      rw [Nat.testBit_zero]
      have : n % 2 = 0 ∨ n % 2 = 1 := by omega
      rcases this with h | h <;> rw [h] <;> rfl
    rw [this]
    omega

theorem u64_of (v : Int) : (u64 v : Int) = v % 18446744073709551616 := by rw [← u64_eq, IntKind.wrap_u64]

theorem cls_cases (v : Int) : (cls v = 0 ∧ v = 0) ∨ (cls v = 1 ∧ -64 ≤ v ∧ v ≤ 63) ∨ (cls v = 2 ∧ -2048 ≤ v ∧ v ≤ 2047) ∨ (cls v = 3 ∧ -2147483648 ≤ v ∧ v ≤ 2147483647) ∨ cls v = 4 := by
  unfold cls
  by_cases h4 : v < -2147483648 ∨ 2147483647 < v
  · rw [if_pos h4]; omega
  · rw [if_neg h4]
    by_cases h3 : v < -2048 ∨ 2047 < v
    · rw [if_pos h3]; omega
    · rw [if_neg h3]
      by_cases h2 : v < -64 ∨ 63 < v
      · rw [if_pos h2]; omega
      · rw [if_neg h2]
        by_cases h1 : v ≠ 0
        · rw [if_pos h1]; omega
        · rw [if_neg h1]; omega

theorem sgn_back (v : Int) (h0 : -9223372036854775808 ≤ v) (h1 : v ≤ 9223372036854775807) : sgn (u64 v % 2 ^ clsWidth (cls v)) (clsWidth (cls v)) = v := by
  have hu := u64_of v
  generalize u64 v = u at hu ⊢
  rcases cls_cases v with ⟨h, hb⟩ | ⟨h, hb⟩ | ⟨h, hb⟩ | ⟨h, hb⟩ | h
  · rw [h]
    show sgn (u % 2 ^ 0) 0 = v
    unfold sgn
    rw [if_neg (by omega)]
    omega
  · rw [h]
    show sgn (u % 128) 7 = v
    unfold sgn
    by_cases hh : 64 ≤ u % 128
    · rw [if_pos ⟨by omega, hh⟩]; simp only [Int.reducePow]; omega
    · rw [if_neg (fun x => hh x.2)]; omega
  · rw [h]
    show sgn (u % 4096) 12 = v
    unfold sgn
    by_cases hh : 2048 ≤ u % 4096
    · rw [if_pos ⟨by omega, hh⟩]; simp only [Int.reducePow]; omega
    · rw [if_neg (fun x => hh x.2)]; omega
  · rw [h]
    show sgn (u % 4294967296) 32 = v
    unfold sgn
    by_cases hh : 2147483648 ≤ u % 4294967296
    · rw [if_pos ⟨by omega, hh⟩]; simp only [Int.reducePow]; omega
    · rw [if_neg (fun x => hh x.2)]; omega
  · rw [h]
    show sgn (u % 18446744073709551616) 64 = v
    unfold sgn
    by_cases hh : 9223372036854775808 ≤ u % 18446744073709551616
    · rw [if_pos ⟨by omega, hh⟩]; simp only [Int.reducePow]; omega
    · rw [if_neg (fun x => hh x.2)]; omega

/-- A window of a packed list. -/
theorem win_pack {ys : List Nat} {L : List Bool} (h : IsPack ys L) (at_ count : Nat) (hf : at_ + count ≤ L.length) : win ys at_ count = (L.drop at_).take count := by
  refine List.ext_getElem (by rw [win_length]; simp; omega) fun i h1 h2 => ?_
  rw [win_length] at h1
  have : (win ys at_ count)[i] = bitAt ys (at_ + i) := by simp [win]
  rw [this, h.2.2 (at_ + i)]
  simp [show at_ + i < L.length from by omega]

theorem win_mid {ys : List Nat} {A B C : List Bool} (h : IsPack ys (A ++ (B ++ C))) : win ys A.length B.length = B := by
  rw [win_pack h _ _ (by simp)]
  simp

/-- The class ahead of a number says which it is. -/
theorem marks_ones (k : Nat) (hk : k ≤ 4) : (∀ j, j < k → (lowBits (clsMark k) (clsMarks k)).getD j false = true) ∧ (k < 4 → (lowBits (clsMark k) (clsMarks k)).getD k false = false) ∧ (k < 4 → clsMarks k = k + 1) ∧ (k = 4 → clsMarks k = 4) := by
  have hk5 : k = 0 ∨ k = 1 ∨ k = 2 ∨ k = 3 ∨ k = 4 := by omega
  rcases hk5 with rfl | rfl | rfl | rfl | rfl <;> decide

theorem cat_pack {ys : List Nat} {A C : List Bool} {k : Nat} (hk : k ≤ 4) (h : IsPack ys (A ++ (lowBits (clsMark k) (clsMarks k) ++ C))) : CAt ys (A ++ (lowBits (clsMark k) (clsMarks k) ++ C)).length A.length k 0 := by
  obtain ⟨m1, m2, m3, m4⟩ := marks_ones k hk
  have hlen : (A ++ (lowBits (clsMark k) (clsMarks k) ++ C)).length = A.length + clsMarks k + C.length := by simp [lowBits_length]; omega
  have hkm : k ≤ clsMarks k := by
    by_cases hk4 : k < 4
    · rw [m3 hk4]; omega
    · rw [m4 (by omega)]; omega
  have hbit : ∀ j, j < clsMarks k → bitAt ys (A.length + j) = (lowBits (clsMark k) (clsMarks k)).getD j false := by
    intro j hj
    rw [h.2.2, getD_app, if_neg (by omega), show A.length + j - A.length = j from by omega, getD_app, if_pos (by rw [lowBits_length]; exact hj)]
  refine .inl ⟨rfl, hk, fun j hj => ⟨by omega, ?_⟩, fun hk4 => ⟨by have := m3 hk4; omega, ?_⟩⟩
  · rw [hbit j (by omega)]; exact m1 j hj
  · rw [hbit k (by have := m3 hk4; omega)]; exact m2 hk4

/-- What was put is what is taken. -/
theorem ti_back {ys : List Nat} {A : List Bool} {v : Int} (h0 : -9223372036854775808 ≤ v) (h1 : v ≤ 9223372036854775807) (h : IsPack ys (A ++ intBits v)) :
    TI ys ((A.length + intLen v : Nat) : Int) (A.length : Int) v ((A.length + intLen v : Nat) : Int) 0 := by
  have hL : (A ++ intBits v).length = A.length + intLen v := by rw [List.length_append, intBits_length]
  have hcan := h.can
  rw [hL] at hcan
  have hc := cat_pack (cls_le v) h
  have hL' : (A ++ (lowBits (clsMark (cls v)) (clsMarks (cls v)) ++ lowBits (u64 v) (clsWidth (cls v)))).length = A.length + intLen v := hL
  rw [hL'] at hc
  have hw : win ys (A.length + clsMarks (cls v)) (clsWidth (cls v)) = lowBits (u64 v) (clsWidth (cls v)) := by
    have h' : IsPack ys ((A ++ lowBits (clsMark (cls v)) (clsMarks (cls v))) ++ (lowBits (u64 v) (clsWidth (cls v)) ++ [])) := by
      rw [List.append_nil, List.append_assoc]; exact h
    have := win_mid h'
    rwa [List.length_append, lowBits_length, lowBits_length] at this
  have hs := sgn_back v h0 h1
  refine .inr ⟨⟨(canB_iff _ _).2 hcan, by omega, by omega⟩, cls v, 0, by rw [Int.toNat_natCast, Int.toNat_natCast]; exact hc, .inr ⟨rfl, .inr ⟨?_, .inr ⟨?_, ?_, ?_, rfl⟩⟩⟩⟩
  · rw [Int.toNat_natCast, Int.toNat_natCast]; unfold intLen; omega
  · rw [Int.toNat_natCast, hw, numOf_lowBits, hs]
  · rw [Int.toNat_natCast, hw, numOf_lowBits, hs]
  · rw [Int.toNat_natCast]; unfold intLen; omega

end Go.Proofs.YtfgfkifdokeefaaDoor.Cd
