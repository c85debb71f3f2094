/- The walks of bits.signed, bits.classAt and bits.TakeInt. -/
import Derived.Test.YtfgfkifdokeefaaDoorBitsTake
import Derived.Test.YtfgfkifdokeefaaDoorBitsPutInt
namespace Go.Proofs.YtfgfkifdokeefaaDoor.Cd
open Go.RowKit
set_option linter.unusedVariables false

/-- A number's lowest bits as a signed number. -/
def sgn (word width : Nat) : Int := if 0 < width ∧ 2 ^ (width - 1) ≤ word then (word : Int) - 2 ^ width else word

theorem sgn_7 (word : Nat) (h : word < 128) : wrap64 ((word : Int) * 144115188075855872) / 144115188075855872 = sgn word 7 := by
  unfold wrap64 sgn
  by_cases h1 : 64 ≤ word
  · rw [if_pos ⟨by omega, h1⟩]; simp only [Int.reducePow]; omega
  · rw [if_neg (fun hh => h1 hh.2)]; omega

theorem sgn_12 (word : Nat) (h : word < 4096) : wrap64 ((word : Int) * 4503599627370496) / 4503599627370496 = sgn word 12 := by
  unfold wrap64 sgn
  by_cases h1 : 2048 ≤ word
  · rw [if_pos ⟨by omega, h1⟩]; simp only [Int.reducePow]; omega
  · rw [if_neg (fun hh => h1 hh.2)]; omega

theorem sgn_32 (word : Nat) (h : word < 4294967296) : wrap64 ((word : Int) * 4294967296) / 4294967296 = sgn word 32 := by
  unfold wrap64 sgn
  by_cases h1 : 2147483648 ≤ word
  · rw [if_pos ⟨by omega, h1⟩]; simp only [Int.reducePow]; omega
  · rw [if_neg (fun hh => h1 hh.2)]; omega

theorem sgn_64 (word : Nat) (h : word < 18446744073709551616) : wrap64 (word : Int) = sgn word 64 := by
  unfold wrap64 sgn
  by_cases h1 : 9223372036854775808 ≤ word
  · rw [if_pos ⟨by omega, h1⟩]; simp only [Int.reducePow]; omega
  · rw [if_neg (fun hh => h1 hh.2)]; omega

theorem ret_i64 {a b : Int} (h : a = b) : Ending.returned (.int .i64 a) = .returned (.int .i64 b) := by rw [h]

/-- k ones at a place, all of them there. -/
def Ones (zs : List Nat) (n at_ k : Nat) : Prop := ∀ j, j < k → at_ + j < n ∧ bitAt zs (at_ + j) = true

/-- What stands at a place: a class, or too little. -/
def CAt (zs : List Nat) (n at_ : Nat) (k : Nat) (e : Int) : Prop :=
  (e = 0 ∧ k ≤ 4 ∧ Ones zs n at_ k ∧ (k < 4 → at_ + k < n ∧ bitAt zs (at_ + k) = false)) ∨ (e = 3 ∧ k = 0 ∧ ∃ j, j ≤ 3 ∧ Ones zs n at_ j ∧ n ≤ at_ + j)

theorem CAt.unique {zs : List Nat} {n at_ k k' : Nat} {e e' : Int} (h : CAt zs n at_ k e) (h' : CAt zs n at_ k' e') : k = k' ∧ e = e' := by
  rcases h with ⟨rfl, h4, ho, hz⟩ | ⟨rfl, rfl, j, hj, ho, hn⟩ <;> rcases h' with ⟨rfl, h4', ho', hz'⟩ | ⟨rfl, rfl, j', hj', ho', hn'⟩
  · refine ⟨?_, rfl⟩
    rcases Nat.lt_trichotomy k k' with hlt | heq | hgt
    · have h1 := ho' k hlt
      have h2 := hz (by omega)
      rw [h1.2] at h2; cases h2.2
    · exact heq
    · have h1 := ho k' hgt
      have h2 := hz' (by omega)
      rw [h1.2] at h2; cases h2.2
  · exfalso
    by_cases hlt : k < 4
    · have h2 := hz hlt
      by_cases hjk : j' ≤ k
      · omega
      · have := ho' k (by omega)
        rw [this.2] at h2; cases h2.2
    · have := ho j' (by omega)
      omega
  · exfalso
    by_cases hlt : k' < 4
    · have h2 := hz' hlt
      by_cases hjk : j ≤ k'
      · omega
      · have := ho k' (by omega)
        rw [this.2] at h2; cases h2.2
    · have := ho' j (by omega)
      omega
  · exact ⟨rfl, rfl⟩

theorem tE_one {zs : List Nat} {n at_ k : Nat} (hcan : canB zs n = true) (h : at_ + k < n) : tE zs n ((at_ : Int) + k) 1 = 0 ∧ tV zs n ((at_ : Int) + k) 1 = (bitAt zs (at_ + k)).toNat := by
  have e1 : tE zs n ((at_ : Int) + k) 1 = 0 := by
    unfold tE
    rw [if_neg (fun hh => hh ⟨hcan, ⟨by omega, by omega⟩, by omega, by omega⟩), if_neg (by omega)]
  refine ⟨e1, ?_⟩
  unfold tV
  rw [if_pos e1, show ((at_ : Int) + k).toNat = at_ + k from by omega, show (1 : Int).toNat = 1 from rfl]
  simp [win, numOf]

theorem tE_end {zs : List Nat} {n at_ k : Nat} (hcan : canB zs n = true) (h : at_ + k = n) : tE zs n ((at_ : Int) + k) 1 = 3 ∧ tV zs n ((at_ : Int) + k) 1 = 0 := by
  have e1 : tE zs n ((at_ : Int) + k) 1 = 3 := by
    unfold tE
    rw [if_neg (fun hh => hh ⟨hcan, ⟨by omega, by omega⟩, by omega, by omega⟩), if_pos (by omega)]
  exact ⟨e1, by unfold tV; rw [e1]; rfl⟩

end Go.Proofs.YtfgfkifdokeefaaDoor.Cd
