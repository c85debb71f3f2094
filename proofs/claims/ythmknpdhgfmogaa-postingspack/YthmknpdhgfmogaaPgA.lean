/- Numbers that rise, packed: the plain side. -/
import Derived.Test.YthmknpdhgfmogaaInts
namespace Go.Proofs.Ythmknpdhgfmogaa
open Go.RowKit
set_option linter.unusedVariables false

/-- A short number's bytes. -/
def shortB (n : Nat) : List Nat := if n < 128 then [n] else (n % 128 + 128) :: shortB (n / 128)
termination_by n
decreasing_by omega

theorem shortB_lo {n : Nat} (h : n < 128) : shortB n = [n] := by conv => lhs; rw [shortB, if_pos h]

theorem shortB_hi {n : Nat} (h : ¬ n < 128) : shortB n = (n % 128 + 128) :: shortB (n / 128) := by conv => lhs; rw [shortB, if_neg h]

theorem shortB_lt (n : Nat) : ∀ x ∈ shortB n, x < 256 := by
  induction n using Nat.strongRecOn with
  | _ n ih =>
    intro x hx
    by_cases h : n < 128
    · rw [shortB_lo h] at hx; simp at hx; omega
    · rw [shortB_hi h, List.mem_cons] at hx
      rcases hx with rfl | hx
      · omega
      · exact ih _ (by omega) x hx

theorem shortB_pos (n : Nat) : 0 < (shortB n).length := by
  by_cases h : n < 128
  · rw [shortB_lo h]; simp
  · rw [shortB_hi h]; simp

theorem shortB_len (k : Nat) : ∀ n, n < 128 ^ k → (shortB n).length ≤ k ∨ k = 0 := by
  induction k with
  | zero => intro n _; exact .inr rfl
  | succ k ih =>
    intro n hn
    left
    by_cases h : n < 128
    · rw [shortB_lo h]; simp
    · rw [shortB_hi h, List.length_cons]
      have h1 : n / 128 < 128 ^ k := by rw [Nat.div_lt_iff_lt_mul (by decide)]; rw [Nat.pow_succ] at hn; exact hn
      rcases ih _ h1 with h2 | h2
      · omega
      · subst h2; simp at h1; omega

theorem shortB_len5 (n : Nat) (h : n < 34359738368) : (shortB n).length ≤ 5 := by
  rcases shortB_len 5 n (by simpa using h) with h | h
  · exact h
  · cases h

def nD (xs : List Nat) (i : Nat) : Nat := xs.getD i 0

/-- Numbers as Go's. -/
def up (xs : List Nat) : List Int := xs.map fun n : Nat => (n : Int)

theorem up_len (xs : List Nat) : (up xs).length = xs.length := by simp [up]

theorem up_get {xs : List Nat} {i : Nat} (h : i < xs.length) : (up xs)[i]? = some ((nD xs i : Nat) : Int) := by
  unfold up nD
  rw [List.getElem?_map, List.getD_eq_getElem?_getD, List.getElem?_eq_getElem h]
  rfl

/-- Numbers that rise, none above what may be packed. -/
def RiseN (xs : List Nat) : Prop := (∀ i, i < xs.length → nD xs i ≤ 2147483647) ∧ ∀ i, i + 1 < xs.length → nD xs i < nD xs (i + 1)

/-- How far each number of a block but the first is from the one ahead, the first k of them. -/
def bodyTo (xs : List Nat) : Nat → List Nat
  | 0 => []
  | k + 1 => bodyTo xs k ++ shortB (nD xs (k + 1) - nD xs k - 1)

def body (xs : List Nat) : List Nat := bodyTo xs (xs.length - 1)

theorem bodyTo_len (xs : List Nat) (h : RiseN xs) : ∀ k, k + 1 ≤ xs.length → (bodyTo xs k).length ≤ 5 * k := by
  intro k
  induction k with
  | zero => intro _; simp [bodyTo]
  | succ k ih =>
    intro hk
    have h1 := ih (by omega)
    have h2 := shortB_len5 (nD xs (k + 1) - nD xs k - 1) (by have := h.1 (k + 1) (by omega); omega)
    simp only [bodyTo, List.length_append]
    omega

theorem body_len (xs : List Nat) (h : RiseN xs) : (body xs).length ≤ 5 * xs.length := by
  unfold body
  by_cases h0 : xs.length = 0
  · rw [h0]; simp [bodyTo]
  · have := bodyTo_len xs h (xs.length - 1) (by omega)
    omega

theorem bodyTo_lt (xs : List Nat) : ∀ k, ∀ x ∈ bodyTo xs k, x < 256 := by
  intro k
  induction k with
  | zero => intro x hx; simp [bodyTo] at hx
  | succ k ih =>
    intro x hx
    simp only [bodyTo, List.mem_append] at hx
    rcases hx with hx | hx
    · exact ih x hx
    · exact shortB_lt _ x hx

/-- The block k of a list. -/
def blk (xs : List Nat) (k : Nat) : List Nat := (xs.drop (8 * k)).take 8

def nblk (xs : List Nat) : Nat := (xs.length + 7) / 8

theorem blk_len (xs : List Nat) (k : Nat) : (blk xs k).length = min 8 (xs.length - 8 * k) := by unfold blk; simp

theorem blk_get {xs : List Nat} {k i : Nat} (hi : i < 8) (h : 8 * k + i < xs.length) : nD (blk xs k) i = nD xs (8 * k + i) := by
  unfold nD blk
  simp only [List.getD_eq_getElem?_getD]
  rw [List.getElem?_take, if_pos hi, List.getElem?_drop]

theorem blk_rise {xs : List Nat} (h : RiseN xs) (k : Nat) : RiseN (blk xs k) := by
  refine ⟨fun i hi => ?_, fun i hi => ?_⟩
  · rw [blk_len] at hi
    rw [blk_get (by omega) (by omega)]
    exact h.1 _ (by omega)
  · rw [blk_len] at hi
    rw [blk_get (by omega) (by omega), blk_get (by omega) (by omega)]
    exact h.2 (8 * k + i) (by omega)

/-- The first number of the block ahead of block k; 0 ahead of the first one. -/
def prevN (xs : List Nat) : Nat → Nat
  | 0 => 0
  | k + 1 => nD xs (8 * k)

def hdTo (xs : List Nat) : Nat → List Nat
  | 0 => shortB xs.length
  | k + 1 => hdTo xs k ++ shortB (nD xs (8 * k) - prevN xs k) ++ shortB (body (blk xs k)).length

def bdTo (xs : List Nat) : Nat → List Nat
  | 0 => []
  | k + 1 => bdTo xs k ++ body (blk xs k)

def packB (xs : List Nat) : List Nat := hdTo xs (nblk xs) ++ bdTo xs (nblk xs)

theorem prevN_le {xs : List Nat} (h : RiseN xs) (k : Nat) (hk : 8 * k < xs.length) : prevN xs k ≤ nD xs (8 * k) := by
  cases k with
  | zero => exact Nat.zero_le _
  | succ k =>
    have key : ∀ m, 8 * k + m < xs.length → nD xs (8 * k) ≤ nD xs (8 * k + m) := by
      intro m
      induction m with
      | zero => intro _; exact Nat.le_refl _
      | succ m ih =>
        intro hm
        have h1 := ih (by omega)
        have h2 := h.2 (8 * k + m) (by omega)
        have e : 8 * k + (m + 1) = 8 * k + m + 1 := by omega
        rw [e]; omega
    have := key 8 (by omega)
    exact this

theorem body_len40 {xs : List Nat} (h : RiseN xs) (k : Nat) : (body (blk xs k)).length ≤ 40 := by
  have h1 := body_len _ (blk_rise h k)
  have h2 := blk_len xs k
  omega

theorem hdTo_len {xs : List Nat} (h : RiseN xs) (hl : xs.length ≤ 100000) : ∀ k, k ≤ nblk xs → (hdTo xs k).length ≤ 5 + 10 * k := by
  intro k
  induction k with
  | zero => intro _; exact shortB_len5 _ (by omega)
  | succ k ih =>
    intro hk
    have h1 := ih (by omega)
    have hk' : 8 * k < xs.length := by unfold nblk at hk; omega
    have h2 := shortB_len5 (nD xs (8 * k) - prevN xs k) (by have := h.1 (8 * k) hk'; omega)
    have h3 := shortB_len5 (body (blk xs k)).length (by have := body_len40 h k; omega)
    simp only [hdTo, List.length_append]
    omega

theorem bdTo_len {xs : List Nat} (h : RiseN xs) : ∀ k, (bdTo xs k).length ≤ 40 * k := by
  intro k
  induction k with
  | zero => simp [bdTo]
  | succ k ih =>
    have := body_len40 h k
    simp only [bdTo, List.length_append]
    omega

theorem hdTo_lt (xs : List Nat) : ∀ k, ∀ x ∈ hdTo xs k, x < 256 := by
  intro k
  induction k with
  | zero => intro x hx; exact shortB_lt _ x hx
  | succ k ih =>
    intro x hx
    simp only [hdTo, List.mem_append] at hx
    rcases hx with (hx | hx) | hx
    · exact ih x hx
    · exact shortB_lt _ x hx
    · exact shortB_lt _ x hx

theorem bdTo_lt (xs : List Nat) : ∀ k, ∀ x ∈ bdTo xs k, x < 256 := by
  intro k
  induction k with
  | zero => intro x hx; simp [bdTo] at hx
  | succ k ih =>
    intro x hx
    simp only [bdTo, List.mem_append] at hx
    rcases hx with hx | hx
    · exact ih x hx
    · exact bodyTo_lt _ _ x hx

theorem packB_lt (xs : List Nat) : ∀ x ∈ packB xs, x < 256 := by
  intro x hx
  unfold packB at hx
  rw [List.mem_append] at hx
  rcases hx with hx | hx
  · exact hdTo_lt _ _ x hx
  · exact bdTo_lt _ _ x hx

/-- Whether numbers may be packed. -/
def canAtP (zs : List Int) (i : Nat) : Bool := decide (0 ≤ zs.getD i 0) && decide (zs.getD i 0 ≤ 2147483647) && (decide (i = 0) || decide (zs.getD (i - 1) 0 < zs.getD i 0))

def canP (zs : List Int) : Bool := decide (zs.length ≤ 100000) && (List.range zs.length).all fun i => canAtP zs i

def dn (zs : List Int) : List Nat := zs.map Int.toNat

theorem dn_len (zs : List Int) : (dn zs).length = zs.length := by simp [dn]

theorem canP_no (zs : List Int) (i : Nat) (hi : i < zs.length) (h : canAtP zs i = false) : canP zs = false := by
  unfold canP
  rw [Bool.and_eq_false_iff]
  right
  rw [List.all_eq_false]
  exact ⟨i, by simpa using hi, by simp [h]⟩

theorem canP_yes (zs : List Int) (hl : zs.length ≤ 100000) (h : ∀ i, i < zs.length → canAtP zs i = true) : canP zs = true := by
  unfold canP
  rw [Bool.and_eq_true]
  refine ⟨by simpa using hl, ?_⟩
  rw [List.all_eq_true]
  intro i hi
  exact h i (by simpa using hi)

theorem canP_iff (zs : List Int) : canP zs = true ↔ zs.length ≤ 100000 ∧ ∀ i, i < zs.length → canAtP zs i = true := by
  constructor
  · intro h
    unfold canP at h
    rw [Bool.and_eq_true] at h
    refine ⟨by simpa using h.1, fun i hi => ?_⟩
    exact List.all_eq_true.1 h.2 i (by simpa using hi)
  · rintro ⟨h1, h2⟩
    exact canP_yes zs h1 h2

theorem canP_up {zs : List Int} (h : canP zs = true) : up (dn zs) = zs := by
  obtain ⟨h1, h2⟩ := (canP_iff zs).1 h
  unfold up dn
  rw [List.map_map]
  conv => rhs; rw [← List.map_id zs]
  refine List.map_congr_left fun x hx => ?_
  obtain ⟨i, hi, e⟩ := List.getElem_of_mem hx
  have h3 := h2 i hi
  have e2 : zs.getD i 0 = x := by rw [List.getD_eq_getElem?_getD, List.getElem?_eq_getElem hi]; exact e
  unfold canAtP at h3
  rw [e2] at h3
  simp at h3
  show ((x.toNat : Nat) : Int) = x
  omega

theorem dn_get (zs : List Int) (i : Nat) : nD (dn zs) i = (zs.getD i 0).toNat := by
  unfold nD dn
  simp only [List.getD_eq_getElem?_getD, List.getElem?_map]
  cases zs[i]? <;> rfl

theorem canP_rise {zs : List Int} (h : canP zs = true) : RiseN (dn zs) := by
  obtain ⟨h1, h2⟩ := (canP_iff zs).1 h
  refine ⟨fun i hi => ?_, fun i hi => ?_⟩
  · rw [dn_len] at hi
    have h3 := h2 i hi
    unfold canAtP at h3
    rw [dn_get]
    simp only [Bool.and_eq_true, decide_eq_true_eq] at h3
    omega
  · rw [dn_len] at hi
    have h3 := h2 (i + 1) hi
    have h4 := h2 i (by omega)
    unfold canAtP at h3 h4
    rw [dn_get, dn_get]
    simp only [Bool.and_eq_true, Bool.or_eq_true, decide_eq_true_eq, Nat.add_sub_cancel] at h3 h4
    omega
end Go.Proofs.Ythmknpdhgfmogaa
