/- postings.read: its plain side. -/
import Derived.Test.YthmknpdhgfmogaaPgH
namespace Go.Proofs.Ythmknpdhgfmogaa
open Go.RowKit
set_option linter.unusedVariables false

theorem rdS_lt : ∀ (zs : List Nat) (i n m k : Nat), rdS i n zs = some (m, k) → i ≤ 5 → n < 128 ^ i → m < 34359738368
  | [], i, n, m, k, h, _, _ => by cases h
  | c :: t, i, n, m, k, h, hi, hn => by
    unfold rdS at h
    split at h
    · cases h
    · rename_i h5
      have h2 : n + c % 128 * 128 ^ i < 128 ^ (i + 1) := by
        rw [Nat.pow_succ]
        have : c % 128 * 128 ^ i ≤ 127 * 128 ^ i := Nat.mul_le_mul_right _ (by omega)
        omega
      split at h
      · cases h
        have h3 : (128 : Nat) ^ (i + 1) ≤ 128 ^ 5 := Nat.pow_le_pow_right (by decide) (by omega)
        have h4 : (128 : Nat) ^ 5 = 34359738368 := by decide
        omega
      · exact rdS_lt t _ _ _ _ h (by omega) h2

theorem shortP_lt (zs : List Nat) (f : Bool) : (shortP zs f).1 < 34359738368 := by
  unfold shortP
  split
  · rename_i n k h
    exact rdS_lt zs 0 0 n k h (by omega) (by decide)
  · decide

theorem shortP_len (zs : List Nat) (f : Bool) : (shortP zs f).2.1.length ≤ zs.length := by
  unfold shortP
  split
  · simp
  · simp

/-- A short number that was written is read as it was. -/
theorem rdS_short : ∀ (n : Nat) (t : List Nat) (i a : Nat), n < 128 ^ (5 - i) → i < 5 → rdS i a (shortB n ++ t) = some (a + n * 128 ^ i, i + (shortB n).length) := by
  intro n
  induction n using Nat.strongRecOn with
  | _ n ih =>
    intro t i a hn hi
    by_cases h : n < 128
    · rw [shortB_lo h]
      show rdS i a (n :: t) = _
      unfold rdS
      rw [if_neg (by omega), if_pos h, Nat.mod_eq_of_lt h]
      rfl
    · rw [shortB_hi h]
      show rdS i a ((n % 128 + 128) :: (shortB (n / 128) ++ t)) = _
      unfold rdS
      have h4 : i ≠ 4 := by
        intro e
        subst e
        simp at hn
        omega
      have h6 : (n % 128 + 128) % 128 = n % 128 := by omega
      rw [if_neg (by omega), if_neg (by omega), h6]
      have hq : n / 128 < 128 ^ (5 - (i + 1)) := by
        rw [Nat.div_lt_iff_lt_mul (by decide), ← Nat.pow_succ]
        have e : 5 - (i + 1) + 1 = 5 - i := by omega
        show n < 128 ^ (5 - (i + 1) + 1)
        rw [e]
        exact hn
      rw [ih (n / 128) (by omega) t (i + 1) _ hq (by omega)]
      have e1 : a + n % 128 * 128 ^ i + n / 128 * 128 ^ (i + 1) = a + n * 128 ^ i := by
        have e2 : n / 128 * 128 ^ (i + 1) = 128 * (n / 128) * 128 ^ i := by rw [Nat.pow_succ, Nat.mul_comm (128 ^ i) 128, ← Nat.mul_assoc, Nat.mul_comm (n / 128) 128]
        rw [e2, Nat.add_assoc, ← Nat.add_mul]
        have e3 : n % 128 + 128 * (n / 128) = n := by omega
        rw [e3]
      rw [e1, List.length_cons]
      congr 2
      omega

theorem shortP_short (n : Nat) (t : List Nat) (f : Bool) (hn : n < 34359738368) : shortP (shortB n ++ t) f = (n, t, f) := by
  unfold shortP
  rw [rdS_short n t 0 0 (by simpa using hn) (by decide)]
  simp

/-- A block's head is read. -/
def stepH (s : Nat × List Nat × List Nat × Bool) (k : Nat) : Nat × List Nat × List Nat × Bool :=
  (s.1 + (shortP s.2.2.1 s.2.2.2).1, s.2.1.set (8 * k) (s.1 + (shortP s.2.2.1 s.2.2.2).1), (shortP (shortP s.2.2.1 s.2.2.2).2.1 (shortP s.2.2.1 s.2.2.2).2.2).2)

def runH (s : Nat × List Nat × List Nat × Bool) (k : Nat) : Nat × List Nat × List Nat × Bool := (List.range k).foldl stepH s

theorem runH_succ (s : Nat × List Nat × List Nat × Bool) (k : Nat) : runH s (k + 1) = stepH (runH s k) k := by unfold runH; rw [List.range_succ, List.foldl_append]; rfl

/-- A number of a block is read. -/
def stepB (s : List Nat × List Nat × Bool) (i : Nat) : List Nat × List Nat × Bool :=
  if i % 8 = 0 then s else (s.1.set i (nD s.1 (i - 1) + 1 + (shortP s.2.1 s.2.2).1), (shortP s.2.1 s.2.2).2)

def runB (s : List Nat × List Nat × Bool) (k : Nat) : List Nat × List Nat × Bool := (List.range k).foldl stepB s

theorem runB_succ (s : List Nat × List Nat × Bool) (k : Nat) : runB s (k + 1) = stepB (runB s k) k := by unfold runB; rw [List.range_succ, List.foldl_append]; rfl

def headS (zs : List Nat) : Nat × List Nat × List Nat × Bool := runH (0, List.replicate (shortP zs false).1 0, (shortP zs false).2) (((shortP zs false).1 + 7) / 8)

def bodyS (zs : List Nat) (i : Nat) : List Nat × List Nat × Bool := runB ((headS zs).2.1, (headS zs).2.2) i

def readBig (zs : List Nat) : Bool := decide (min 100000 (shortP zs false).2.1.length < (shortP zs false).1)

theorem runH_len (s : Nat × List Nat × List Nat × Bool) : ∀ k, (runH s k).2.1.length = s.2.1.length := by
  intro k
  induction k with
  | zero => rfl
  | succ k ih => rw [runH_succ]; unfold stepH; simp [ih]

theorem runB_len (s : List Nat × List Nat × Bool) : ∀ k, (runB s k).1.length = s.1.length := by
  intro k
  induction k with
  | zero => rfl
  | succ k ih =>
    rw [runB_succ]
    unfold stepB
    split
    · exact ih
    · simp [ih]

theorem nD_set (l : List Nat) (i j x : Nat) : nD (l.set i x) j = if i = j ∧ i < l.length then x else nD l j := by
  unfold nD
  simp only [List.getD_eq_getElem?_getD, List.getElem?_set]
  by_cases h : i = j
  · subst h
    by_cases h2 : i < l.length
    · simp [h2]
    · simp [h2]
  · simp [h]

theorem runH_bound (s : Nat × List Nat × List Nat × Bool) (C : Nat) (hC : C = 34359738368) (h0 : s.1 = 0) (hz : ∀ j, nD s.2.1 j = 0) : ∀ k, (runH s k).1 ≤ k * C ∧ ∀ j, nD (runH s k).2.1 j ≤ k * C := by
  intro k
  induction k with
  | zero => exact ⟨by rw [show runH s 0 = s from rfl, h0]; exact Nat.zero_le _, fun j => by rw [show runH s 0 = s from rfl, hz]; exact Nat.zero_le _⟩
  | succ k ih =>
    have h1 : (shortP (runH s k).2.2.1 (runH s k).2.2.2).1 < C := by rw [hC]; exact shortP_lt _ _
    have h2 : (runH s k).1 + (shortP (runH s k).2.2.1 (runH s k).2.2.2).1 ≤ (k + 1) * C := by rw [Nat.succ_mul]; exact Nat.add_le_add ih.1 (Nat.le_of_lt h1)
    rw [runH_succ]
    unfold stepH
    refine ⟨h2, fun j => ?_⟩
    show nD ((runH s k).2.1.set _ _) j ≤ _
    rw [nD_set]
    split
    · exact h2
    · exact Nat.le_trans (ih.2 j) (Nat.mul_le_mul_right _ (Nat.le_succ k))

theorem runB_bound (s : List Nat × List Nat × Bool) (N C : Nat) (hC : C = 34359738368) (hz : ∀ j, nD s.1 j ≤ N) : ∀ k j, nD (runB s k).1 j ≤ N + k * (C + 1) := by
  intro k
  induction k with
  | zero => intro j; rw [show runB s 0 = s from rfl]; exact Nat.le_trans (hz j) (Nat.le_add_right _ _)
  | succ k ih =>
    intro j
    rw [runB_succ]
    unfold stepB
    have e : N + (k + 1) * (C + 1) = N + k * (C + 1) + (C + 1) := by rw [Nat.succ_mul, Nat.add_assoc]
    rw [e]
    split
    · exact Nat.le_trans (ih j) (Nat.le_add_right _ _)
    · show nD ((runB s k).1.set _ _) j ≤ _
      have h1 : (shortP (runB s k).2.1 (runB s k).2.2).1 < C := by rw [hC]; exact shortP_lt _ _
      have h4 := ih (k - 1)
      rw [nD_set]
      split
      · rw [Nat.add_assoc]
        exact Nat.add_le_add h4 (by rw [Nat.add_comm]; exact Nat.add_le_add (Nat.le_of_lt h1) (Nat.le_refl _))
      · exact Nat.le_trans (ih j) (Nat.le_add_right _ _)

theorem replicate_nD (n j : Nat) : nD (List.replicate n 0) j = 0 := by
  unfold nD
  rw [List.getD_eq_getElem?_getD, List.getElem?_replicate]
  split <;> rfl
end Go.Proofs.Ythmknpdhgfmogaa
