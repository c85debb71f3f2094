/- merge: the heap in plain words. -/
import Derived.Test.YtccjgciknaooaaaMgF
namespace Go.Proofs.Ytccjgciknaooaaa
open Go.RowKit Go.Joins
set_option linter.unusedVariables false

theorem aheadB_iff (ta tb ra rb pa pb : Int) : aheadB ta tb ra rb pa pb = true ↔ ta < tb ∨ (ta = tb ∧ (rb < ra ∨ (ra = rb ∧ pb < pa))) := by
  unfold aheadB
  by_cases h1 : ta = tb
  · by_cases h2 : ra = rb
    · simp [h1, h2]
    · simp [h1, h2]
  · simp [h1]

/-- Whether a run comes ahead of another one, by their first times. -/
def aheadR (T : Run → Int) (r s : Run) : Bool := aheadB (T r) (T s) r.rank s.rank r.place s.place

theorem aheadR_asymm {T : Run → Int} {r s : Run} (h : aheadR T r s = true) : aheadR T s r = false := by
  unfold aheadR at *
  rw [aheadB_iff] at h
  rw [Bool.eq_false_iff, Ne, aheadB_iff]
  omega

theorem aheadR_irr (T : Run → Int) (r : Run) : aheadR T r r = false := by
  unfold aheadR
  rw [Bool.eq_false_iff, Ne, aheadB_iff]
  omega

theorem aheadR_trans {T : Run → Int} {r s t : Run} (h : aheadR T r s = true) (k : aheadR T s t = true) : aheadR T r t = true := by
  unfold aheadR at *
  rw [aheadB_iff] at *
  omega

theorem aheadR_ntrans {T : Run → Int} {r s t : Run} (h : aheadR T r s = false) (k : aheadR T s t = false) : aheadR T r t = false := by
  unfold aheadR at *
  rw [Bool.eq_false_iff, Ne, aheadB_iff] at *
  omega

def zR : Run := ⟨none, 0, 0, 0, 0⟩
def rn (rs : List Run) (i : Nat) : Run := rs.getD i zR

theorem rn_get {rs : List Run} {i : Nat} (h : i < rs.length) : rs[i]? = some (rn rs i) := by
  unfold rn
  rw [List.getD_eq_getElem?_getD, List.getElem?_eq_getElem h]
  rfl

theorem rn_mem {rs : List Run} {i : Nat} (h : i < rs.length) : rn rs i ∈ rs := List.mem_of_getElem? (rn_get h)

def swapL (rs : List Run) (i j : Nat) : List Run := (rs.set i (rn rs j)).set j (rn rs i)

theorem swapL_len (rs : List Run) (i j : Nat) : (swapL rs i j).length = rs.length := by simp [swapL]

theorem rn_set (rs : List Run) (i k : Nat) (x : Run) (hk : k < rs.length) : rn (rs.set i x) k = if k = i then x else rn rs k := by
  unfold rn
  rw [List.getD_eq_getElem?_getD, List.getD_eq_getElem?_getD, List.getElem?_set]
  by_cases h : k = i
  · subst h; simp [hk]
  · rw [if_neg h, if_neg (fun e => h e.symm)]

theorem rn_swap (rs : List Run) {i j k : Nat} (hk : k < rs.length) : rn (swapL rs i j) k = if k = j then rn rs i else if k = i then rn rs j else rn rs k := by
  unfold swapL
  rw [rn_set _ _ _ _ (by simpa using hk)]
  by_cases h : k = j
  · rw [if_pos h, if_pos h]
  · rw [if_neg h, if_neg h, rn_set _ _ _ _ hk]

theorem set_perm : ∀ (l : List Run) (i : Nat) (x : Run), i < l.length → (rn l i :: l.set i x).Perm (x :: l) := by
  intro l
  induction l with
  | nil => intro i x h; simp at h
  | cons a t ih =>
    intro i x h
    cases i with
    | zero => exact List.Perm.swap _ _ _
    | succ i =>
      have h1 := ih i x (by simpa using h)
      have e : rn (a :: t) (i + 1) = rn t i := rfl
      rw [e, List.set_cons_succ]
      exact (List.Perm.swap _ _ _).trans ((h1.cons a).trans (List.Perm.swap _ _ _))

theorem swapL_perm (rs : List Run) (i j : Nat) (hi : i < rs.length) (hj : j < rs.length) : (swapL rs i j).Perm rs := by
  unfold swapL
  have h1 := set_perm rs i (rn rs j) hi
  have h2 := set_perm (rs.set i (rn rs j)) j (rn rs i) (by simpa using hj)
  have e : rn (rs.set i (rn rs j)) j = rn rs j := by
    rw [rn_set _ _ _ _ hj]
    by_cases h : j = i
    · rw [if_pos h]
    · rw [if_neg h]
  rw [e] at h2
  exact (List.perm_cons (rn rs j)).1 (h2.trans h1)

/-- None is ahead of the one above it. -/
def Heap (T : Run → Int) (rs : List Run) : Prop := ∀ i, 0 < i → i < rs.length → aheadR T (rn rs i) (rn rs ((i - 1) / 2)) = false
/-- But for those below one place. -/
def HeapX (T : Run → Int) (rs : List Run) (p : Nat) : Prop :=
  (∀ i, 0 < i → i < rs.length → (i - 1) / 2 ≠ p → aheadR T (rn rs i) (rn rs ((i - 1) / 2)) = false) ∧
  (0 < p → ∀ i, 0 < i → i < rs.length → (i - 1) / 2 = p → aheadR T (rn rs i) (rn rs ((p - 1) / 2)) = false)
/-- But for one place itself. -/
def HeapU (T : Run → Int) (rs : List Run) (p : Nat) : Prop :=
  (∀ i, 0 < i → i < rs.length → i ≠ p → aheadR T (rn rs i) (rn rs ((i - 1) / 2)) = false) ∧
  (0 < p → ∀ i, 0 < i → i < rs.length → (i - 1) / 2 = p → aheadR T (rn rs i) (rn rs ((p - 1) / 2)) = false)

theorem sink_end {T : Run → Int} {rs : List Run} {p : Nat} (h : HeapX T rs p) (h2 : ∀ i, 0 < i → i < rs.length → (i - 1) / 2 = p → aheadR T (rn rs i) (rn rs p) = false) : Heap T rs := by
  intro i h0 hi
  by_cases hp : (i - 1) / 2 = p
  · rw [hp]; exact h2 i h0 hi hp
  · exact h.1 i h0 hi hp

theorem sink_step {T : Run → Int} {rs : List Run} {p f : Nat} (h : HeapX T rs p) (hf : f < rs.length) (h0 : 0 < f) (hc : (f - 1) / 2 = p) (ha : aheadR T (rn rs f) (rn rs p) = true)
    (hm : ∀ i, 0 < i → i < rs.length → (i - 1) / 2 = p → aheadR T (rn rs i) (rn rs f) = false) : HeapX T (swapL rs p f) f := by
  have hpf : p < f := by omega
  have hp : p < rs.length := by omega
  refine ⟨fun i hi0 hi hne => ?_, fun _ i hi0 hi hq => ?_⟩
  · rw [swapL_len] at hi
    have hil : (i - 1) / 2 < rs.length := by omega
    rw [rn_swap rs hi, rn_swap rs hil]
    by_cases hq : (i - 1) / 2 = p
    · rw [if_neg hne, if_pos hq]
      by_cases hif : i = f
      · rw [if_pos hif]; exact aheadR_asymm ha
      · rw [if_neg hif, if_neg (show ¬ i = p by omega)]
        exact hm i hi0 hi hq
    · rw [if_neg hne, if_neg hq]
      by_cases hip : i = p
      · rw [if_neg (show ¬ i = f by omega), if_pos hip, hip]
        exact h.2 (by omega) f h0 hf hc
      · by_cases hif : i = f
        · rw [hif] at hq; exact absurd hc hq
        · rw [if_neg hif, if_neg hip]
          exact h.1 i hi0 hi hq
  · rw [swapL_len] at hi
    have hfl : (f - 1) / 2 < rs.length := by omega
    rw [rn_swap rs hi, rn_swap rs hfl, if_neg (show ¬ i = f by omega), if_neg (show ¬ i = p by omega), if_neg (show ¬ (f - 1) / 2 = f by omega), if_pos hc]
    have := h.1 i hi0 hi (by omega)
    rw [hq] at this
    exact this

theorem up_end {T : Run → Int} {rs : List Run} {p : Nat} (h : HeapU T rs p) (h2 : p = 0 ∨ aheadR T (rn rs p) (rn rs ((p - 1) / 2)) = false) : Heap T rs := by
  intro i h0 hi
  by_cases hp : i = p
  · subst hp
    rcases h2 with h2 | h2
    · omega
    · exact h2
  · exact h.1 i h0 hi hp

theorem up_step {T : Run → Int} {rs : List Run} {p : Nat} (h : HeapU T rs p) (h0 : 0 < p) (hp : p < rs.length) (ha : aheadR T (rn rs p) (rn rs ((p - 1) / 2)) = true) : HeapU T (swapL rs p ((p - 1) / 2)) ((p - 1) / 2) := by
  obtain ⟨q, hq⟩ : ∃ q, q = (p - 1) / 2 := ⟨_, rfl⟩
  rw [← hq] at ha ⊢
  have hqp : q < p := by omega
  refine ⟨fun i hi0 hi hne => ?_, fun hq0 i hi0 hi hc => ?_⟩
  · rw [swapL_len] at hi
    have hil : (i - 1) / 2 < rs.length := by omega
    rw [rn_swap rs hi, rn_swap rs hil, if_neg hne]
    by_cases hip : i = p
    · rw [if_pos hip, hip, ← hq, if_pos rfl]
      exact aheadR_asymm ha
    · rw [if_neg hip]
      have h1 := h.1 i hi0 hi hip
      by_cases hpq : (i - 1) / 2 = q
      · rw [if_pos hpq]
        rw [hpq] at h1
        cases hx : aheadR T (rn rs i) (rn rs p) with
        | false => rfl
        | true =>
          have := aheadR_trans hx ha
          rw [h1] at this; cases this
      · rw [if_neg hpq]
        by_cases hpp : (i - 1) / 2 = p
        · rw [if_pos hpp]
          have := h.2 h0 i hi0 hi hpp
          rw [← hq] at this
          exact this
        · rw [if_neg hpp]
          exact h1
  · rw [swapL_len] at hi
    have hql : (q - 1) / 2 < rs.length := by omega
    rw [rn_swap rs hi, rn_swap rs hql, if_neg (show ¬ i = q by omega), if_neg (show ¬ (q - 1) / 2 = q by omega), if_neg (show ¬ (q - 1) / 2 = p by omega)]
    have hqq := h.1 q hq0 (by omega) (by omega)
    by_cases hip : i = p
    · rw [if_pos hip]; exact hqq
    · rw [if_neg hip]
      have h1 := h.1 i hi0 hi hip
      rw [hc] at h1
      exact aheadR_ntrans h1 hqq

/-- The first is ahead of all. -/
theorem heap_root {T : Run → Int} {rs : List Run} (h : Heap T rs) : ∀ i, i < rs.length → aheadR T (rn rs i) (rn rs 0) = false := by
  intro i
  induction i using Nat.strongRecOn with
  | ind i ih =>
    intro hi
    by_cases h0 : i = 0
    · subst h0; exact aheadR_irr _ _
    · exact aheadR_ntrans (h i (by omega) hi) (ih ((i - 1) / 2) (by omega) (by omega))

/-- A heap with one more at its end. -/
theorem heap_more {T : Run → Int} {rs : List Run} (h : Heap T rs) (r : Run) : HeapU T (rs ++ [r]) rs.length := by
  have e : ∀ i, i < rs.length → rn (rs ++ [r]) i = rn rs i := fun i hi => by
    unfold rn
    rw [List.getD_eq_getElem?_getD, List.getD_eq_getElem?_getD, List.getElem?_append_left hi]
  refine ⟨fun i h0 hi hne => ?_, fun h0 i hi0 hi hc => ?_⟩
  · have hi2 : i < rs.length := by simp at hi; omega
    rw [e i hi2, e _ (by omega)]
    exact h i h0 hi2
  · simp at hi
    omega

/-- A heap whose last one has come to the first place. -/
theorem heap_less {T : Run → Int} {rs : List Run} {m : Nat} (h : Heap T rs) (hm : rs.length = m + 1) : HeapX T ((swapL rs 0 m).take m) 0 := by
  have e : ∀ i, 0 < i → i < m → rn ((swapL rs 0 m).take m) i = rn rs i := fun i h0 hi => by
    have h1 : rn ((swapL rs 0 m).take m) i = rn (swapL rs 0 m) i := by
      unfold rn
      rw [List.getD_eq_getElem?_getD, List.getD_eq_getElem?_getD, List.getElem?_take, if_pos hi]
    rw [h1, rn_swap rs (by omega), if_neg (show ¬ i = m by omega), if_neg (show ¬ i = 0 by omega)]
  refine ⟨fun i h0 hi hne => ?_, fun h0 => by omega⟩
  rw [List.length_take, swapL_len] at hi
  rw [e i h0 (by omega), e _ (by omega) (by omega)]
  exact h i h0 (by omega)

theorem take_perm {rs : List Run} {m : Nat} (hm : rs.length = m + 1) : (rn rs 0 :: (swapL rs 0 m).take m).Perm rs := by
  have h1 := swapL_perm rs 0 m (by omega) (by omega)
  have hl : (swapL rs 0 m).length = m + 1 := by rw [swapL_len, hm]
  have h2 : (swapL rs 0 m).take m ++ [rn (swapL rs 0 m) m] = swapL rs 0 m := by
    have h3 : (swapL rs 0 m).take (m + 1) = swapL rs 0 m := List.take_of_length_le (by omega)
    rw [List.take_add_one, rn_get (by omega)] at h3
    exact h3
  have e : rn (swapL rs 0 m) m = rn rs 0 := by rw [rn_swap rs (by omega), if_pos rfl]
  rw [e] at h2
  have h4 : (rn rs 0 :: (swapL rs 0 m).take m).Perm ((swapL rs 0 m).take m ++ [rn rs 0]) := (List.perm_append_singleton _ _).symm
  rw [h2] at h4
  exact h4.trans h1
end Go.Proofs.Ytccjgciknaooaaa
