/- postings: the document's Unpack, its plain side. -/
import Derived.Test.YthmknpdhgfmogaaPhC
namespace Go.Proofs.Ythmknpdhgfmogaa
open Go.RowKit
set_option linter.unusedVariables false

/-- A block's head. -/
def stepF : Option (Nat × List Nat × List Nat) → Option (Nat × List Nat × List Nat)
  | none => none
  | some (last, fs, z) => if (tkR z).2.2 = false ∨ (tkR (tkR z).2.1).2.2 = false ∨ 2147483647 < (tkR z).1 + last then none else some (last + (tkR z).1, fs ++ [last + (tkR z).1], (tkR (tkR z).2.1).2.1)

def runF (s : Option (Nat × List Nat × List Nat)) : Nat → Option (Nat × List Nat × List Nat)
  | 0 => s
  | k + 1 => stepF (runF s k)

/-- A number. -/
def stepL (fs : List Nat) (i : Nat) : Option (List Nat × List Nat) → Option (List Nat × List Nat)
  | none => none
  | some (l, z) => if i % 8 = 0 then some (l ++ [nD fs (i / 8)], z) else if (tkR z).2.2 = false ∨ 2147483647 < (tkR z).1 then none else some (l ++ [nD l (i - 1) + (tkR z).1 + 1], (tkR z).2.1)

def runL (fs : List Nat) (s : Option (List Nat × List Nat)) : Nat → Option (List Nat × List Nat)
  | 0 => s
  | i + 1 => stepL fs i (runL fs s i)

theorem runF_none (s : Option (Nat × List Nat × List Nat)) (k : Nat) (h : runF s k = none) : ∀ m, runF s (k + m) = none := by
  intro m
  induction m with
  | zero => exact h
  | succ m ih => show stepF (runF s (k + m)) = none; rw [ih]; rfl

theorem runL_none (fs : List Nat) (s : Option (List Nat × List Nat)) (k : Nat) (h : runL fs s k = none) : ∀ m, runL fs s (k + m) = none := by
  intro m
  induction m with
  | zero => exact h
  | succ m ih => show stepL fs (k + m) (runL fs s (k + m)) = none; rw [ih]; rfl

/-- The numbers that bytes say, as the document's own reader finds them. -/
def refUnp (zs : List Nat) : Option (List Nat) :=
  if (tkR zs).2.2 = false ∨ 100000 < (tkR zs).1 then none else
  match runF (some (0, [], (tkR zs).2.1)) (((tkR zs).1 + 7) / 8) with
  | none => none
  | some (last, fs, z) => match runL fs (some ([], z)) (tkR zs).1 with
    | none => none
    | some (l, z') => if canP (up l) = true ∧ packB l = zs then some l else none

theorem tkR_short (n : Nat) (t : List Nat) (hn : n ≤ 2147483648) : tkR (shortB n ++ t) = (n, t, true) := by
  unfold tkR
  rw [rdS_short n t 0 0 (by have : (128 : Nat) ^ (5 - 0) = 34359738368 := by decide
                            omega) (by decide)]
  simp [hn]

section
variable {xs : List Nat}

theorem heads_ref (hr : RiseN xs) (r : List Nat) : ∀ k, k ≤ nblk xs → runF (some (0, [], hds xs 0 (nblk xs) ++ r)) k = some (prevN xs k, (List.range k).map (fun j => nD xs (8 * j)), hds xs k (nblk xs - k) ++ r) := by
  intro k
  induction k with
  | zero => intro _; rfl
  | succ k ih =>
    intro hk
    have hk8 : 8 * k < xs.length := by unfold nblk at hk; omega
    show stepF (runF _ k) = _
    rw [ih (by omega)]
    have hm : nblk xs - k = (nblk xs - (k + 1)) + 1 := by omega
    have hmx := hr.1 (8 * k) hk8
    have hb40 := body_len40 hr k
    have hle := prevN_le hr k hk8
    have e : hds xs k (nblk xs - k) ++ r = shortB (nD xs (8 * k) - prevN xs k) ++ (shortB (body (blk xs k)).length ++ (hds xs (k + 1) (nblk xs - (k + 1)) ++ r)) := by
      rw [hm, show hds xs k (nblk xs - (k + 1) + 1) = hdOne xs k ++ hds xs (k + 1) (nblk xs - (k + 1)) from rfl]
      unfold hdOne
      simp only [List.append_assoc]
    have p1 : tkR (hds xs k (nblk xs - k) ++ r) = (nD xs (8 * k) - prevN xs k, shortB (body (blk xs k)).length ++ (hds xs (k + 1) (nblk xs - (k + 1)) ++ r), true) := by
      rw [e]
      exact tkR_short _ _ (by omega)
    have p2 : tkR (shortB (body (blk xs k)).length ++ (hds xs (k + 1) (nblk xs - (k + 1)) ++ r)) = ((body (blk xs k)).length, hds xs (k + 1) (nblk xs - (k + 1)) ++ r, true) := tkR_short _ _ (by omega)
    unfold stepF
    simp only [p1, p2]
    rw [if_neg (by simp; omega)]
    have e2 : prevN xs k + (nD xs (8 * k) - prevN xs k) = nD xs (8 * k) := by omega
    rw [e2, List.range_succ, List.map_append]
    rfl

theorem take_snoc {i : Nat} (hi : i < xs.length) : xs.take (i + 1) = xs.take i ++ [nD xs i] := by
  rw [List.take_add_one, List.getElem?_eq_getElem hi]
  unfold nD
  rw [List.getD_eq_getElem?_getD, List.getElem?_eq_getElem hi]
  rfl

theorem take_nD {i j : Nat} (hj : j < i) : nD (xs.take i) j = nD xs j := by
  unfold nD
  rw [List.getD_eq_getElem?_getD, List.getD_eq_getElem?_getD, List.getElem?_take, if_pos hj]

theorem bodies_ref (hr : RiseN xs) (fs : List Nat) (hfs : ∀ j, 8 * j < xs.length → nD fs j = nD xs (8 * j)) : ∀ i, i ≤ xs.length → runL fs (some ([], flatR xs 0 xs.length)) i = some (xs.take i, flatR xs i (xs.length - i)) := by
  intro i
  induction i with
  | zero => intro _; rfl
  | succ i ih =>
    intro hi
    show stepL fs i (runL _ _ i) = _
    rw [ih (by omega)]
    have hm : xs.length - i = (xs.length - (i + 1)) + 1 := by omega
    rw [take_snoc (by omega), hm, show flatR xs i (xs.length - (i + 1) + 1) = piece xs i ++ flatR xs (i + 1) (xs.length - (i + 1)) from rfl]
    unfold stepL piece
    by_cases h8 : i % 8 = 0
    · simp only [if_pos h8]
      rw [hfs (i / 8) (by omega), show 8 * (i / 8) = i from by omega]
      rfl
    · simp only [if_neg h8]
      have hmx := hr.1 i (by omega)
      have hri := hr.2 (i - 1) (by omega)
      rw [show i - 1 + 1 = i from by omega] at hri
      rw [tkR_short _ _ (by omega)]
      simp only
      rw [if_neg (by simp; omega), take_nD (by omega)]
      have e : nD xs (i - 1) + (nD xs i - nD xs (i - 1) - 1) + 1 = nD xs i := by omega
      rw [e]

theorem refUnp_pack (hr : RiseN xs) (hl : xs.length ≤ 100000) : refUnp (packB xs) = some xs := by
  unfold refUnp
  have p0 : tkR (packB xs) = (xs.length, hds xs 0 (nblk xs) ++ flatR xs 0 xs.length, true) := by
    rw [packB_flat]
    exact tkR_short _ _ (by omega)
  simp only [p0]
  rw [if_neg (by simp; omega)]
  have h1 := heads_ref hr (flatR xs 0 xs.length) (nblk xs) (Nat.le_refl _)
  rw [show (xs.length + 7) / 8 = nblk xs from rfl, h1]
  simp only [Nat.sub_self]
  have h2 := bodies_ref hr ((List.range (nblk xs)).map (fun j => nD xs (8 * j))) (fun j hj => by
    have hjn : j < nblk xs := by unfold nblk; omega
    show ((List.range (nblk xs)).map (fun j => nD xs (8 * j))).getD j 0 = _
    rw [List.getD_eq_getElem?_getD, List.getElem?_map, List.getElem?_range hjn]
    rfl) xs.length (Nat.le_refl _)
  rw [show hds xs (nblk xs) 0 ++ flatR xs 0 xs.length = flatR xs 0 xs.length from rfl, h2]
  simp only
  rw [List.take_length, if_pos ⟨canP_up_of hr hl, rfl⟩]
end

theorem refUnp_eq (zs : List Nat) : refUnp zs = unpP zs := by
  cases h : unpP zs with
  | some xs =>
    obtain ⟨hc, hp⟩ := unpP_spec h
    have hl := ((canP_iff _).1 hc).1
    rw [up_len] at hl
    rw [← hp]
    exact refUnp_pack (canP_riseN hc) hl
  | none =>
    cases h2 : refUnp zs with
    | none => rfl
    | some l =>
      exfalso
      unfold refUnp at h2
      split at h2
      · cases h2
      · split at h2
        · cases h2
        · split at h2
          · cases h2
          · split at h2
            · rename_i hh
              have hl := ((canP_iff _).1 hh.1).1
              rw [up_len] at hl
              have h3 := unpP_pack (canP_riseN hh.1) hl
              rw [hh.2, h] at h3
              cases h3
            · cases h2

theorem tkR_lt (zs : List Nat) : (tkR zs).1 < 34359738368 := by
  unfold tkR
  split
  · rename_i n k h
    exact rdS_lt zs 0 0 n k h (by omega) (by decide)
  · decide

theorem runF_ok (z : List Nat) : ∀ k last fs y, runF (some (0, [], z)) k = some (last, fs, y) → last ≤ 2147483647 ∧ fs.length = k ∧ ∀ j, nD fs j ≤ 2147483647 := by
  intro k
  induction k with
  | zero => intro last fs y h; cases h; exact ⟨by omega, rfl, fun j => by unfold nD; simp⟩
  | succ k ih =>
    intro last fs y h
    have h' : stepF (runF (some (0, [], z)) k) = some (last, fs, y) := h
    cases h2 : runF (some (0, [], z)) k with
    | none => rw [h2] at h'; cases h'
    | some s =>
      obtain ⟨la, f0, z0⟩ := s
      obtain ⟨i1, i2, i3⟩ := ih la f0 z0 h2
      rw [h2] at h'
      unfold stepF at h'
      simp only at h'
      split at h'
      · cases h'
      · rename_i hn
        cases h'
        have hle : la + (tkR z0).1 ≤ 2147483647 := by
          by_cases hh : la + (tkR z0).1 ≤ 2147483647
          · exact hh
          · exact absurd (.inr (.inr (by omega))) hn
        refine ⟨hle, by simp [i2], fun j => ?_⟩
        have := i3 j
        unfold nD at this ⊢
        simp only [List.getD_eq_getElem?_getD] at this ⊢
        by_cases hj : j < f0.length
        · rw [List.getElem?_append_left hj]
          exact this
        · rw [List.getElem?_append_right (by omega)]
          by_cases hj2 : j - f0.length = 0
          · rw [hj2]
            exact hle
          · rw [List.getElem?_eq_none (by simp; omega)]
            exact Nat.zero_le _

theorem runL_ok (fs z : List Nat) (C : Nat) (hC : C = 4294967296) (hf : ∀ j, nD fs j ≤ 2147483647) : ∀ i l y, runL fs (some ([], z)) i = some (l, y) → l.length = i ∧ ∀ j, nD l j ≤ (i + 1) * C := by
  intro i
  induction i with
  | zero => intro l y h; cases h; exact ⟨rfl, fun j => by unfold nD; simp⟩
  | succ i ih =>
    intro l y h
    have h' : stepL fs i (runL fs (some ([], z)) i) = some (l, y) := h
    cases h2 : runL fs (some ([], z)) i with
    | none => rw [h2] at h'; cases h'
    | some s =>
      obtain ⟨l0, z0⟩ := s
      obtain ⟨i1, i2⟩ := ih l0 z0 h2
      rw [h2] at h'
      have e : (i + 1 + 1) * C = (i + 1) * C + C := Nat.succ_mul _ _
      have key : ∀ v, v ≤ (i + 1 + 1) * C → ∀ j, nD (l0 ++ [v]) j ≤ (i + 1 + 1) * C := by
        intro v hv j
        have := i2 j
        unfold nD at this ⊢
        simp only [List.getD_eq_getElem?_getD] at this ⊢
        by_cases hj : j < l0.length
        · rw [List.getElem?_append_left hj]
          exact Nat.le_trans this (by rw [e]; exact Nat.le_add_right _ _)
        · rw [List.getElem?_append_right (by omega)]
          by_cases hj2 : j - l0.length = 0
          · rw [hj2]
            exact hv
          · rw [List.getElem?_eq_none (by simp; omega)]
            exact Nat.zero_le _
      unfold stepL at h'
      simp only at h'
      split at h'
      · cases h'
        exact ⟨by simp [i1], key _ (Nat.le_trans (hf _) (by rw [e, hC]; exact Nat.le_trans (by decide) (Nat.le_add_left _ _)))⟩
      · split at h'
        · cases h'
        · rename_i hn
          cases h'
          have hp : (tkR z0).1 ≤ 2147483647 := by
            by_cases hh : (tkR z0).1 ≤ 2147483647
            · exact hh
            · exact absurd (.inr (by omega)) hn
          refine ⟨by simp [i1], key _ ?_⟩
          rw [e, Nat.add_assoc]
          exact Nat.add_le_add (i2 _) (by rw [hC]; omega)
end Go.Proofs.Ythmknpdhgfmogaa
