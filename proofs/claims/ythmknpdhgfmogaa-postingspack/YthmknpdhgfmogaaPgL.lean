/- postings: what is packed is read as it was, with anything behind it. -/
import Derived.Test.YthmknpdhgfmogaaPgK
namespace Go.Proofs.Ythmknpdhgfmogaa
open Go.RowKit
set_option linter.unusedVariables false

/-- A block's head. -/
def hdOne (xs : List Nat) (k : Nat) : List Nat := shortB (nD xs (8 * k) - prevN xs k) ++ shortB (body (blk xs k)).length

/-- The heads of m blocks from block k on. -/
def hds (xs : List Nat) (k : Nat) : Nat → List Nat
  | 0 => []
  | m + 1 => hdOne xs k ++ hds xs (k + 1) m

theorem hdTo_hds (xs : List Nat) : ∀ m k, hdTo xs (k + m) = hdTo xs k ++ hds xs k m := by
  intro m
  induction m with
  | zero => intro k; simp [hds]
  | succ m ih =>
    intro k
    have e : k + (m + 1) = k + 1 + m := by omega
    rw [e, ih (k + 1)]
    show hdTo xs k ++ shortB _ ++ shortB _ ++ _ = _
    rw [show hds xs k (m + 1) = hdOne xs k ++ hds xs (k + 1) m from rfl]
    unfold hdOne
    simp only [List.append_assoc]

/-- What number i says in the bodies. -/
def piece (xs : List Nat) (i : Nat) : List Nat := if i % 8 = 0 then [] else shortB (nD xs i - nD xs (i - 1) - 1)

def flatTo (xs : List Nat) : Nat → List Nat
  | 0 => []
  | i + 1 => flatTo xs i ++ piece xs i

def flatR (xs : List Nat) (i : Nat) : Nat → List Nat
  | 0 => []
  | m + 1 => piece xs i ++ flatR xs (i + 1) m

theorem flatTo_R (xs : List Nat) : ∀ m i, flatTo xs (i + m) = flatTo xs i ++ flatR xs i m := by
  intro m
  induction m with
  | zero => intro i; simp [flatR]
  | succ m ih =>
    intro i
    have e : i + (m + 1) = i + 1 + m := by omega
    rw [e, ih (i + 1)]
    show flatTo xs i ++ piece xs i ++ _ = _
    rw [show flatR xs i (m + 1) = piece xs i ++ flatR xs (i + 1) m from rfl, List.append_assoc]

theorem flat_block (xs : List Nat) (k : Nat) : ∀ m, m < 8 → 8 * k + m < xs.length → flatTo xs (8 * k + m + 1) = flatTo xs (8 * k) ++ bodyTo (blk xs k) m := by
  intro m
  induction m with
  | zero =>
    intro _ _
    show flatTo xs (8 * k) ++ piece xs (8 * k) = _
    unfold piece
    rw [if_pos (by omega)]
    rfl
  | succ m ih =>
    intro h1 h2
    show flatTo xs (8 * k + m + 1) ++ piece xs (8 * k + (m + 1)) = _
    rw [ih (by omega) (by omega), List.append_assoc]
    unfold piece
    rw [if_neg (by omega)]
    have e1 : nD xs (8 * k + (m + 1)) = nD (blk xs k) (m + 1) := (blk_get h1 h2).symm
    have e2 : nD xs (8 * k + (m + 1) - 1) = nD (blk xs k) m := (blk_get (by omega) (by omega)).symm
    rw [e1, e2]
    rfl

theorem bdTo_flat (xs : List Nat) : ∀ k, k ≤ nblk xs → bdTo xs k = flatTo xs (min (8 * k) xs.length) := by
  intro k
  induction k with
  | zero => intro _; rw [show min (8 * 0) xs.length = 0 from by omega]; rfl
  | succ k ih =>
    intro hk
    have hk8 : 8 * k < xs.length := by unfold nblk at hk; omega
    show bdTo xs k ++ body (blk xs k) = _
    rw [ih (by omega), show min (8 * k) xs.length = 8 * k from by omega]
    unfold body
    have hl := blk_len xs k
    rw [← flat_block xs k ((blk xs k).length - 1) (by omega) (by omega)]
    congr 1
    omega

theorem bdTo_all (xs : List Nat) : bdTo xs (nblk xs) = flatTo xs xs.length := by
  rw [bdTo_flat xs (nblk xs) (Nat.le_refl _)]
  congr 1
  unfold nblk
  omega

theorem packB_flat (xs : List Nat) : packB xs = shortB xs.length ++ (hds xs 0 (nblk xs) ++ flatR xs 0 xs.length) := by
  unfold packB
  have h1 := hdTo_hds xs (nblk xs) 0
  have h2 := flatTo_R xs xs.length 0
  rw [Nat.zero_add] at h1 h2
  rw [h1, bdTo_all, h2, List.append_assoc]
  rfl

theorem hds_len (xs : List Nat) : ∀ m k, m ≤ (hds xs k m).length := by
  intro m
  induction m with
  | zero => intro k; exact Nat.zero_le _
  | succ m ih =>
    intro k
    have h1 := ih (k + 1)
    have h2 := shortB_pos (nD xs (8 * k) - prevN xs k)
    show m + 1 ≤ (hdOne xs k ++ hds xs (k + 1) m).length
    unfold hdOne
    simp only [List.length_append]
    omega

theorem flatTo_len (xs : List Nat) : ∀ i, i ≤ (flatTo xs i).length + (i + 7) / 8 := by
  intro i
  induction i with
  | zero => exact Nat.zero_le _
  | succ i ih =>
    show i + 1 ≤ (flatTo xs i ++ piece xs i).length + _
    rw [List.length_append]
    unfold piece
    split
    · simp; omega
    · have := shortB_pos (nD xs i - nD xs (i - 1) - 1)
      omega

section
variable {xs : List Nat} {t : List Nat}

theorem pack_first (hl : xs.length ≤ 100000) : shortP (packB xs ++ t) false = (xs.length, hds xs 0 (nblk xs) ++ (flatR xs 0 xs.length ++ t), false) := by
  rw [packB_flat, List.append_assoc, List.append_assoc]
  exact shortP_short _ _ _ (by omega)

theorem pack_small (hl : xs.length ≤ 100000) : readBig (packB xs ++ t) = false := by
  unfold readBig
  rw [pack_first hl]
  simp only [decide_eq_false_iff_not]
  have h1 := hds_len xs (nblk xs) 0
  have h2 := flatTo_len xs xs.length
  have h3 := flatTo_R xs xs.length 0
  rw [Nat.zero_add] at h3
  have h4 : (flatTo xs xs.length).length = (flatR xs 0 xs.length).length := by rw [h3]; rfl
  simp only [List.length_append]
  unfold nblk at h1 ⊢
  omega

/-- What stands after k heads. -/
def HeadI (xs t : List Nat) (k : Nat) (s : Nat × List Nat × List Nat × Bool) : Prop :=
  s.1 = prevN xs k ∧ s.2.1.length = xs.length ∧ (∀ j, nD s.2.1 j = if j % 8 = 0 ∧ j < 8 * k ∧ j < xs.length then nD xs j else 0) ∧ s.2.2.1 = hds xs k (nblk xs - k) ++ (flatR xs 0 xs.length ++ t) ∧ s.2.2.2 = false

theorem heads_all (hr : RiseN xs) (hl : xs.length ≤ 100000) : ∀ k, k ≤ nblk xs → HeadI xs t k (runH (0, List.replicate xs.length 0, hds xs 0 (nblk xs) ++ (flatR xs 0 xs.length ++ t), false) k) := by
  intro k
  induction k with
  | zero => intro _; exact ⟨rfl, by show (List.replicate xs.length 0).length = _; simp, fun j => by rw [if_neg (by omega)]; exact replicate_nD _ _, rfl, rfl⟩
  | succ k ih =>
    intro hk
    have hk8 : 8 * k < xs.length := by unfold nblk at hk; omega
    rw [runH_succ]
    obtain ⟨h1, h2, h3, h4, h5⟩ := ih (by omega)
    obtain ⟨s, hs⟩ : ∃ s, s = runH (0, List.replicate xs.length 0, hds xs 0 (nblk xs) ++ (flatR xs 0 xs.length ++ t), false) k := ⟨_, rfl⟩
    rw [← hs] at h1 h2 h3 h4 h5 ⊢
    have hm : nblk xs - k = (nblk xs - (k + 1)) + 1 := by omega
    rw [hm, show hds xs k (nblk xs - (k + 1) + 1) = hdOne xs k ++ hds xs (k + 1) (nblk xs - (k + 1)) from rfl] at h4
    unfold hdOne at h4
    rw [List.append_assoc, List.append_assoc] at h4
    have hmx := hr.1 (8 * k) hk8
    have hb40 := body_len40 hr k
    have p1 : shortP s.2.2.1 s.2.2.2 = (nD xs (8 * k) - prevN xs k, shortB (body (blk xs k)).length ++ (hds xs (k + 1) (nblk xs - (k + 1)) ++ (flatR xs 0 xs.length ++ t)), false) := by
      rw [h4, h5]
      exact shortP_short _ _ _ (by omega)
    have p2 : shortP (shortP s.2.2.1 s.2.2.2).2.1 (shortP s.2.2.1 s.2.2.2).2.2 = ((body (blk xs k)).length, hds xs (k + 1) (nblk xs - (k + 1)) ++ (flatR xs 0 xs.length ++ t), false) := by
      rw [p1]
      exact shortP_short _ _ _ (by omega)
    have hsum : s.1 + (nD xs (8 * k) - prevN xs k) = nD xs (8 * k) := by
      have := prevN_le hr k hk8
      rw [h1]
      omega
    unfold stepH
    rw [p2, p1]
    simp only [hsum]
    refine ⟨rfl, by simp [h2], fun j => ?_, rfl, rfl⟩
    show nD (s.2.1.set (8 * k) (nD xs (8 * k))) j = _
    rw [nD_set, h2, h3]
    by_cases hj : 8 * k = j
    · subst hj
      rw [if_pos ⟨rfl, hk8⟩, if_pos ⟨by omega, by omega, hk8⟩]
    · rw [if_neg (fun h => hj h.1)]
      by_cases hc : j % 8 = 0 ∧ j < 8 * k ∧ j < xs.length
      · rw [if_pos hc, if_pos ⟨hc.1, by omega, hc.2.2⟩]
      · rw [if_neg hc, if_neg (fun h => hc ⟨h.1, by omega, h.2.2⟩)]

/-- What stands after i numbers. -/
def BodyI (xs t : List Nat) (i : Nat) (s : List Nat × List Nat × Bool) : Prop :=
  s.1.length = xs.length ∧ (∀ j, j < xs.length → nD s.1 j = if j < i ∨ j % 8 = 0 then nD xs j else 0) ∧ s.2.1 = flatR xs i (xs.length - i) ++ t ∧ s.2.2 = false

theorem bodies_all (hr : RiseN xs) (s0 : List Nat × List Nat × Bool) (h0 : BodyI xs t 0 s0) : ∀ i, i ≤ xs.length → BodyI xs t i (runB s0 i) := by
  intro i
  induction i with
  | zero => intro _; exact h0
  | succ i ih =>
    intro hi
    rw [runB_succ]
    obtain ⟨h1, h2, h3, h4⟩ := ih (by omega)
    obtain ⟨s, hs⟩ : ∃ s, s = runB s0 i := ⟨_, rfl⟩
    rw [← hs] at h1 h2 h3 h4 ⊢
    have hm : xs.length - i = (xs.length - (i + 1)) + 1 := by omega
    rw [hm, show flatR xs i (xs.length - (i + 1) + 1) = piece xs i ++ flatR xs (i + 1) (xs.length - (i + 1)) from rfl] at h3
    unfold piece at h3
    unfold stepB
    by_cases h8 : i % 8 = 0
    · rw [if_pos h8]
      rw [if_pos h8, List.nil_append] at h3
      refine ⟨h1, fun j hj => ?_, h3, h4⟩
      rw [h2 j hj]
      by_cases hj2 : j < i ∨ j % 8 = 0
      · rw [if_pos hj2, if_pos (by omega)]
      · have hne : j ≠ i := fun e => hj2 (.inr (by rw [e]; exact h8))
        rw [if_neg hj2, if_neg (by omega)]
    · rw [if_neg h8]
      rw [if_neg h8, List.append_assoc] at h3
      have hmx := hr.1 i (by omega)
      have hri := hr.2 (i - 1) (by omega)
      rw [show i - 1 + 1 = i from by omega] at hri
      have p1 : shortP s.2.1 s.2.2 = (nD xs i - nD xs (i - 1) - 1, flatR xs (i + 1) (xs.length - (i + 1)) ++ t, false) := by
        rw [h3, h4]
        exact shortP_short _ _ _ (by omega)
      have hv : nD s.1 (i - 1) + 1 + (nD xs i - nD xs (i - 1) - 1) = nD xs i := by
        rw [h2 (i - 1) (by omega), if_pos (.inl (by omega))]
        omega
      rw [p1]
      simp only [hv]
      refine ⟨by simp [h1], fun j hj => ?_, rfl, rfl⟩
      show nD (s.1.set i (nD xs i)) j = _
      rw [nD_set, h1, h2 j hj]
      by_cases hj3 : i = j
      · subst hj3
        rw [if_pos ⟨rfl, hj⟩, if_pos (.inl (by omega))]
      · rw [if_neg (fun h => hj3 h.1)]
        by_cases hj2 : j < i ∨ j % 8 = 0
        · rw [if_pos hj2, if_pos (by omega)]
        · rw [if_neg hj2, if_neg (by omega)]

theorem nD_ext {a b : List Nat} (hl : a.length = b.length) (h : ∀ j, j < b.length → nD a j = nD b j) : a = b := by
  apply List.ext_getElem hl
  intro j h1 h2
  have := h j h2
  unfold nD at this
  rw [List.getD_eq_getElem?_getD, List.getD_eq_getElem?_getD, List.getElem?_eq_getElem h1, List.getElem?_eq_getElem h2] at this
  exact this

theorem read_pack (hr : RiseN xs) (hl : xs.length ≤ 100000) : bodyS (packB xs ++ t) xs.length = (xs, t, false) := by
  have hH : HeadI xs t (nblk xs) (headS (packB xs ++ t)) := by
    unfold headS
    rw [pack_first hl]
    exact heads_all hr hl (nblk xs) (Nat.le_refl _)
  obtain ⟨h1, h2, h3, h4, h5⟩ := hH
  have hB : BodyI xs t 0 ((headS (packB xs ++ t)).2.1, (headS (packB xs ++ t)).2.2) := by
    refine ⟨h2, fun j hj => ?_, ?_, h5⟩
    · show nD (headS (packB xs ++ t)).2.1 j = _
      rw [h3]
      by_cases h8 : j % 8 = 0
      · rw [if_pos ⟨h8, by unfold nblk; omega, hj⟩, if_pos (.inr h8)]
      · rw [if_neg (fun h => h8 h.1), if_neg (by omega)]
    · show (headS (packB xs ++ t)).2.2.1 = _
      rw [h4, Nat.sub_self, Nat.sub_zero]
      rfl
  obtain ⟨g1, g2, g3, g4⟩ := bodies_all hr _ hB xs.length (Nat.le_refl _)
  have e1 : (bodyS (packB xs ++ t) xs.length).1 = xs := nD_ext g1 (fun j hj => by
    have := g2 j hj
    rw [if_pos (.inl hj)] at this
    exact this)
  have e2 : (bodyS (packB xs ++ t) xs.length).2.1 = t := by
    have : (bodyS (packB xs ++ t) xs.length).2.1 = flatR xs xs.length (xs.length - xs.length) ++ t := g3
    rw [this, Nat.sub_self]
    rfl
  have e3 : (bodyS (packB xs ++ t) xs.length).2.2 = false := g4
  rw [← e1, ← e2, ← e3]
  simp only [e1, e2, e3]
  exact Prod.ext e1 (Prod.ext e2 e3)

theorem canP_up_of (hr : RiseN xs) (hl : xs.length ≤ 100000) : canP (up xs) = true := by
  refine canP_yes _ (by rw [up_len]; exact hl) (fun i hi => ?_)
  rw [up_len] at hi
  have h1 := hr.1 i hi
  unfold canAtP
  rw [zget (up_get hi)]
  by_cases h0 : i = 0
  · subst h0
    simp; omega
  · have h2 := hr.2 (i - 1) (by omega)
    rw [show i - 1 + 1 = i from by omega] at h2
    rw [zget (up_get (show i - 1 < xs.length by omega))]
    simp; omega

/-- Unpack of Pack is the numbers. -/
theorem unpP_pack (hr : RiseN xs) (hl : xs.length ≤ 100000) : unpP (packB xs) = some xs := by
  have h1 := read_pack (t := []) hr hl
  have h2 := pack_small (t := []) hl
  have h3 := pack_first (t := []) hl
  rw [List.append_nil] at h1 h2 h3
  unfold unpP readL
  rw [h2, h3]
  simp only [h1]
  rw [if_neg (by simp), if_neg (by simp), if_pos ⟨canP_up_of hr hl, trivial⟩]

theorem unpP_more (hr : RiseN xs) (hl : xs.length ≤ 100000) (h0 : t ≠ []) : unpP (packB xs ++ t) = none := by
  have h1 := read_pack (t := t) hr hl
  have h2 := pack_small (t := t) hl
  have h3 := pack_first (t := t) hl
  unfold unpP readL
  rw [h2, h3]
  simp only [h1]
  rw [if_neg (by simp), if_neg (by simp), if_neg]
  rintro ⟨_, h⟩
  have := congrArg List.length h
  rw [List.length_append] at this
  exact h0 (List.length_eq_zero_iff.1 (by omega))
end
end Go.Proofs.Ythmknpdhgfmogaa
