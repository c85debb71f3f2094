/- What is taken as a number is the number's own bits. -/
import Derived.Test.YtdpoiodaonhjiabDoorIntsLaw
namespace Go.Proofs.YtdpoiodaonhjiabDoor
open Go.RowKit
set_option linter.unusedVariables false

theorem numOf_inj : ∀ (l l' : List Bool), l.length = l'.length → numOf l = numOf l' → l = l' := by
  intro l
  induction l with
  | nil => intro l' h _; cases l' with
    | nil => rfl
    | cons _ _ => simp at h
  | cons b t ih =>
    intro l' hl h
    cases l' with
    | nil => simp at hl
    | cons b' t' =>
      simp at hl
      rw [numOf_cons, numOf_cons, hl] at h
      have h1 := numOf_lt t
      have h2 := numOf_lt t'
      rw [hl] at h1
      have hb : b = b' := by
        cases b <;> cases b' <;> simp at h ⊢ <;> omega
      subst hb
      rw [ih t' hl (by omega)]
theorem sgn_u64 (word k : Nat) (hk : k ≤ 4) (hw : word < 2 ^ clsWidth k) : u64 (sgn word (clsWidth k)) % 2 ^ clsWidth k = word := by
  have hu := u64_of (sgn word (clsWidth k))
  generalize u64 (sgn word (clsWidth k)) = u at hu ⊢
  have hk5 : k = 0 ∨ k = 1 ∨ k = 2 ∨ k = 3 ∨ k = 4 := by omega
  rcases hk5 with rfl | rfl | rfl | rfl | rfl
  · rw [show clsWidth 0 = 0 from rfl] at *
    omega
  · rw [show clsWidth 1 = 7 from rfl] at *
    unfold sgn at hu
    split at hu <;> simp only [Int.reducePow, Nat.reducePow] at * <;> omega
  · rw [show clsWidth 2 = 12 from rfl] at *
    unfold sgn at hu
    split at hu <;> simp only [Int.reducePow, Nat.reducePow] at * <;> omega
  · rw [show clsWidth 3 = 32 from rfl] at *
    unfold sgn at hu
    split at hu <;> simp only [Int.reducePow, Nat.reducePow] at * <;> omega
  · rw [show clsWidth 4 = 64 from rfl] at *
    unfold sgn at hu
    split at hu <;> simp only [Int.reducePow, Nat.reducePow] at * <;> omega
theorem ti_err {zs : List Nat} {x at_ v to e : Int} (h : TI zs x at_ v to e) (he : e ≠ 0) : v = 0 ∧ to = 0 := by
  rcases h with ⟨_, rfl, rfl, _⟩ | ⟨_, k, er, _, ⟨_, rfl, rfl, _⟩ | ⟨_, ⟨_, rfl, rfl, _⟩ | ⟨_, ⟨_, rfl, rfl, _⟩ | ⟨_, _, _, rfl⟩⟩⟩⟩
  · exact ⟨rfl, rfl⟩
  · exact ⟨rfl, rfl⟩
  · exact ⟨rfl, rfl⟩
  · exact ⟨rfl, rfl⟩
  · exact absurd rfl he
theorem ti_bits {zs : List Nat} {n q : Nat} {v to : Int} (h : TI zs n q v to 0) : to = ((q + intLen v : Nat) : Int) ∧ q + intLen v ≤ n ∧ (-9223372036854775808 ≤ v ∧ v ≤ 9223372036854775807) ∧ ∀ i, i < intLen v → bitAt zs (q + i) = (intBits v).getD i false := by
  rcases h with ⟨_, _, _, h⟩ | ⟨_, k, er, hc, ⟨hne, _, _, h⟩ | ⟨rfl, ⟨_, _, _, h⟩ | ⟨hf, ⟨_, _, _, h⟩ | ⟨hcl, hv, hto, _⟩⟩⟩⟩
  · cases h
  · exact absurd h.symm hne
  · cases h
  · cases h
  · rw [Int.toNat_natCast, Int.toNat_natCast] at hc hf
    rw [Int.toNat_natCast] at hcl hv hto
    have hk4 := hc.marks.1
    have hwl : numOf (win zs (q + clsMarks k) (clsWidth k)) < 2 ^ clsWidth k := by
      have := numOf_lt (win zs (q + clsMarks k) (clsWidth k)); rwa [win_length] at this
    have hb := sgn_bounds _ k hk4 hwl
    have hsu := sgn_u64 _ k hk4 hwl
    rw [← hv] at hcl hb hsu
    subst hcl
    have hil : intLen v = clsMarks (cls v) + clsWidth (cls v) := rfl
    refine ⟨by rw [hto, hil, Nat.add_assoc], by omega, hb, fun i hi => ?_⟩
    unfold intBits
    rw [getD_app, lowBits_length]
    by_cases h1 : i < clsMarks (cls v)
    · rw [if_pos h1]
      obtain ⟨m1, m2, m3, m4⟩ := marks_ones (cls v) hk4
      rcases hc with ⟨_, _, ho, hz⟩ | ⟨hh, _⟩
      · by_cases hik : i < cls v
        · rw [m1 i hik]; exact (ho i hik).2
        · have hk : cls v < 4 := by
            by_cases hk : cls v < 4
            · exact hk
            · have := m4 (by omega); omega
          have hik2 : i = cls v := by have := m3 hk; omega
          rw [hik2, m2 hk]; exact (hz hk).2
      · cases hh
    · rw [if_neg h1]
      have hwin : win zs (q + clsMarks (cls v)) (clsWidth (cls v)) = lowBits (u64 v) (clsWidth (cls v)) :=
        numOf_inj _ _ (by rw [win_length, lowBits_length]) (by rw [numOf_lowBits]; exact hsu.symm)
      rw [← hwin]
      have : q + i = q + clsMarks (cls v) + (i - clsMarks (cls v)) := by omega
      rw [this]
      simp [win, show i - clsMarks (cls v) < clsWidth (cls v) from by omega]
end Go.Proofs.YtdpoiodaonhjiabDoor
