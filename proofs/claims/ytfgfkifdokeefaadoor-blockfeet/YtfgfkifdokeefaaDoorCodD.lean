/- The reader's method samples. -/
import Derived.Test.YtfgfkifdokeefaaDoorCodDMath
import Derived.Test.YtfgfkifdokeefaaDoorCodSam
import Derived.WalkMore
namespace Go.Proofs.YtfgfkifdokeefaaDoor.Cd
open Go.RowKit Go.Joins
set_option linter.unusedVariables false
set_option linter.unusedSimpArgs false

theorem Kr.thenBelow {r : Nat} {a b c : World} (h : Kr r a b) (hb : Below a.heap.size b c) : Kr r a c :=
  ⟨hb.os.trans h.1, hb.tape.trans h.2.1, hb.output.trans h.2.2.1, Nat.le_trans h.2.2.2.1 hb.size, fun i hi hn => (hb.block i hi).trans (h.2.2.2.2 i hi hn)⟩

theorem own_kr {w w' : World} {r base e size n : Nat} {v : Value} {xs : List Value} (h : w.ownsRow base e size v n xs) (hr : r < base) (hk : Kr r w w') : w'.ownsRow base e size v n xs := by
  obtain ⟨hl, h1⟩ := h
  refine ⟨hl, ?_⟩
  rcases h1 with h1 | ⟨g, cap, cur, hv, hg, hh, q⟩
  · exact .inl h1
  · exact .inr ⟨g, cap, cur, hv, hg, (hk.2.2.2.2 g (Array.getElem?_eq_some_iff.1 hh).1 (by omega)).trans hh, q⟩

theorem tab_kr {w w' : World} {r : Nat} (h : BitsTab w) (hr : 0 ≠ r) (hk : Kr r w w') : BitsTab w' := by
  intro k hk4
  obtain ⟨h1, h2, h3⟩ := h k hk4
  have hlt := block_lt_of_cell h1
  have e := hk.2.2.2.2 0 hlt hr
  have hc : ∀ o, w'.cell? ⟨0, o, none⟩ = w.cell? ⟨0, o, none⟩ := by
    intro o
    unfold World.cell?
    simp only [e]
  exact ⟨(hc _).trans h1, (hc _).trans h2, (hc _).trans h3⟩

theorem aheadS_ok {l : List Sam} (h : SamsOK l) (k : Nat) : SamOK (aheadS l k) := by
  cases k with
  | zero => exact samOK_zero
  | succ k => exact h k

theorem pstepS_rng (l : List Sam) (k : Nat) : -9223372036854775808 ≤ pstepS l k ∧ pstepS l k ≤ 9223372036854775807 := by
  cases k with
  | zero => show -9223372036854775808 ≤ (0 : Int) ∧ (0 : Int) ≤ 9223372036854775807; decide
  | succ k =>
    cases k with
    | zero => show -9223372036854775808 ≤ (0 : Int) ∧ (0 : Int) ≤ 9223372036854775807; decide
    | succ k => exact wrap64_rng _

theorem sams_snoc {l : List Sam} {s : Sam} (h : SamsOK l) (hs : SamOK s) : SamsOK (l ++ [s]) := by
  intro i
  by_cases hi : i < l.length
  · rw [samD_app_lt hi]; exact h i
  · by_cases he : i = l.length
    · rw [he, samD_app_at]; exact hs
    · have : samD (l ++ [s]) i = ⟨0, 0⟩ := by
        unfold samD
        rw [List.getD_eq_getElem?_getD, List.getElem?_eq_none (by rw [List.length_append, List.length_singleton]; omega)]
        rfl
      rw [this]; exact samOK_zero

theorem rise_snoc {l : List Sam} {s : Sam} (h : riseS l) (hs : l.length ≠ 0 → (aheadS l l.length).t < s.t) : riseS (l ++ [s]) := by
  intro k hk
  rw [List.length_append, List.length_singleton] at hk
  by_cases hl : k + 1 < l.length
  · rw [samD_app_lt (by omega), samD_app_lt hl]; exact h k hl
  · have he : k + 1 = l.length := by omega
    rw [samD_app_lt (by omega), he, samD_app_at]
    have := hs (by omega)
    rw [← he] at this
    exact this

theorem pstep_snoc_zero (s : Sam) : pstepS ([] ++ [s]) 1 = 0 := rfl

theorem pstep_snoc {l : List Sam} {s : Sam} (h : l.length ≠ 0) : pstepS (l ++ [s]) (l.length + 1) = wrap64 (s.t - (aheadS l l.length).t) := by
  obtain ⟨k, hk⟩ : ∃ k, l.length = k + 1 := ⟨l.length - 1, by omega⟩
  show stepS (l ++ [s]) l.length = _
  rw [hk]
  show wrap64 ((samD (l ++ [s]) (k + 1)).t - (samD (l ++ [s]) k).t) = wrap64 (s.t - (samD l k).t)
  have e1 : samD (l ++ [s]) (k + 1) = s := by rw [← hk]; exact samD_app_at l s
  rw [e1, samD_app_lt (by omega)]

end Go.Proofs.YtfgfkifdokeefaaDoor.Cd
