/- Samples as cells of a row. -/
import Derived.Test.YtfgfkifdokeefaaDoorCodE
namespace Go.Proofs.YtfgfkifdokeefaaDoor.Cd
open Go.RowKit Go.Joins
set_option linter.unusedVariables false
set_option linter.unusedSimpArgs false

theorem Tryd.infoSam : (Tryd.prog.info? 50).map (fun i => (i.zero, i.size, i.bytes)) = some (some (.agg #[.int .i64 0, .int .u64 0]), 2, 16) := by kernel_rfl
/-- Samples as cells. -/
def vsm : List Sam → List Value
  | [] => []
  | s :: t => [.int .i64 s.t, .int .u64 (s.v : Int)] ++ vsm t
theorem vsm_app (l m : List Sam) : vsm (l ++ m) = vsm l ++ vsm m := by
  induction l with
  | nil => rfl
  | cons s t ih => simp [vsm, ih]
theorem vsm_len (l : List Sam) : (vsm l).length = l.length * 2 := by
  induction l with
  | nil => rfl
  | cons s t ih => simp [vsm, ih]; omega
theorem vsm_get (l : List Sam) : ∀ j, j < l.length → (vsm l)[j * 2]? = some (.int .i64 (samD l j).t) ∧ (vsm l)[j * 2 + 1]? = some (.int .u64 ((samD l j).v : Int)) := by
  induction l with
  | nil => intro j hj; simp at hj
  | cons s t ih =>
    intro j hj
    cases j with
    | zero => exact ⟨rfl, rfl⟩
    | succ j =>
      have := ih j (by simpa using hj)
      have e1 : (vsm (s :: t))[(j + 1) * 2]? = (vsm t)[j * 2]? := by
        rw [show (j + 1) * 2 = j * 2 + 2 from by omega]; rfl
      have e2 : (vsm (s :: t))[(j + 1) * 2 + 1]? = (vsm t)[j * 2 + 1]? := by
        rw [show (j + 1) * 2 + 1 = j * 2 + 1 + 2 from by omega]; rfl
      rw [e1, e2]
      exact this
theorem sm_of_own {w : World} {base n : Nat} {v : Value} {l : List Sam} (h : w.ownsRow base 50 2 v n (vsm l)) (hz : ∀ i, SamOK (samD l i)) :
    ∃ a cap, v = .slice a n cap ∧ n ≤ cap ∧ Sm w a n l := by
  have h' := h
  obtain ⟨hl, h1⟩ := h
  have hn : l.length = n := by rw [vsm_len] at hl; omega
  rcases h1 with ⟨rfl, rfl⟩ | ⟨g, cap, cur, rfl, hg, hh, hnc, hcm, hcs, htk⟩
  · obtain rfl : l = [] := List.length_eq_zero_iff.1 hn
    exact ⟨none, 0, rfl, Nat.le_refl _, Sm.nil w⟩
  · refine ⟨_, cap, rfl, hnc, hn, by omega, hz, (fun h => by simp at h), fun x hx j hj => ?_⟩
    cases hx
    obtain ⟨g1, g2⟩ := vsm_get l j (by omega)
    have c1 := h'.cellAt (j * 2) (by omega)
    have c2 := h'.cellAt (j * 2 + 1) (by omega)
    rw [g1] at c1
    rw [g2] at c2
    rw [add_none, add_none, Nat.zero_add, Nat.zero_add]
    exact ⟨c1, c2⟩
theorem one_vsm (l : List Sam) : ∀ u ∈ vsm l, u.oneCell' = true := by
  induction l with
  | nil => intro u hu; simp [vsm] at hu
  | cons s t ih =>
    intro u hu
    simp only [vsm, List.mem_append, List.mem_cons, List.not_mem_nil, or_false] at hu
    rcases hu with (rfl | rfl) | hu
    · rfl
    · rfl
    · exact ih u hu
theorem Sm.take {w : World} {a : Option Addr} {len : Nat} {l : List Sam} (h : Sm w a len l) (m : Nat) (hm : m ≤ len) : Sm w a m (l.take m) := by
  obtain ⟨h1, h2, h3, h4, h5⟩ := h
  have hd : ∀ i, i < m → samD (l.take m) i = samD l i := by
    intro i hi
    simp [samD, List.getD_eq_getElem?_getD, hi]
  refine ⟨by rw [List.length_take]; omega, by omega, fun i => ?_, fun h => by have := h4 h; omega, fun x hx j hj => ?_⟩
  · by_cases hi : i < m
    · rw [hd i hi]; exact h3 i
    · have : samD (l.take m) i = ⟨0, 0⟩ := by
        unfold samD
        rw [List.getD_eq_getElem?_getD, List.getElem?_eq_none (by rw [List.length_take]; omega)]
        rfl
      rw [this]; exact samOK_zero
  · rw [hd j hj]; exact h5 x hx j (by omega)
end Go.Proofs.YtfgfkifdokeefaaDoor.Cd
