/- Footers in a row of their own; slices.Contains of numbers. -/
import Derived.Test.YtjckfcholnkleaaPlB
import Derived.Test.YtjckfcholnkleaaPlShelf
namespace Go.Proofs.Ytjckfcholnkleaa
open Go.RowKit Go.Joins
set_option linter.unusedVariables false

theorem foInfo : ∃ i0 z, Try.prog.info? 32 = some i0 ∧ i0.zero = some z ∧ i0.size = 8 ∧ i0.bytes = 80 ∧ z.cells.size = 8 := by
  have h : (Try.prog.info? 32).map (fun i => (i.zero, i.size, i.bytes)) = some (some (.agg #[.int .i64 0, .int .i64 0, .int .i64 0, .int .i64 0, .int .i64 0, .int .i64 0, .int .i64 0, .slice none 0 0]), 8, 80) := by kernel_rfl
  cases hi : Try.prog.info? 32 with
  | none => rw [hi] at h; cases h
  | some i0 =>
    rw [hi] at h
    simp only [Option.map_some, Option.some.injEq, Prod.mk.injEq] at h
    exact ⟨i0, _, rfl, h.1, h.2.1, h.2.2, rfl⟩

theorem fls_of_own {w : World} {base : Nat} {v : Value} {l : List Fo} (h : w.ownsRow base 32 8 v l.length (fvs l)) (hP : ∀ d ∈ l, Ils w d.pa d.pl d.ps ∧ d.pl ≤ d.pc) : ∃ a c, v = .slice a l.length c ∧ Fls w a l.length l ∧ l.length ≤ c := by
  have h' := h
  rcases h.2 with ⟨rfl, h0⟩ | ⟨g, cap, cur, rfl, hg, hh, hnc, hcm, hcs, htk⟩
  · rw [h0]
    exact ⟨none, 0, rfl, ⟨h0, Nat.zero_le _, fun _ => rfl, hP, (fun x hx => by cases hx)⟩, Nat.le_refl _⟩
  · refine ⟨_, cap, rfl, ⟨rfl, by omega, (fun h => by cases h), hP, fun x hx j d hd k v hk => ?_⟩, hnc⟩
    cases hx
    exact h'.cells (g := g) rfl _ _ (fvs_get l j d hd k v hk)

theorem contains_any (a : Option Addr) (len cap : Nat) (l : List Int) (x : Int) (w : World) (h : Ils w a len l) :
    Calls Try.prog 24 #[.slice a len cap, .int .i64 x] w fun e w' => e = .returned (.bool (l.contains x)) ∧ w' = w := by
  cases a with
  | none =>
    have h0 := h.2.2.1 rfl
    subst h0
    obtain rfl : l = [] := List.length_eq_zero_iff.1 h.1
    exact (Try.slices_Contains_int_empty none cap x w).mono fun e w' hh => by
      obtain ⟨rfl, rfl⟩ := hh
      exact ⟨by simp, rfl⟩
  | some y =>
    by_cases h0 : len = 0
    · subst h0
      obtain rfl : l = [] := List.length_eq_zero_iff.1 h.1
      exact (Try.slices_Contains_int_empty (some y) cap x w).mono fun e w' hh => by
        obtain ⟨rfl, rfl⟩ := hh
        exact ⟨by simp, rfl⟩
    · obtain ⟨c0, hc0⟩ : ∃ c, l[0]? = some c := ⟨_, List.getElem?_eq_getElem (by rw [h.1]; omega)⟩
      obtain ⟨b, off, rfl', -⟩ := h.at hc0
      cases rfl'
      have hlm := h.2.1
      unfold maxLen at hlm
      have HC := Try.slices_Contains_int b off len cap l x w (by rw [h.1]; exact Nat.le_refl _) (by omega) (fun j hj => by
        have e : l[j]? = some (l.getD j 0) := by rw [List.getD_eq_getElem?_getD, List.getElem?_eq_getElem hj]; rfl
        obtain ⟨b', off', e', cc⟩ := h.at e
        cases e'
        exact cc)
      rw [List.take_of_length_le (by rw [h.1]; exact Nat.le_refl _)] at HC
      exact HC

end Go.Proofs.Ytjckfcholnkleaa
