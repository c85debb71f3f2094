/- Footers in a row of their own; slices.Contains of numbers. -/
import Derived.Test.YteammmhlpinhfaaGreatDoorPlB
import Derived.Test.YteammmhlpinhfaaGreatDoorPlShelf
namespace Go.Proofs.YteammmhlpinhfaaGreatDoor
open Go.RowKit Go.Joins
set_option linter.unusedVariables false

theorem foInfo : ∃ i0 z, Tryz.prog.info? 40 = some i0 ∧ i0.zero = some z ∧ i0.size = 8 ∧ i0.bytes = 80 ∧ z.cells.size = 8 := by
  have h : (Tryz.prog.info? 40).map (fun i => (i.zero, i.size, i.bytes)) = some (some (.agg #[.int .i64 0, .int .i64 0, .int .i64 0, .int .i64 0, .int .i64 0, .int .i64 0, .int .i64 0, .slice none 0 0]), 8, 80) := by kernel_rfl
  cases hi : Tryz.prog.info? 40 with
  | none => rw [hi] at h; cases h
  | some i0 =>
    rw [hi] at h
    simp only [Option.map_some, Option.some.injEq, Prod.mk.injEq] at h
    exact ⟨i0, _, rfl, h.1, h.2.1, h.2.2, rfl⟩

theorem fls_of_own {w : World} {base : Nat} {v : Value} {l : List Fo} (h : w.ownsRow base 40 8 v l.length (fvs l)) (hP : ∀ d ∈ l, Ils w d.pa d.pl d.ps ∧ d.pl ≤ d.pc) : ∃ a c, v = .slice a l.length c ∧ Fls w a l.length l ∧ l.length ≤ c := by
  have h' := h
  rcases h.2 with ⟨rfl, h0⟩ | ⟨g, cap, cur, rfl, hg, hh, hnc, hcm, hcs, htk⟩
  · rw [h0]
    exact ⟨none, 0, rfl, ⟨h0, Nat.zero_le _, fun _ => rfl, hP, (fun x hx => by cases hx)⟩, Nat.le_refl _⟩
  · refine ⟨_, cap, rfl, ⟨rfl, by omega, (fun h => by cases h), hP, fun x hx j d hd k v hk => ?_⟩, hnc⟩
    cases hx
    exact h'.cells (g := g) rfl _ _ (fvs_get l j d hd k v hk)

end Go.Proofs.YteammmhlpinhfaaGreatDoor
