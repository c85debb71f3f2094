/- the document's Manifest. -/
import Derived.Test.YteammmhlpinhfaaGreatDoorFkC
import Derived.Test.YteammmhlpinhfaaGreatDoorPlI
namespace Go.Proofs.YteammmhlpinhfaaGreatDoor
open Go.RowKit
set_option linter.unusedVariables false

/-- a number's cell is no byte's: an append onto bytes leaves it. -/
theorem fk_keep {w w' : World} {base n g : Nat} {v : Value} {xs : List Value} {cs : Array Value} {fz : Nat × Nat} (h : w.ownsRow base 5 1 v n xs) (hg : w.grownBy w' v.ownBlock) (hq : w.heap[g]? = some (.cells cs 3 fz)) : w'.heap[g]? = some (.cells cs 3 fz) := by
  obtain ⟨_, _, _, _, hk⟩ := hg
  rw [← hq]
  refine hk g (Array.getElem?_eq_some_iff.1 hq).1 (fun e => ?_)
  rcases h.2 with ⟨h1, _⟩ | ⟨g', cap, cur, hv, hg', hh, r⟩
  · rw [h1] at e; cases e
  · rw [hv] at e
    cases e
    rw [hq] at hh
    simp at hh

theorem fk_seven {w : World} {g : Nat} {x0 x1 x2 x3 x4 x5 x6 : Int} {fz : Nat × Nat} (h : w.heap[g]? = some (.cells #[.int .i64 x0, .int .i64 x1, .int .i64 x2, .int .i64 x3, .int .i64 x4, .int .i64 x5, .int .i64 x6] 3 fz)) (j : Nat) (x : Int) (hx : [x0, x1, x2, x3, x4, x5, x6][j]? = some x) : w.cell? ⟨g, j, none⟩ = some (.int .i64 x) := by
  have hj : j < 7 := (List.getElem?_eq_some_iff.1 hx).1
  rw [cell_of_row _ _ _ _ _ _ h]
  have hc : j = 0 ∨ j = 1 ∨ j = 2 ∨ j = 3 ∨ j = 4 ∨ j = 5 ∨ j = 6 := by omega
  rcases hc with rfl | rfl | rfl | rfl | rfl | rfl | rfl <;> (simp at hx; subst hx; rfl)

end Go.Proofs.YteammmhlpinhfaaGreatDoor
