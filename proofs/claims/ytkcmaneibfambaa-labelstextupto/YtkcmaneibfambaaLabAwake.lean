/- dryrotlaw07.awake returns true. -/
import Derived.Test.YtkcmaneibfambaaLabText
namespace Go.Proofs.Ytkcmaneibfambaa
open Go.RowKit
set_option linter.unusedVariables false

/-- The labels of awake. -/
def awL : List Lab := [(⟨#[97]⟩, ⟨#[120]⟩), (⟨#[98]⟩, ⟨#[34, 121, 34]⟩)]
theorem awL_can : canOK awL = true := by decide +kernel
theorem awL_text : textOf awL = [123, 97, 61, 34, 120, 34, 44, 98, 61, 34, 92, 34, 121, 92, 34, 34, 125] := by decide +kernel
theorem awL_ls (w : World) (t : TypeId) : Ls (w.alloc (.cells #[.string ⟨#[97]⟩, .string ⟨#[120]⟩, .string ⟨#[98]⟩, .string ⟨#[34, 121, 34]⟩] t)) (some ⟨w.heap.size, 0, none⟩) 2 awL := by
  refine ⟨rfl, by decide, ?_, (fun h => by cases h), ?_⟩
  · intro i
    match i with
    | 0 => exact ⟨by decide, by decide⟩
    | 1 => exact ⟨by decide, by decide⟩
    | i + 2 => exact ⟨by show ByteArray.empty.size ≤ _; decide, by show ByteArray.empty.size ≤ _; decide⟩
  · intro x hx j hj
    cases hx
    rw [ladd_none, ladd_none, cell_at (alloc_at w _), cell_at (alloc_at w _)]
    match j, hj with
    | 0, _ => exact ⟨rfl, rfl⟩
    | 1, _ => exact ⟨rfl, rfl⟩

set_option maxHeartbeats 2000000 in
theorem awake_any (w : World) :
    Calls Try.prog 19 #[] w fun e w' => e = .returned (.bool true) ∧ Below w.heap.size w w' := by
  go_enter Try.func19, Try.ntmps19
  go_wp2_with fail
  refine (text_yes _ 2 2 awL _ (awL_ls w _) (by decide) awL_can).mono ?_
  rintro e w' ⟨rfl, hb⟩
  have hb' := below_new _ (hb.mono (by simp))
  rw [awL_text]
  go_wp2
  go_ret
  exact ⟨rfl, hb'⟩
end Go.Proofs.Ytkcmaneibfambaa
