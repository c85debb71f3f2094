/- plan.Merge. -/
import Derived.Test.YteammmhlpinhfaaGreatDoorPlD
namespace Go.Proofs.YteammmhlpinhfaaGreatDoor
open Go.RowKit Go.Joins
set_option linter.unusedVariables false

def okM (f g h : Fo) : Bool := decide (f.lv = g.lv) && decide (g.lv = h.lv) && decide (f.lv < 3)

def mergeL : List Fo → List Int
  | f :: g :: h :: t => if okM f g h then [f.nu, g.nu, h.nu] else mergeL (g :: h :: t)
  | _ => []

theorem mergeL_short {l : List Fo} (h : l.length < 3) : mergeL l = [] := by
  match l, h with
  | [], _ => rfl
  | [_], _ => rfl
  | [_, _], _ => rfl

theorem canMergeL_three (f g h : Fo) : canMergeL [f, g, h] = okM f g h := by
  simp only [canMergeL, List.all_cons, List.all_nil, okLv, okM, Bool.and_true]
  by_cases h1 : f.lv = g.lv <;> by_cases h2 : g.lv = h.lv <;> by_cases h3 : f.lv < 3
  all_goals simp_all
  all_goals omega

theorem three {l : List Fo} {k : Nat} (h : k + 3 ≤ l.length) : ∃ f g x t, l.drop k = f :: g :: x :: t ∧ (l.drop k).take 3 = [f, g, x] ∧ l[k]? = some f ∧ l[k + 1]? = some g ∧ l[k + 2]? = some x ∧ l.drop (k + 1) = g :: x :: t := by
  have hl : (l.drop k).length = l.length - k := List.length_drop ..
  match hd : l.drop k with
  | [] => rw [hd] at hl; simp at hl; omega
  | [_] => rw [hd] at hl; simp at hl; omega
  | [_, _] => rw [hd] at hl; simp at hl; omega
  | f :: g :: x :: t =>
    have e : ∀ j, l[k + j]? = (f :: g :: x :: t)[j]? := fun j => by rw [← hd, List.getElem?_drop]
    refine ⟨f, g, x, t, rfl, rfl, e 0, e 1, e 2, ?_⟩
    rw [← List.drop_drop, hd]
    rfl

theorem min14 (len : Nat) : ∃ n : Nat, n ≤ len ∧ n ≤ 14 ∧ min (len : Int) 14 = (n : Int) ∧ (if (14 : Int) < (len : Int) then (14 : Int) else (len : Int)) = (n : Int) := by
  refine ⟨min len 14, by omega, by omega, by omega, ?_⟩
  split <;> omega

end Go.Proofs.YteammmhlpinhfaaGreatDoor
