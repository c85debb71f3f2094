/- plan.canMerge, plan.Merge. -/
import Derived.Test.YteammmhlpinhfaaGreatDoorPlC
import Derived.Deep.RegionWith
namespace Go.Proofs.YteammmhlpinhfaaGreatDoor
open Go.RowKit Go.Joins
set_option linter.unusedVariables false

def okLv (x : Int) (f : Fo) : Bool := decide (f.lv = x) && decide (f.lv < 3)

def canMergeL (l : List Fo) : Bool := match l with
  | [] => true
  | d :: t => (d :: t).all (okLv d.lv)

theorem canMergeL_of {l : List Fo} {d : Fo} (h : l[0]? = some d) : canMergeL l = l.all (okLv d.lv) := by
  cases l with
  | nil => simp at h
  | cons x t => simp at h; subst h; rfl

theorem all_take_false {l : List Fo} {p : Fo → Bool} {k : Nat} {d : Fo} (hd : l[k]? = some d) (h : p d = false) : l.all p = false := by
  rw [Bool.eq_false_iff]
  intro e
  have := List.all_eq_true.1 e d (List.mem_of_getElem? hd)
  rw [h] at this
  cases this

end Go.Proofs.YteammmhlpinhfaaGreatDoor
