/- plan.Expired, and the document's. -/
import Derived.Test.YteammmhlpinhfaaGreatDoorPlA
namespace Go.Proofs.YteammmhlpinhfaaGreatDoor
open Go.RowKit Go.Joins
set_option linter.unusedVariables false

/-- Numbers in a row of their own. -/
def OwnI (w : World) (L : List Int) (e : Ending) (w' : World) : Prop := ∃ v, e = .returned v ∧ w'.ownsRow w.heap.size 3 1 v L.length (ivs L) ∧ Below w.heap.size w w'

def isGone (fl : Int) (f : Fo) : Bool := decide (f.mx < fl) || decide (f.bt = 0)

def expL (l : List Fo) (fl : Int) : List Int := (l.filter (isGone fl)).map Fo.nu

theorem expL_snoc (l : List Fo) (f : Fo) (fl : Int) : expL (l ++ [f]) fl = expL l fl ++ (if isGone fl f then [f.nu] else []) := by
  unfold expL
  rw [List.filter_append, List.map_append]
  congr 1
  by_cases h : isGone fl f = true <;> simp [List.filter, h]

theorem ivs_length (l : List Int) : (ivs l).length = l.length := by simp [ivs]

end Go.Proofs.YteammmhlpinhfaaGreatDoor
