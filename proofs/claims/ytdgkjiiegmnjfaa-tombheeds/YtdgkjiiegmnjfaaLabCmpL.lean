/- labels.Compare, slices.Equal of labels: contracts at any lists. -/
import Derived.Test.YtdgkjiiegmnjfaaLabCmp
import Derived.Lib.OthersKept
namespace Go.Proofs.Ytdgkjiiegmnjfaa
open Go.RowKit
set_option linter.unusedVariables false

theorem labD_drop (ls : List Lab) (k : Nat) (h : k < ls.length) : ls.drop k = labD ls k :: ls.drop (k + 1) := by
  rw [List.drop_eq_getElem_cons h]
  unfold labD
  rw [List.getD_eq_getElem?_getD, List.getElem?_eq_getElem h]
  rfl
theorem cmpL_step (a b : List Lab) (k : Nat) (ha : k < a.length) (hb : k < b.length) : cmpL (a.drop k) (b.drop k) = if cmpOne (labD a k) (labD b k) = 0 then cmpL (a.drop (k + 1)) (b.drop (k + 1)) else cmpOne (labD a k) (labD b k) := by
  rw [labD_drop a k ha, labD_drop b k hb]; rfl
theorem cmpL_over (a b : List Lab) (k : Nat) (ha : k < a.length) (hb : b.length ≤ k) : cmpL (a.drop k) (b.drop k) = 1 := by
  rw [labD_drop a k ha, List.drop_of_length_le hb]; rfl
theorem cmpL_under (a b : List Lab) (k : Nat) (ha : a.length ≤ k) (hb : k < b.length) : cmpL (a.drop k) (b.drop k) = -1 := by
  rw [labD_drop b k hb, List.drop_of_length_le ha]; rfl
theorem cmpL_both (a b : List Lab) (k : Nat) (ha : a.length ≤ k) (hb : b.length ≤ k) : cmpL (a.drop k) (b.drop k) = 0 := by
  rw [List.drop_of_length_le ha, List.drop_of_length_le hb]; rfl

/-- Two lists from a place on, part by part. -/
def eqFrom (a b : List Lab) (k : Nat) : Prop := a.drop k = b.drop k
theorem eqFrom_step (a b : List Lab) (k : Nat) (ha : k < a.length) (hb : k < b.length) : a.drop k = b.drop k ↔ labD a k = labD b k ∧ a.drop (k + 1) = b.drop (k + 1) := by
  rw [labD_drop a k ha, labD_drop b k hb]; simp
end Go.Proofs.Ytdgkjiiegmnjfaa
