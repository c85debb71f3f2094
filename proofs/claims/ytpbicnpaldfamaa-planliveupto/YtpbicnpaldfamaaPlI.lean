/- plan.Can. -/
import Derived.Test.YtpbicnpaldfamaaPlH
import Derived.Test.YtpbicnpaldfamaaPlShelf
import Derived.Lib.OwnBridge
import Derived.Lib.SlicesCompact
namespace Go.Proofs.Ytpbicnpaldfamaa
open Go.RowKit Go.Joins
set_option linter.unusedVariables false

theorem compact_nodup (xs : List Int) : ((Lib.compact (xs.mergeSort fun x y => decide (x ≤ y))).length = xs.length) ↔ nodupB xs = true := by
  rw [nodupB_iff]
  have hp := List.mergeSort_perm xs fun x y => decide (x ≤ y)
  have hs := List.pairwise_mergeSort (le := fun x y : Int => decide (x ≤ y)) (fun a b c h1 h2 => by simp at *; omega) (fun a b => by simp; omega) xs
  generalize xs.mergeSort (fun x y => decide (x ≤ y)) = s at *
  rw [← hp.length_eq, ← hp.nodup_iff]
  have hlen : (Lib.compact s).length = ((List.range s.length).filter (Lib.keeps s.toArray)).length := by simp [Lib.compact, Lib.compactUpTo]
  rw [hlen, show s.length = (List.range s.length).length from by simp, List.length_range, List.length_filter_eq_length_iff.trans Iff.rfl |> fun e => (show (((List.range s.length).filter (Lib.keeps s.toArray)).length = s.length ↔ ∀ a ∈ List.range s.length, Lib.keeps s.toArray a = true) from by
    have := e
    rw [List.length_range] at this
    exact this)]
  rw [List.Nodup, List.pairwise_iff_getElem]
  rw [List.pairwise_iff_getElem] at hs
  have gb : ∀ (j : Nat) (hj : j < s.length), s.toArray[j]! = s[j] := fun j hj => by simp [getElem!_pos, hj]
  constructor
  · intro h i j hi hj hij
    have h1 := h j (List.mem_range.2 hj)
    simp only [Lib.keeps, decide_eq_true_eq] at h1
    have h2 : s.toArray[j]! ≠ s.toArray[j - 1]! := by
      rcases h1 with h1 | h1
      · omega
      · exact h1
    rw [gb j hj, gb (j - 1) (by omega)] at h2
    have h3 := of_decide_eq_true (hs (j - 1) j (by omega) hj (by omega))
    by_cases hij2 : i = j - 1
    · subst hij2; omega
    · have h4 := of_decide_eq_true (hs i (j - 1) hi (by omega) (by omega))
      omega
  · intro h j hj
    rw [List.mem_range] at hj
    simp only [Lib.keeps, decide_eq_true_eq]
    by_cases h0 : j = 0
    · exact .inl h0
    · refine .inr ?_
      rw [gb j hj, gb (j - 1) (by omega)]
      exact fun e => h (j - 1) j (by omega) hj (by omega) e.symm

theorem below_grow {B : Nat} {w0 w : World} (h : Below B w0 w) (hB : B ≤ w.heap.size) (os : Array Obj) : Below B w0 (Sort.grow w os) :=
  ⟨h.os, h.tape, h.output, by have := h.size; simp only [Sort.grow, Array.size_append]; omega, fun k hk => by
    rw [← h.block k hk]
    simp only [Sort.grow]
    exact Array.getElem?_append_left (by omega)⟩

end Go.Proofs.Ytpbicnpaldfamaa
