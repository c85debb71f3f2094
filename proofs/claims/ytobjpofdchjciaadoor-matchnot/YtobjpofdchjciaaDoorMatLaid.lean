/- The table of the signs, as the row lists it, is what the walks read. -/
import Derived.Test.YtobjpofdchjciaaDoorRows
import Derived.Test.YtobjpofdchjciaaDoorMatC
import Derived.ProofKit
import Derived.OpenShut
import Derived.ChangeArms
import Derived.Deep.Strs
import Derived.Lib.LaidTab
namespace Go.Proofs.YtobjpofdchjciaaDoor
open Go.ChangeShapes Go.WideShapes Go.ChangeAt Go.RowKit Go.Deep
set_option linter.unusedVariables false
theorem cellsStr : Tryd.prog.cellsOf 9 = 1 := by kernel_rfl
theorem gSgn : Tryd.prog.globalNamed "dryrot/match.signs" = some 0 := by kernel_rfl
theorem gSgnType : (Tryd.prog.globals[0]?).map (·.type) = some 84 := by kernel_rfl
theorem signsTab_of_laid {W : World} (h : laidMet Tryd.prog [("dryrot/match.signs", Rows.laid_dryrot_match_signs)] W) : SignTab W := by
  obtain ⟨ps, ⟨g', t', cs, fuel, p, q, hg', ht', hvar, hd, _, _⟩, _⟩ := h
  obtain rfl := Option.some.inj (gSgn.symm.trans hg')
  obtain rfl := Option.some.inj (gSgnType.symm.trans ht')
  obtain ⟨xs, m, _, hx, hl, hxl, hel⟩ := DataW.trod_array Tryd.underlying84 hd
  rw [cellsStr] at hel
  have hxs := congrArg Prod.fst hx
  simp only [Rows.laid_dryrot_match_signs, DataW.agg.injEq] at hxs
  have hcell : ∀ o, W.cell? ⟨0, o, none⟩ = cs[o]? := by
    intro o
    unfold World.var? at hvar
    rw [gSgn] at hvar
    simp only [Option.bind_some] at hvar
    split at hvar
    · rename_i c e f hh
      unfold World.cell?
      simp at hvar
      simp only [hh]
      rw [← hvar]
      simp
    · cases hvar
  have key : ∀ i (hi : i < 5) (s : ByteArray), (xs.map (·.1))[i]? = some (.lit (.string s.data.toList)) → W.cell? ⟨0, i, none⟩ = some (.string s) := by
    intro i hi s hy
    obtain ⟨y, hy1⟩ : ∃ y, xs[i]? = some y := ⟨xs[i]'(by omega), by simp [hxl, hi]⟩
    rw [List.getElem?_map, hy1] at hy
    have h1 := hel i hi
    rw [hy1] at h1
    obtain ⟨s', e1, rfl, _⟩ := DataW.trod_string Tryd.underlying9 h1
    simp at hy
    have : s' = s := by cases s'; cases s; simpa using hy
    subst this
    rw [hcell]
    have e0 := congrArg (·[0]?) e1
    simp [List.getElem?_drop] at e0
    exact e0
  rw [← hxs] at key
  intro k h1 h4
  have hk : k = 1 ∨ k = 2 ∨ k = 3 ∨ k = 4 := by omega
  rcases hk with rfl | rfl | rfl | rfl
  · exact key 1 (by omega) ⟨#[61]⟩ rfl
  · exact key 2 (by omega) ⟨#[33, 61]⟩ rfl
  · exact key 3 (by omega) ⟨#[61, 126]⟩ rfl
  · exact key 4 (by omega) ⟨#[33, 126]⟩ rfl
end Go.Proofs.YtobjpofdchjciaaDoor
