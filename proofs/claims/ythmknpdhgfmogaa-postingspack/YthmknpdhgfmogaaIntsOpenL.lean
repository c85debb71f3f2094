/- A list of numbers that came in: what its reading gives. -/
import Derived.Test.YthmknpdhgfmogaaRows
import Derived.Test.YthmknpdhgfmogaaInts
import Derived.ProofKit
import Derived.OpenShut
import Derived.Deep.SlicePairs
import Derived.ChangeArms
namespace Go.Proofs.Ythmknpdhgfmogaa
open Go.ChangeShapes Go.WideShapes Go.ChangeAt Go.RowKit
set_option linter.unusedVariables false
theorem opens_intsL {H : Type} {enc : TypeId × Value → H} {W : World} {fuel : Nat} {d : DataW H} {p : List MemPlace} {a : Option Addr} {len cap : Nat}
    (hf : DataW.trod enc Try.prog W 0 (fun _ => true) true fuel 22 [.slice a len cap] = some (d, p)) :
    ∃ l : List Int, Ils W a len l ∧ len ≤ cap := by
  rcases Deep.open_slice1 Try.underlying22 (by kernel_rfl) hf with ⟨hcs, hx⟩ | ⟨x, l, c, m, n, V, D, Pl, hcs, _, hl, hm, hmm, hx, hcell⟩
  · simp at hcs
    obtain ⟨rfl, rfl, rfl⟩ := hcs
    exact ⟨[], ⟨rfl, by decide, fun _ => rfl, (fun x hx => by cases hx)⟩, Nat.le_refl _⟩
  · simp at hcs
    obtain ⟨rfl, rfl, rfl⟩ := hcs
    have hm' : m = cap := by simpa using hmm
    subst hm'
    have hS : ∀ i, i < len → ∃ b : Int, W.cell? (x.add i) = some (.int .i64 b) := by
      intro i hi
      obtain ⟨h1, h2⟩ := hcell i (by omega)
      obtain ⟨b, e1, _⟩ := DataW.trod_int Try.underlying3 h2
      simp only [List.cons.injEq, and_true] at e1
      exact ⟨b, by rw [h1, e1]⟩
    obtain ⟨f, hfS⟩ := Deep.choose_lt (α := Int) hS
    refine ⟨(List.range len).map f, ⟨by simp, by omega, (fun h => by cases h), ?_⟩, hl⟩
    intro y hy j b hb
    cases hy
    rw [List.getElem?_map] at hb
    have hj : j < len := by
      by_cases hj : j < len
      · exact hj
      · rw [List.getElem?_eq_none (by simp; omega)] at hb; cases hb
    rw [List.getElem?_range hj] at hb
    simp only [Option.map_some, Option.some.injEq] at hb
    rw [← hb]
    exact hfS j hj
end Go.Proofs.Ythmknpdhgfmogaa
