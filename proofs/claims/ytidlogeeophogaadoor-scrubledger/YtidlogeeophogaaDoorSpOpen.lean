/- A slice of spots that came in: what its reading gives. -/
import Derived.Test.YtidlogeeophogaaDoorSpA
import Derived.ProofKit
import Derived.OpenShut
import Derived.SizedLaws
import Derived.Deep.SlicePairs
import Derived.ChangeArms
namespace Go.Proofs.YtidlogeeophogaaDoor.Sp
open Go.ChangeShapes Go.WideShapes Go.ChangeAt Go.RowKit
set_option linter.unusedVariables false

theorem opens_spots {H : Type} {enc : TypeId × Value → H} {W : World} {fuel : Nat} {d : DataW H} {p : List MemPlace} {a : Option Addr} {len cap : Nat}
    (hf : DataW.trod enc Tryd.prog W 0 (fun _ => true) true fuel 22 [.slice a len cap] = some (d, p)) :
    ∃ l : List Spt, Fls W a len l ∧ len ≤ cap ∧ cap ≤ maxLen ∧ (a = none → cap = 0) := by
  rcases Deep.open_slice_pairs Tryd.underlying22 Tryd.underlying25 (by kernel_rfl) rfl rfl (by kernel_rfl) (by kernel_rfl) hf with ⟨hcs, hx⟩ | ⟨x, l, c, m, n, V0, V1, D0, D1, P0, P1, hcs, _, hl, hm, hmm, hx, hcell⟩
  · simp at hcs
    obtain ⟨rfl, rfl, rfl⟩ := hcs
    exact ⟨[], Fls.nil W, Nat.le_refl _, Nat.zero_le _, fun _ => rfl⟩
  · simp at hcs
    obtain ⟨rfl, rfl, rfl⟩ := hcs
    have hm' : m = cap := by simpa using hmm
    subst hm'
    have hs : ∀ i, ∃ s : Spt, i < m → W.cell? (x.add (i * 2)) = some (.string s.nm) ∧ W.cell? (x.add (i * 2 + 1)) = some (.int .i64 s.ix) := by
      intro i
      by_cases hi : i < m
      · obtain ⟨h0, h1, h2, h3⟩ := hcell i hi
        obtain ⟨s0, e0, _, z0⟩ := DataW.trod_string Tryd.underlying9 h2
        obtain ⟨n1, e1, _, w1⟩ := DataW.trod_int Tryd.underlying3 h3
        simp only [List.cons.injEq, and_true] at e0 e1
        rw [e0] at h0
        rw [e1] at h1
        exact ⟨⟨s0, n1⟩, fun _ => ⟨h0, h1⟩⟩
      · exact ⟨⟨⟨#[]⟩, 0⟩, fun h => absurd h hi⟩
    have hs' := fun i => (hs i).choose_spec
    refine ⟨(List.range len).map fun i => (hs i).choose, ⟨by simp, by omega, (fun h => by cases h), (fun _ _ => trivial), ?_⟩, by omega, by omega, fun h => by cases h⟩
    intro y hy j dd hd k v hv
    cases hy
    have hjl : j < len := by
      have := (List.getElem?_eq_some_iff.1 hd).1
      simpa using this
    have he : dd = (hs j).choose := by
      rw [List.getElem?_map, List.getElem?_range hjl] at hd
      simpa using hd.symm
    have h3 := hs' j (by omega)
    subst he
    match k, hv with
    | 0, hv => cases hv; exact h3.1
    | 1, hv => cases hv; exact h3.2
    | k + 2, hv => simp [Spt.cells] at hv
end Go.Proofs.YtidlogeeophogaaDoor.Sp
