/- A slice of gaps that came in: what its reading gives. -/
import Derived.Test.YtccjgciknaooaaaGpA
import Derived.ProofKit
import Derived.OpenShut
import Derived.SizedLaws
import Derived.Deep.SlicePairs
import Derived.ChangeArms
namespace Go.Proofs.Ytccjgciknaooaaa
open Go.ChangeShapes Go.WideShapes Go.ChangeAt Go.RowKit
set_option linter.unusedVariables false

/-- Both times are numbers. -/
def GpOK (g : Gp) : Prop := -9223372036854775808 ≤ g.f ∧ g.f ≤ 9223372036854775807 ∧ -9223372036854775808 ≤ g.t ∧ g.t ≤ 9223372036854775807

theorem opens_gaps {H : Type} {enc : TypeId × Value → H} {W : World} {fuel : Nat} {d : DataW H} {p : List MemPlace} {a : Option Addr} {len cap : Nat}
    (hf : DataW.trod enc Try.prog W 0 (fun _ => true) true fuel 23 [.slice a len cap] = some (d, p)) :
    ∃ l : List Gp, Gps W a len l ∧ (∀ i, GpOK (gpD l i)) ∧ len ≤ cap ∧ cap ≤ maxLen ∧ (a = none → cap = 0) := by
  have hzero : GpOK ⟨0, 0⟩ := ⟨by decide, by decide, by decide, by decide⟩
  rcases Deep.open_slice_pairs Try.underlying23 Try.underlying62 (by kernel_rfl) rfl rfl (by kernel_rfl) (by kernel_rfl) hf with ⟨hcs, hx⟩ | ⟨x, l, c, m, n, V0, V1, D0, D1, P0, P1, hcs, _, hl, hm, hmm, hx, hcell⟩
  · simp at hcs
    obtain ⟨rfl, rfl, rfl⟩ := hcs
    exact ⟨[], ⟨rfl, Nat.zero_le _, fun _ => rfl, by simp⟩, fun _ => hzero, Nat.le_refl _, Nat.zero_le _, fun _ => rfl⟩
  · simp at hcs
    obtain ⟨rfl, rfl, rfl⟩ := hcs
    have hm' : m = cap := by simpa using hmm
    subst hm'
    have hs : ∀ i, ∃ s : Gp, i < m → W.cell? (x.add (i * 2)) = some (.int .i64 s.f) ∧ W.cell? (x.add (i * 2 + 1)) = some (.int .i64 s.t) ∧ GpOK s := by
      intro i
      by_cases hi : i < m
      · obtain ⟨h0, h1, h2, h3⟩ := hcell i hi
        obtain ⟨n0, e0, _, w0⟩ := DataW.trod_int Try.underlying3 h2
        obtain ⟨n1, e1, _, w1⟩ := DataW.trod_int Try.underlying3 h3
        simp only [List.cons.injEq, and_true] at e0 e1
        rw [e0] at h0
        rw [e1] at h1
        have b0 := bounds_i64 w0
        have b1 := bounds_i64 w1
        exact ⟨⟨n0, n1⟩, fun _ => ⟨h0, h1, b0.1, b0.2, b1.1, b1.2⟩⟩
      · exact ⟨⟨0, 0⟩, fun h => absurd h hi⟩
    have hs' := fun i => (hs i).choose_spec
    have hD : ∀ i, i < len → gpD ((List.range len).map fun i => (hs i).choose) i = (hs i).choose := by
      intro i hi
      unfold gpD
      rw [List.getD_eq_getElem?_getD]
      simp [hi]
    refine ⟨(List.range len).map fun i => (hs i).choose, ⟨by simp, by omega, (fun h => by cases h), ?_⟩, ?_, by omega, by omega, fun h => by cases h⟩
    · intro y hy j hj
      cases hy
      rw [hD j hj]
      have := hs' j (by omega)
      exact ⟨this.1, this.2.1⟩
    · intro i
      by_cases hi : i < len
      · rw [hD i hi]
        exact (hs' i (by omega)).2.2
      · unfold gpD
        rw [List.getD_eq_getElem?_getD, List.getElem?_eq_none (by simp; omega)]
        exact hzero
end Go.Proofs.Ytccjgciknaooaaa
