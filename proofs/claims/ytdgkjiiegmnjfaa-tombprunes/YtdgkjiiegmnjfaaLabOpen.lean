/- A slice of labels that came in: what its reading gives. -/
import Derived.Test.YtdgkjiiegmnjfaaLabList
import Derived.ProofKit
import Derived.OpenShut
import Derived.SizedLaws
import Derived.Deep.SlicePairs
import Derived.ChangeArms
namespace Go.Proofs.Ytdgkjiiegmnjfaa
open Go.ChangeShapes Go.WideShapes Go.ChangeAt Go.RowKit
set_option linter.unusedVariables false

theorem labBytes : Try.prog.bytesOf 65 = 32 := by kernel_rfl
def strOf : Value → ByteArray
  | .string s => s
  | _ => ByteArray.empty
theorem opens_labs {H : Type} {enc : TypeId × Value → H} {W : World} {fuel : Nat} {d : DataW H} {p : List MemPlace} {a : Option Addr} {len cap : Nat}
    (hf : DataW.trod enc Try.prog W 0 (fun _ => true) true fuel 28 [.slice a len cap] = some (d, p)) :
    ∃ ls : List Lab, Ls W a len ls ∧ ((d = .nil ∧ len = 0) ∨ ∃ elems spare, d = .slice elems spare ∧ elems.length = len) := by
  rcases Deep.open_slice_pairs Try.underlying28 Try.underlying65 (by kernel_rfl) rfl rfl (by kernel_rfl) (by kernel_rfl) hf with ⟨hcs, hx⟩ | ⟨x, l, c, m, n, V0, V1, D0, D1, P0, P1, hcs, _, hl, hm, hmm, hx, hcell⟩
  · simp at hcs
    obtain ⟨rfl, rfl, rfl⟩ := hcs
    simp only [Prod.mk.injEq] at hx
    exact ⟨[], Ls.nil W, .inl ⟨hx.1, rfl⟩⟩
  · simp at hcs
    obtain ⟨rfl, rfl, rfl⟩ := hcs
    have hm' : m = cap := by simpa using hmm
    subst hm'
    simp only [Prod.mk.injEq] at hx
    have hs : ∀ i, i < m → W.cell? (x.add (i * 2)) = some (.string (strOf (V0 i))) ∧ W.cell? (x.add (i * 2 + 1)) = some (.string (strOf (V1 i))) ∧ (strOf (V0 i)).size ≤ maxLen ∧ (strOf (V1 i)).size ≤ maxLen := by
      intro i hi
      obtain ⟨h0, h1, h2, h3⟩ := hcell i hi
      obtain ⟨s0, e0, _, z0⟩ := DataW.trod_string Try.underlying9 h2
      obtain ⟨s1, e1, _, z1⟩ := DataW.trod_string Try.underlying9 h3
      simp only [List.cons.injEq, and_true] at e0 e1
      rw [e0] at h0 ⊢
      rw [e1] at h1 ⊢
      exact ⟨h0, h1, z0, z1⟩
    have hD : ∀ i, i < len → labD ((List.range len).map fun i => (strOf (V0 i), strOf (V1 i))) i = (strOf (V0 i), strOf (V1 i)) := by
      intro i hi
      unfold labD
      rw [List.getD_eq_getElem?_getD]
      simp [hi]
    refine ⟨(List.range len).map fun i => (strOf (V0 i), strOf (V1 i)), ⟨by simp, by omega, ?_, (fun h => by cases h), ?_⟩, .inr ⟨_, _, hx.1, by simp⟩⟩
    · intro i
      by_cases hi : i < len
      · rw [hD i hi]
        have := hs i (by omega)
        exact ⟨this.2.2.1, this.2.2.2⟩
      · unfold labD
        rw [List.getD_eq_getElem?_getD, List.getElem?_eq_none (by simp; omega)]
        exact ⟨by show ByteArray.empty.size ≤ _; decide, by show ByteArray.empty.size ≤ _; decide⟩
    · intro y hy j hj
      cases hy
      rw [hD j hj]
      have := hs j (by omega)
      exact ⟨this.1, this.2.1⟩
theorem weightsAll_mem {H : Type} {P : Program} {e : TypeId} {d : DataW H} {n : Nat} : ∀ {l : List (DataW H)}, d ∈ l → n ∈ d.weights P e → n ∈ DataW.weightsAll P e l
  | x :: r, hd, hn => by
    simp only [DataW.weightsAll, List.mem_append]
    rcases List.mem_cons.1 hd with rfl | h
    · exact .inl hn
    · exact .inr (weightsAll_mem h hn)
theorem opens_labs2 {H : Type} {enc : TypeId × Value → H} {W : World} {fuel : Nat} {d : DataW H} {p : List MemPlace} {a : Option Addr} {len cap : Nat}
    (hf : DataW.trod enc Try.prog W 0 (fun _ => true) true fuel 28 [.slice a len cap] = some (d, p)) :
    ∃ ls : List Lab, Ls W a len ls ∧ ((d = .nil ∧ len = 0) ∨ ∃ elems spare, d = .slice elems spare ∧ elems.length = len) ∧ ∀ x ∈ ls, x.2.size ∈ d.weights Try.prog 28 := by
  rcases Deep.open_slice_pairs Try.underlying28 Try.underlying65 (by kernel_rfl) rfl rfl (by kernel_rfl) (by kernel_rfl) hf with ⟨hcs, hx⟩ | ⟨x, l, c, m, n, V0, V1, D0, D1, P0, P1, hcs, _, hl, hm, hmm, hx, hcell⟩
  · simp at hcs
    obtain ⟨rfl, rfl, rfl⟩ := hcs
    simp only [Prod.mk.injEq] at hx
    exact ⟨[], Ls.nil W, .inl ⟨hx.1, rfl⟩, fun x h => by cases h⟩
  · simp at hcs
    obtain ⟨rfl, rfl, rfl⟩ := hcs
    have hm' : m = cap := by simpa using hmm
    subst hm'
    simp only [Prod.mk.injEq] at hx
    have hs : ∀ i, i < m → W.cell? (x.add (i * 2)) = some (.string (strOf (V0 i))) ∧ W.cell? (x.add (i * 2 + 1)) = some (.string (strOf (V1 i))) ∧ (strOf (V0 i)).size ≤ maxLen ∧ (strOf (V1 i)).size ≤ maxLen := by
      intro i hi
      obtain ⟨h0, h1, h2, h3⟩ := hcell i hi
      obtain ⟨s0, e0, _, z0⟩ := DataW.trod_string Try.underlying9 h2
      obtain ⟨s1, e1, _, z1⟩ := DataW.trod_string Try.underlying9 h3
      simp only [List.cons.injEq, and_true] at e0 e1
      rw [e0] at h0 ⊢
      rw [e1] at h1 ⊢
      exact ⟨h0, h1, z0, z1⟩
    have hD : ∀ i, i < len → labD ((List.range len).map fun i => (strOf (V0 i), strOf (V1 i))) i = (strOf (V0 i), strOf (V1 i)) := by
      intro i hi
      unfold labD
      rw [List.getD_eq_getElem?_getD]
      simp [hi]
    refine ⟨(List.range len).map fun i => (strOf (V0 i), strOf (V1 i)), ⟨by simp, by omega, ?_, (fun h => by cases h), ?_⟩, .inr ⟨_, _, hx.1, by simp⟩, ?_⟩
    · intro i
      by_cases hi : i < len
      · rw [hD i hi]
        have := hs i (by omega)
        exact ⟨this.2.2.1, this.2.2.2⟩
      · unfold labD
        rw [List.getD_eq_getElem?_getD, List.getElem?_eq_none (by simp; omega)]
        exact ⟨by show ByteArray.empty.size ≤ _; decide, by show ByteArray.empty.size ≤ _; decide⟩
    · intro y hy j hj
      cases hy
      rw [hD j hj]
      have := hs j (by omega)
      exact ⟨this.1, this.2.1⟩
    · intro y hy
      obtain ⟨i, hi, rfl⟩ := List.mem_map.1 hy
      have hi := List.mem_range.1 hi
      obtain ⟨_, _, _, h3⟩ := hcell i (by omega)
      obtain ⟨s1, e1, e2, _⟩ := DataW.trod_string Try.underlying9 h3
      simp only [List.cons.injEq, and_true] at e1
      have e3 : D1 i = .lit (.string s1.data.toList) := congrArg Prod.fst e2
      have hsz : (strOf (V1 i)).size = s1.data.toList.length := by rw [e1]; show s1.size = _; rw [Array.length_toList]; rfl
      rw [hx.1]
      show (strOf (V1 i)).size ∈ _
      rw [hsz]
      have hmem : (DataW.agg [D0 i, D1 i] : DataW H) ∈ (List.range len).map fun i => DataW.agg [D0 i, D1 i] := List.mem_map.2 ⟨i, List.mem_range.2 hi, rfl⟩
      have hw : s1.data.toList.length ∈ (DataW.agg [D0 i, D1 i] : DataW H).weights Try.prog 65 := by
        rw [e3]
        simp only [DataW.weights, Try.underlying65, List.map_cons, List.map_nil, DataW.weightsEach, List.mem_append]
        exact .inr (.inl (by simp))
      simp only [DataW.weights, Try.underlying28]
      exact List.mem_cons_of_mem _ (List.mem_append.2 (.inl (weightsAll_mem hmem hw)))
theorem opens_labs_cap {H : Type} {enc : TypeId × Value → H} {W : World} {fuel : Nat} {d : DataW H} {p : List MemPlace} {a : Option Addr} {len cap : Nat}
    (hf : DataW.trod enc Try.prog W 0 (fun _ => true) true fuel 28 [.slice a len cap] = some (d, p)) : len ≤ cap := by
  rcases Deep.open_slice_pairs Try.underlying28 Try.underlying65 (by kernel_rfl) rfl rfl (by kernel_rfl) (by kernel_rfl) hf with ⟨hcs, hx⟩ | ⟨x, l, c, m, n, V0, V1, D0, D1, P0, P1, hcs, _, hl, hm, hmm, hx, hcell⟩
  · simp at hcs
    omega
  · simp at hcs
    obtain ⟨rfl, rfl, rfl⟩ := hcs
    exact hl
end Go.Proofs.Ytdgkjiiegmnjfaa
