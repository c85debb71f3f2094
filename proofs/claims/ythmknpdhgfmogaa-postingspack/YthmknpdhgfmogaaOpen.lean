/- A slice of bytes that came in: what its reading gives. -/
import Derived.Test.YthmknpdhgfmogaaBytes
import Derived.ProofKit
import Derived.OpenShut
import Derived.SizedLaws
namespace Go.Proofs.Ythmknpdhgfmogaa
open Go.ChangeShapes Go.WideShapes Go.ChangeAt Go.RowKit
set_option linter.unusedVariables false

theorem Try.bytes5 : Try.prog.bytesOf 5 = 1 := by kernel_rfl
theorem bs_of_ints {W : World} {x : Addr} {len : Nat} {zs : List Int} (hl : len ≤ zs.length) (hm : len ≤ maxLen)
    (hcell : ∀ i, i < zs.length → W.cell? (x.add i) = some (.int .u8 (zs.getD i 0))) (hwz : ∀ n ∈ zs, (Lit.int .u8 n).wf = true) :
    Bs W (some x) len ((zs.take len).map Int.toNat) := by
  refine ⟨by simp [hl], hm, ?_, (fun h => by simp at h), fun y hy j hj => ?_⟩
  · intro y hy
    simp only [List.mem_map] at hy
    obtain ⟨n, hn, rfl⟩ := hy
    have := bounds_u8 (hwz n (List.mem_of_mem_take hn))
    omega
  · cases hy
    have hjz : j < zs.length := by omega
    rw [hcell j hjz]
    have := bounds_u8 (hwz zs[j] (List.getElem_mem hjz))
    simp [hj, hjz]
    omega
theorem opens_bytes {H : Type} {enc : TypeId × Value → H} {W : World} {fuel : Nat} {d : DataW H} {p : List MemPlace} {a : Option Addr} {len cap : Nat}
    (hf : DataW.trod enc Try.prog W 0 (fun _ => true) true fuel 23 [.slice a len cap] = some (d, p)) :
    ∃ zs : List Nat, Bs W a len zs ∧ ((d = .nil ∧ len = 0) ∨ ∃ elems spare, d = .slice elems spare ∧ elems.length = len) := by
  rcases open_ints Try.underlying23 Try.underlying5 (by kernel_rfl) hf with ⟨hcs, hx⟩ | ⟨x, l, c, zs, hcs, _, hl, hm, hz, hx, hcell, hwz⟩
  · simp at hcs
    obtain ⟨rfl, rfl, rfl⟩ := hcs
    simp only [Prod.mk.injEq] at hx
    exact ⟨[], Bs.nil W, .inl ⟨hx.1, rfl⟩⟩
  · simp at hcs
    obtain ⟨rfl, rfl, rfl⟩ := hcs
    have hz' : zs.length = cap := by simpa using hz
    simp only [Prod.mk.injEq] at hx
    exact ⟨_, bs_of_ints (by omega) (by omega) hcell hwz, .inr ⟨_, _, hx.1, by simp [lits]; omega⟩⟩
end Go.Proofs.Ythmknpdhgfmogaa
