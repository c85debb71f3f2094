/- A list of anchors that came in: what its reading gives. -/
import Derived.Test.YtdppolelakbbiaaGreatDoorRows
import Derived.Test.YtdppolelakbbiaaGreatDoorAncOpen
import Derived.Test.YtdppolelakbbiaaGreatDoorAncsDef
import Derived.ProofKit
import Derived.OpenShut
import Derived.Deep.SlicePairs
import Derived.ChangeArms
namespace Go.Proofs.YtdppolelakbbiaaGreatDoor
open Go.ChangeShapes Go.WideShapes Go.ChangeAt Go.RowKit
set_option linter.unusedVariables false
theorem weightsAll_memA {H : Type} {P : Program} {e : TypeId} {d : DataW H} {n : Nat} : ∀ {l : List (DataW H)}, d ∈ l → n ∈ d.weights P e → n ∈ DataW.weightsAll P e l
 | x :: r, hd, hn => by
  simp only [DataW.weightsAll, List.mem_append]
  rcases List.mem_cons.1 hd with rfl | h
  ·
   exact .inl hn
  ·
   exact .inr (weightsAll_memA h hn)
theorem opens_ancsL {H : Type} {enc : TypeId × Value → H} {W : World} {fuel : Nat} {d : DataW H} {p : List MemPlace} {a : Option Addr} {len cap : Nat}
  (hf : DataW.trod enc Tryz.prog W 0 (fun _ => true) true fuel 56 [.slice a len cap] = some (d, p)) :
  ∃ l : List Anc, l.length = len ∧ len ≤ cap ∧ cap ≤ maxLen ∧ (a = none → len = 0 ∧ cap = 0) ∧ (∀ s ∈ l, -9223372036854775808 ≤ s.n0 ∧ s.n0 ≤ 9223372036854775807) ∧ (∀ x, a = some x → ∀ j s, l[j]? = some s → ∀ k v, ((fun (m : Anc) => m.cells) s)[k]? = some v → W.cell? (x.add (j * 10 + k)) = some v) ∧
   ((d = .nil ∧ len = 0) ∨ ∃ elems spare, d = .slice elems spare ∧ elems.length = len) ∧ (len = 0 ∨ ∃ n ∈ d.weights Tryz.prog 56, len * Tryz.prog.bytesOf 58 ≤ n) := by
 rcases Deep.open_slice Tryz.underlying56 hf with ⟨hcs, hx⟩ | ⟨x, l, c, m, n, D, Pl, hcs, _, hl, hm, hmm, hx, hcell⟩
 ·
  simp at hcs
  obtain ⟨rfl, rfl, rfl⟩ := hcs
  simp only [Prod.mk.injEq] at hx
  exact ⟨[], rfl, Nat.le_refl _, by decide, fun _ => ⟨rfl, rfl⟩, (fun s hs => by cases hs), (fun x hx => by cases hx), .inl ⟨hx.1, rfl⟩, .inl rfl⟩
 ·
  simp at hcs
  obtain ⟨rfl, rfl, rfl⟩ := hcs
  have hm' : m = cap := by simpa using hmm
  subst hm'
  simp only [Prod.mk.injEq] at hx
  rw [show Tryz.prog.cellsOf 58 = 10 from by kernel_rfl] at hcell
  have hwts : ∀ i, i < len → ∀ n ∈ (D i).weights Tryz.prog 58, n ∈ d.weights Tryz.prog 56 := by
   intro i hi n hn
   rw [hx.1]
   simp only [DataW.weights, Tryz.underlying56]
   exact List.mem_cons_of_mem _ (List.mem_append.2 (.inl (weightsAll_memA (List.mem_map.2 ⟨i, List.mem_range.2 hi, rfl⟩) hn)))
  have hS : ∀ i, i < len → ∃ s : Anc, (∀ k v, ((fun (m : Anc) => m.cells) s)[k]? = some v → W.cell? (x.add (i * 10 + k)) = some v) ∧ (-9223372036854775808 ≤ s.n0 ∧ s.n0 ≤ 9223372036854775807) := by
   intro i hi
   obtain ⟨cs', h1, h2⟩ := hcell i (by omega)
   obtain ⟨_, hlen, hc⟩ := World.cells?_some h1
   have hwt := hwts i hi
   match cs', hlen, h2, hc with
   | [y0, y1, y2, y3, y4, y5, y6, y7, y8, y9], _, h2, hc =>
    obtain ⟨s, hs, hP⟩ : ∃ s : Anc, (fun (m : Anc) => m.cells) s = [y0, y1, y2, y3, y4, y5, y6, y7, y8, y9] ∧ (-9223372036854775808 ≤ s.n0 ∧ s.n0 ≤ 9223372036854775807) := by
     obtain ⟨n0, n1, n2, n3, n4, n5, n6, n7, n8, n9, ⟨rfl, w0⟩, ⟨rfl, w1⟩, ⟨rfl, w2⟩, ⟨rfl, w3⟩, ⟨rfl, w4⟩, ⟨rfl, w5⟩, ⟨rfl, w6⟩, ⟨rfl, w7⟩, ⟨rfl, w8⟩, ⟨rfl, w9⟩⟩ := cells_ancv h2
     exact ⟨⟨n0, n1, n2, n3, n4, n5, n6, n7, n8, n9⟩, rfl, wf_range w0⟩
    refine ⟨s, fun k v hv => ?_, hP⟩
    rw [hs] at hv
    have hk : k < 10 := (lQ4.1 hv).1
    rw [← hv, ← hc k hk, Deep.add_add]
  have hinh : Inhabited Anc := ⟨⟨0, 0, 0, 0, 0, 0, 0, 0, 0, 0⟩⟩
  obtain ⟨f, hfS⟩ := Deep.choose_lt (α := Anc) hS
  refine ⟨(List.range len).map f, by simp, hl, by omega, (fun h => by cases h), ?_, ?_, .inr ⟨_, _, hx.1, by simp⟩, .inr ⟨(len + (m - len)) * Tryz.prog.bytesOf 58, ?_, Nat.mul_le_mul_right _ (by omega)⟩⟩
  ·
   intro s hs
   obtain ⟨i, hi, rfl⟩ := List.mem_map.1 hs
   exact (hfS i (List.mem_range.1 hi)).2
  ·
   intro y hy j s hs k v hv
   cases hy
   rw [List.getElem?_map] at hs
   have hj : j < len := by
    by_cases hj : j < len
    ·
     exact hj
    ·
     rw [List.getElem?_eq_none (by simp; omega)] at hs; cases hs
   rw [List.getElem?_range hj] at hs
   simp only [Option.map_some, Option.some.injEq] at hs
   subst hs
   exact (hfS j hj).1 k v hv
  ·
   rw [hx.1]
   simp [DataW.weights, Tryz.underlying56]
theorem opens_ancs {H : Type} {enc : TypeId × Value → H} {W : World} {fuel : Nat} {d : DataW H} {p : List MemPlace} {a : Option Addr} {len cap : Nat}
  (hf : DataW.trod enc Tryz.prog W 0 (fun _ => true) true fuel 56 [.slice a len cap] = some (d, p)) : ∃ l : List Anc, Als W a len l := by
 obtain ⟨l, h1, h2, h3, h4, h5, h6, _, _⟩ := opens_ancsL hf
 exact ⟨l, h1, by omega, fun e => (h4 e).1, h5, h6⟩
end Go.Proofs.YtdppolelakbbiaaGreatDoor
