/- A slice of labels that came in: what its reading gives. -/
import Derived.Test.YtcjhkpcnhnnjbaaDoorMc
import Derived.ProofKit
import Derived.OpenShut
import Derived.SizedLaws
import Derived.Deep.SlicePairs
import Derived.ChangeArms
import Derived.Test.YtcjhkpcnhnnjbaaDoorCodSam
import Derived.Test.YtcjhkpcnhnnjbaaDoorRows
import Derived.Test.YtcjhkpcnhnnjbaaDoorChA
namespace Go.Proofs.YtcjhkpcnhnnjbaaDoor
open Go.ChangeShapes Go.WideShapes Go.ChangeAt Go.RowKit
set_option linter.unusedVariables false

theorem labBytes : Tryd.prog.bytesOf 72 = 32 := by kernel_rfl
def strOf : Value → ByteArray
  | .string s => s
  | _ => ByteArray.empty
theorem opens_labs {H : Type} {enc : TypeId × Value → H} {W : World} {fuel : Nat} {d : DataW H} {p : List MemPlace} {a : Option Addr} {len cap : Nat}
    (hf : DataW.trod enc Tryd.prog W 0 (fun _ => true) true fuel 39 [.slice a len cap] = some (d, p)) :
    ∃ ls : List Lab, Ls W a len ls ∧ ((d = .nil ∧ len = 0) ∨ ∃ elems spare, d = .slice elems spare ∧ elems.length = len) := by
  rcases Deep.open_slice_pairs Tryd.underlying39 Tryd.underlying72 (by kernel_rfl) rfl rfl (by kernel_rfl) (by kernel_rfl) hf with ⟨hcs, hx⟩ | ⟨x, l, c, m, n, V0, V1, D0, D1, P0, P1, hcs, _, hl, hm, hmm, hx, hcell⟩
  · simp at hcs
    obtain ⟨rfl, rfl, rfl⟩ := hcs
    simp only [Prod.mk.injEq] at hx
    exact ⟨[], Ls.nil W, .inl ⟨hx.1, rfl⟩⟩
  · simp at hcs
    obtain ⟨rfl, rfl, rfl⟩ := hcs
    have hm' : m = cap := by simpa using hmm
    subst hm'
    simp only [Prod.mk.injEq] at hx
    have hs : ∀ i, i < m → W.cell? (x.add (i * 2)) = some (.string (strOf (V0 i))) ∧ W.cell? (x.add (i * 2 + 1)) = some (.string (strOf (V1 i))) ∧ (strOf (V0 i)).size ≤ maxLen ∧ (strOf (V1 i)).size ≤ maxLen := by
      intro i hi
      obtain ⟨h0, h1, h2, h3⟩ := hcell i hi
      obtain ⟨s0, e0, _, z0⟩ := DataW.trod_string Tryd.underlying9 h2
      obtain ⟨s1, e1, _, z1⟩ := DataW.trod_string Tryd.underlying9 h3
      simp only [List.cons.injEq, and_true] at e0 e1
      rw [e0] at h0 ⊢
      rw [e1] at h1 ⊢
      exact ⟨h0, h1, z0, z1⟩
    have hD : ∀ i, i < len → labD ((List.range len).map fun i => (strOf (V0 i), strOf (V1 i))) i = (strOf (V0 i), strOf (V1 i)) := by
      intro i hi
      unfold labD
      rw [List.getD_eq_getElem?_getD]
      simp [hi]
    refine ⟨(List.range len).map fun i => (strOf (V0 i), strOf (V1 i)), ⟨by simp, by omega, ?_, (fun h => by cases h), ?_⟩, .inr ⟨_, _, hx.1, by simp⟩⟩
    · intro i
      by_cases hi : i < len
      · rw [hD i hi]
        have := hs i (by omega)
        exact ⟨this.2.2.1, this.2.2.2⟩
      · unfold labD
        rw [List.getD_eq_getElem?_getD, List.getElem?_eq_none (by simp; omega)]
        exact ⟨by show ByteArray.empty.size ≤ _; decide, by show ByteArray.empty.size ≤ _; decide⟩
    · intro y hy j hj
      cases hy
      rw [hD j hj]
      have := hs j (by omega)
      exact ⟨this.1, this.2.1⟩
theorem weightsAll_mem {H : Type} {P : Program} {e : TypeId} {d : DataW H} {n : Nat} : ∀ {l : List (DataW H)}, d ∈ l → n ∈ d.weights P e → n ∈ DataW.weightsAll P e l
  | x :: r, hd, hn => by
    simp only [DataW.weightsAll, List.mem_append]
    rcases List.mem_cons.1 hd with rfl | h
    · exact .inl hn
    · exact .inr (weightsAll_mem h hn)
theorem opens_labs2 {H : Type} {enc : TypeId × Value → H} {W : World} {fuel : Nat} {d : DataW H} {p : List MemPlace} {a : Option Addr} {len cap : Nat}
    (hf : DataW.trod enc Tryd.prog W 0 (fun _ => true) true fuel 39 [.slice a len cap] = some (d, p)) :
    ∃ ls : List Lab, Ls W a len ls ∧ ((d = .nil ∧ len = 0) ∨ ∃ elems spare, d = .slice elems spare ∧ elems.length = len) ∧ ∀ x ∈ ls, x.2.size ∈ d.weights Tryd.prog 39 := by
  rcases Deep.open_slice_pairs Tryd.underlying39 Tryd.underlying72 (by kernel_rfl) rfl rfl (by kernel_rfl) (by kernel_rfl) hf with ⟨hcs, hx⟩ | ⟨x, l, c, m, n, V0, V1, D0, D1, P0, P1, hcs, _, hl, hm, hmm, hx, hcell⟩
  · simp at hcs
    obtain ⟨rfl, rfl, rfl⟩ := hcs
    simp only [Prod.mk.injEq] at hx
    exact ⟨[], Ls.nil W, .inl ⟨hx.1, rfl⟩, fun x h => by cases h⟩
  · simp at hcs
    obtain ⟨rfl, rfl, rfl⟩ := hcs
    have hm' : m = cap := by simpa using hmm
    subst hm'
    simp only [Prod.mk.injEq] at hx
    have hs : ∀ i, i < m → W.cell? (x.add (i * 2)) = some (.string (strOf (V0 i))) ∧ W.cell? (x.add (i * 2 + 1)) = some (.string (strOf (V1 i))) ∧ (strOf (V0 i)).size ≤ maxLen ∧ (strOf (V1 i)).size ≤ maxLen := by
      intro i hi
      obtain ⟨h0, h1, h2, h3⟩ := hcell i hi
      obtain ⟨s0, e0, _, z0⟩ := DataW.trod_string Tryd.underlying9 h2
      obtain ⟨s1, e1, _, z1⟩ := DataW.trod_string Tryd.underlying9 h3
      simp only [List.cons.injEq, and_true] at e0 e1
      rw [e0] at h0 ⊢
      rw [e1] at h1 ⊢
      exact ⟨h0, h1, z0, z1⟩
    have hD : ∀ i, i < len → labD ((List.range len).map fun i => (strOf (V0 i), strOf (V1 i))) i = (strOf (V0 i), strOf (V1 i)) := by
      intro i hi
      unfold labD
      rw [List.getD_eq_getElem?_getD]
      simp [hi]
    refine ⟨(List.range len).map fun i => (strOf (V0 i), strOf (V1 i)), ⟨by simp, by omega, ?_, (fun h => by cases h), ?_⟩, .inr ⟨_, _, hx.1, by simp⟩, ?_⟩
    · intro i
      by_cases hi : i < len
      · rw [hD i hi]
        have := hs i (by omega)
        exact ⟨this.2.2.1, this.2.2.2⟩
      · unfold labD
        rw [List.getD_eq_getElem?_getD, List.getElem?_eq_none (by simp; omega)]
        exact ⟨by show ByteArray.empty.size ≤ _; decide, by show ByteArray.empty.size ≤ _; decide⟩
    · intro y hy j hj
      cases hy
      rw [hD j hj]
      have := hs j (by omega)
      exact ⟨this.1, this.2.1⟩
    · intro y hy
      obtain ⟨i, hi, rfl⟩ := List.mem_map.1 hy
      have hi := List.mem_range.1 hi
      obtain ⟨_, _, _, h3⟩ := hcell i (by omega)
      obtain ⟨s1, e1, e2, _⟩ := DataW.trod_string Tryd.underlying9 h3
      simp only [List.cons.injEq, and_true] at e1
      have e3 : D1 i = .lit (.string s1.data.toList) := congrArg Prod.fst e2
      have hsz : (strOf (V1 i)).size = s1.data.toList.length := by rw [e1]; show s1.size = _; rw [Array.length_toList]; rfl
      rw [hx.1]
      show (strOf (V1 i)).size ∈ _
      rw [hsz]
      have hmem : (DataW.agg [D0 i, D1 i] : DataW H) ∈ (List.range len).map fun i => DataW.agg [D0 i, D1 i] := List.mem_map.2 ⟨i, List.mem_range.2 hi, rfl⟩
      have hw : s1.data.toList.length ∈ (DataW.agg [D0 i, D1 i] : DataW H).weights Tryd.prog 72 := by
        rw [e3]
        simp only [DataW.weights, Tryd.underlying72, List.map_cons, List.map_nil, DataW.weightsEach, List.mem_append]
        exact .inr (.inl (by simp))
      simp only [DataW.weights, Tryd.underlying39]
      exact List.mem_cons_of_mem _ (List.mem_append.2 (.inl (weightsAll_mem hmem hw)))
theorem opens_labs_cap {H : Type} {enc : TypeId × Value → H} {W : World} {fuel : Nat} {d : DataW H} {p : List MemPlace} {a : Option Addr} {len cap : Nat}
    (hf : DataW.trod enc Tryd.prog W 0 (fun _ => true) true fuel 39 [.slice a len cap] = some (d, p)) : len ≤ cap := by
  rcases Deep.open_slice_pairs Tryd.underlying39 Tryd.underlying72 (by kernel_rfl) rfl rfl (by kernel_rfl) (by kernel_rfl) hf with ⟨hcs, hx⟩ | ⟨x, l, c, m, n, V0, V1, D0, D1, P0, P1, hcs, _, hl, hm, hmm, hx, hcell⟩
  · simp at hcs
    omega
  · simp at hcs
    obtain ⟨rfl, rfl, rfl⟩ := hcs
    exact hl
end Go.Proofs.YtcjhkpcnhnnjbaaDoor

namespace Go.Proofs.YtcjhkpcnhnnjbaaDoor.Cd
open Go.ChangeShapes Go.WideShapes Go.ChangeAt Go.RowKit
set_option linter.unusedVariables false

theorem opens_sams {H : Type} {enc : TypeId × Value → H} {W : World} {fuel : Nat} {d : DataW H} {p : List MemPlace} {a : Option Addr} {len cap : Nat}
    (hf : DataW.trod enc Tryd.prog W 0 (fun _ => true) true fuel 42 [.slice a len cap] = some (d, p)) :
    ∃ l : List Sam, Sm W a len l ∧ len ≤ cap ∧ cap ≤ maxLen ∧ (a = none → cap = 0) := by
  rcases Deep.open_slice_pairs Tryd.underlying42 Tryd.underlying49 (by kernel_rfl) rfl rfl (by kernel_rfl) (by kernel_rfl) hf with ⟨hcs, hx⟩ | ⟨x, l, c, m, n, V0, V1, D0, D1, P0, P1, hcs, _, hl, hm, hmm, hx, hcell⟩
  · simp at hcs
    obtain ⟨rfl, rfl, rfl⟩ := hcs
    exact ⟨[], Sm.nil W, Nat.le_refl _, Nat.zero_le _, fun _ => rfl⟩
  · simp at hcs
    obtain ⟨rfl, rfl, rfl⟩ := hcs
    have hm' : m = cap := by simpa using hmm
    subst hm'
    have hs : ∀ i, ∃ s : Sam, i < m → W.cell? (x.add (i * 2)) = some (.int .i64 s.t) ∧ W.cell? (x.add (i * 2 + 1)) = some (.int .u64 (s.v : Int)) ∧ SamOK s := by
      intro i
      by_cases hi : i < m
      · obtain ⟨h0, h1, h2, h3⟩ := hcell i hi
        obtain ⟨n0, e0, _, w0⟩ := DataW.trod_int Tryd.underlying3 h2
        obtain ⟨n1, e1, _, w1⟩ := DataW.trod_int Tryd.underlying47 h3
        simp only [List.cons.injEq, and_true] at e0 e1
        rw [e0] at h0
        rw [e1] at h1
        have b0 := bounds_i64 w0
        have b1 := bounds_u64 w1
        obtain ⟨k, rfl⟩ := Int.eq_ofNat_of_zero_le b1.1
        exact ⟨⟨n0, k⟩, fun _ => ⟨h0, h1, b0.1, b0.2, by simp only; omega⟩⟩
      · exact ⟨⟨0, 0⟩, fun h => absurd h hi⟩
    have hs' := fun i => (hs i).choose_spec
    have hD : ∀ i, i < len → samD ((List.range len).map fun i => (hs i).choose) i = (hs i).choose := by
      intro i hi
      unfold samD
      rw [List.getD_eq_getElem?_getD]
      simp [hi]
    refine ⟨(List.range len).map fun i => (hs i).choose, ⟨by simp, by omega, ?_, (fun h => by cases h), ?_⟩, by omega, by omega, fun h => by cases h⟩
    · intro i
      by_cases hi : i < len
      · rw [hD i hi]
        exact (hs' i (by omega)).2.2
      · unfold samD
        rw [List.getD_eq_getElem?_getD, List.getElem?_eq_none (by simp; omega)]
        exact samOK_zero
    · intro y hy j hj
      cases hy
      rw [hD j hj]
      have := hs' j (by omega)
      exact ⟨this.1, this.2.1⟩
end Go.Proofs.YtcjhkpcnhnnjbaaDoor.Cd

namespace Go.Proofs.YtcjhkpcnhnnjbaaDoor
open Go.ChangeShapes Go.WideShapes Go.ChangeAt Go.RowKit
set_option linter.unusedVariables false
theorem labs_weight {H : Type} {enc : TypeId × Value → H} {W : World} {fuel : Nat} {d : DataW H} {p : List MemPlace} {a : Option Addr} {len cap : Nat}
    (hf : DataW.trod enc Tryd.prog W 0 (fun _ => true) true fuel 39 [.slice a len cap] = some (d, p)) :
    ∃ ls : List Lab, Ls W a len ls ∧ (len = 0 ∨ ∃ n ∈ d.weights Tryd.prog 39, len * 32 ≤ n) := by
  obtain ⟨ls, h1, h2⟩ := opens_labs hf
  refine ⟨ls, h1, ?_⟩
  rcases h2 with ⟨_, h⟩ | ⟨elems, spare, rfl, h⟩
  · exact .inl h
  · refine .inr ⟨(elems.length + spare.length) * Tryd.prog.bytesOf 72, ?_, ?_⟩
    · simp [DataW.weights, Tryd.underlying39]
    · rw [labBytes, h]
      exact Nat.mul_le_mul_right _ (by omega)
theorem cells_ser {H : Type} {enc : TypeId × Value → H} {W : World} {fuel : Nat} {d : DataW H} {p : List MemPlace} {y0 y1 : Value}
    (hf : DataW.trod enc Tryd.prog W 0 (fun _ => true) true fuel 55 [y0, y1] = some (d, p)) :
    ∃ (a0 : Option Addr) (l0 c0 : Nat) (f0 : Nat) (d0 : DataW H) (p0 : List MemPlace) (a1 : Option Addr) (l1 c1 : Nat) (f1 : Nat) (d1 : DataW H) (p1 : List MemPlace), (y0 = .slice a0 l0 c0 ∧ DataW.trod enc Tryd.prog W 0 (fun _ => true) true f0 39 [.slice a0 l0 c0] = some (d0, p0) ∧ ∀ n ∈ d0.weights Tryd.prog 39, n ∈ d.weights Tryd.prog 55) ∧ (y1 = .slice a1 l1 c1 ∧ DataW.trod enc Tryd.prog W 0 (fun _ => true) true f1 42 [.slice a1 l1 c1] = some (d1, p1) ∧ ∀ n ∈ d1.weights Tryd.prog 42, n ∈ d.weights Tryd.prog 55) := by
  obtain ⟨xs, k, hk, hxy, _, hxl, hff⟩ := DataW.trod_struct Tryd.underlying55 hf
  simp only [Prod.mk.injEq] at hxy
  have hxl2 : xs.length = 2 := by simpa using hxl
  have hW : ∀ (j : Nat) (t : TypeId) (x : DataW H × List MemPlace), ([39, 42] : List TypeId)[j]? = some t → xs[j]? = some x → ∀ n ∈ x.1.weights Tryd.prog t, n ∈ d.weights Tryd.prog 55 := by
    intro j t x ht hx n hn
    rw [hxy.1]
    simp only [DataW.weights, Tryd.underlying55]
    exact DataW.weights_mem_each (j := j) (t := t) (d := x.1) ht (by rw [List.getElem?_map, hx]; rfl) n hn
  have hx : ∀ j, j < 2 → ∃ x, xs[j]? = some x := fun j hj => ⟨xs[j]'(by omega), List.getElem?_eq_getElem (by omega)⟩
  have g0 : DataW.trod enc Tryd.prog W 0 (fun _ => true) true k 39 (([y0, y1].drop 0).take (Tryd.prog.cellsOf 39)) = xs[0]? := hff 0 _ rfl
  rw [show Tryd.prog.cellsOf 39 = 1 from by kernel_rfl] at g0
  have h0 : DataW.trod enc Tryd.prog W 0 (fun _ => true) true k 39 [y0] = xs[0]? := g0
  obtain ⟨⟨x0, q0⟩, e0⟩ := hx 0 (by omega)
  rw [e0] at h0
  obtain ⟨a0, l0, c0, hn0⟩ : ∃ a l c, y0 = .slice a l c := by
    rcases Deep.open_slice Tryd.underlying39 h0 with ⟨hcs, _⟩ | ⟨a, l, c, _, _, _, _, hcs, _⟩
    · simp only [List.cons.injEq, and_true] at hcs; exact ⟨_, _, _, hcs⟩
    · simp only [List.cons.injEq, and_true] at hcs; exact ⟨_, _, _, hcs⟩
  rw [hn0] at h0
  have g1 : DataW.trod enc Tryd.prog W 0 (fun _ => true) true k 42 (([y0, y1].drop 1).take (Tryd.prog.cellsOf 42)) = xs[1]? := hff 1 _ rfl
  rw [show Tryd.prog.cellsOf 42 = 1 from by kernel_rfl] at g1
  have h1 : DataW.trod enc Tryd.prog W 0 (fun _ => true) true k 42 [y1] = xs[1]? := g1
  obtain ⟨⟨x1, q1⟩, e1⟩ := hx 1 (by omega)
  rw [e1] at h1
  obtain ⟨a1, l1, c1, hn1⟩ : ∃ a l c, y1 = .slice a l c := by
    rcases Deep.open_slice Tryd.underlying42 h1 with ⟨hcs, _⟩ | ⟨a, l, c, _, _, _, _, hcs, _⟩
    · simp only [List.cons.injEq, and_true] at hcs; exact ⟨_, _, _, hcs⟩
    · simp only [List.cons.injEq, and_true] at hcs; exact ⟨_, _, _, hcs⟩
  rw [hn1] at h1
  exact ⟨a0, l0, c0, k, x0, q0, a1, l1, c1, k, x1, q1, ⟨hn0, h0, hW 0 _ _ rfl e0⟩, ⟨hn1, h1, hW 1 _ _ rfl e1⟩⟩
theorem opens_sersL {H : Type} {enc : TypeId × Value → H} {W : World} {fuel : Nat} {d : DataW H} {p : List MemPlace} {a : Option Addr} {len cap : Nat}
    (hf : DataW.trod enc Tryd.prog W 0 (fun _ => true) true fuel 22 [.slice a len cap] = some (d, p)) :
    ∃ l : List Ser, l.length = len ∧ len ≤ cap ∧ cap ≤ maxLen ∧ (a = none → len = 0 ∧ cap = 0) ∧ (∀ s ∈ l, (Ls W s.la s.ll s.ls ∧ Cd.Sm W s.sa s.sl s.sm ∧ s.sl ≤ s.sc ∧ s.sc ≤ maxLen) ∧ (s.ll = 0 ∨ ∃ n ∈ d.weights Tryd.prog 22, s.ll * 32 ≤ n)) ∧ (∀ x, a = some x → ∀ j s, l[j]? = some s → ∀ k v, (Ser.cells s)[k]? = some v → W.cell? (x.add (j * 2 + k)) = some v) ∧
      ((d = .nil ∧ len = 0) ∨ ∃ elems spare, d = .slice elems spare ∧ elems.length = len) ∧ (len = 0 ∨ ∃ n ∈ d.weights Tryd.prog 22, len * Tryd.prog.bytesOf 55 ≤ n) := by
  rcases Deep.open_slice Tryd.underlying22 hf with ⟨hcs, hx⟩ | ⟨x, l, c, m, n, D, Pl, hcs, _, hl, hm, hmm, hx, hcell⟩
  · simp at hcs
    obtain ⟨rfl, rfl, rfl⟩ := hcs
    simp only [Prod.mk.injEq] at hx
    exact ⟨[], rfl, Nat.le_refl _, by decide, fun _ => ⟨rfl, rfl⟩, (fun s hs => by cases hs), (fun x hx => by cases hx), .inl ⟨hx.1, rfl⟩, .inl rfl⟩
  · simp at hcs
    obtain ⟨rfl, rfl, rfl⟩ := hcs
    have hm' : m = cap := by simpa using hmm
    subst hm'
    simp only [Prod.mk.injEq] at hx
    rw [show Tryd.prog.cellsOf 55 = 2 from by kernel_rfl] at hcell
    have hwts : ∀ i, i < len → ∀ n ∈ (D i).weights Tryd.prog 55, n ∈ d.weights Tryd.prog 22 := by
      intro i hi n hn
      rw [hx.1]
      simp only [DataW.weights, Tryd.underlying22]
      exact List.mem_cons_of_mem _ (List.mem_append.2 (.inl (weightsAll_mem (List.mem_map.2 ⟨i, List.mem_range.2 hi, rfl⟩) hn)))
    have hS : ∀ i, i < len → ∃ s : Ser, (∀ k v, (Ser.cells s)[k]? = some v → W.cell? (x.add (i * 2 + k)) = some v) ∧ ((Ls W s.la s.ll s.ls ∧ Cd.Sm W s.sa s.sl s.sm ∧ s.sl ≤ s.sc ∧ s.sc ≤ maxLen) ∧ (s.ll = 0 ∨ ∃ n ∈ d.weights Tryd.prog 22, s.ll * 32 ≤ n)) := by
      intro i hi
      obtain ⟨cs', h1, h2⟩ := hcell i (by omega)
      obtain ⟨_, hlen, hc⟩ := World.cells?_some h1
      have hwt := hwts i hi
      match cs', hlen, h2, hc with
      | [y0, y1], _, h2, hc =>
        obtain ⟨s, hs, hP⟩ : ∃ s : Ser, Ser.cells s = [y0, y1] ∧ ((Ls W s.la s.ll s.ls ∧ Cd.Sm W s.sa s.sl s.sm ∧ s.sl ≤ s.sc ∧ s.sc ≤ maxLen) ∧ (s.ll = 0 ∨ ∃ n ∈ d.weights Tryd.prog 22, s.ll * 32 ≤ n)) := by
          obtain ⟨a0, l0, c0, f0, d0, p0, a1, l1, c1, f1, d1, p1, ⟨rfl, ht0, hw0⟩, ⟨rfl, ht1, hw1⟩⟩ := cells_ser h2
          obtain ⟨ls, hls, h7⟩ := labs_weight ht0
          obtain ⟨sm, hsm, h8, h9, _⟩ := Cd.opens_sams ht1
          refine ⟨⟨a0, l0, c0, ls, a1, l1, c1, sm⟩, rfl, ⟨hls, hsm, h8, h9⟩, ?_⟩
          rcases h7 with h | ⟨n, hn, h⟩
          · exact .inl h
          · exact .inr ⟨n, hwt n (hw0 n hn), h⟩
        refine ⟨s, fun k v hv => ?_, hP⟩
        rw [hs] at hv
        have hk : k < 2 := (List.getElem?_eq_some_iff.1 hv).1
        rw [← hv, ← hc k hk, Deep.add_add]
    have hinh : Inhabited Ser := ⟨⟨none, 0, 0, [], none, 0, 0, []⟩⟩
    obtain ⟨f, hfS⟩ := Deep.choose_lt (α := Ser) hS
    refine ⟨(List.range len).map f, by simp, hl, by omega, (fun h => by cases h), ?_, ?_, .inr ⟨_, _, hx.1, by simp⟩, .inr ⟨(len + (m - len)) * Tryd.prog.bytesOf 55, ?_, Nat.mul_le_mul_right _ (by omega)⟩⟩
    · intro s hs
      obtain ⟨i, hi, rfl⟩ := List.mem_map.1 hs
      exact (hfS i (List.mem_range.1 hi)).2
    · intro y hy j s hs k v hv
      cases hy
      rw [List.getElem?_map] at hs
      have hj : j < len := by
        by_cases hj : j < len
        · exact hj
        · rw [List.getElem?_eq_none (by simp; omega)] at hs; cases hs
      rw [List.getElem?_range hj] at hs
      simp only [Option.map_some, Option.some.injEq] at hs
      subst hs
      exact (hfS j hj).1 k v hv
    · rw [hx.1]
      simp [DataW.weights, Tryd.underlying22]
theorem opens_sers {H : Type} {enc : TypeId × Value → H} {W : World} {fuel : Nat} {d : DataW H} {p : List MemPlace} {a : Option Addr} {len cap : Nat}
    (hf : DataW.trod enc Tryd.prog W 0 (fun _ => true) true fuel 22 [.slice a len cap] = some (d, p)) (hs : ∀ n ∈ d.weights Tryd.prog 22, n ≤ reachBytes) :
    ∃ l : List Ser, Srs W a len l ∧ len ≤ cap := by
  obtain ⟨l, h1, h2, h3, h4, h5, h6, _, _⟩ := opens_sersL hf
  refine ⟨l, ⟨h1, by omega, fun e => (h4 e).1, fun x hx => ⟨(h5 x hx).1.1, ?_, (h5 x hx).1.2⟩, h6⟩, h2⟩
  rcases (h5 x hx).2 with h | ⟨n, hn, h⟩
  · omega
  · have := hs n hn
    simp only [reachBytes] at this
    omega
end Go.Proofs.YtcjhkpcnhnnjbaaDoor
