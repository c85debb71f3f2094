/- Records that came in: what their reading gives. -/
import Derived.Test.YthhnpajaacfapaaDoorRows
import Derived.Test.YthhnpajaacfapaaDoorMb
import Derived.Test.YthhnpajaacfapaaDoorMq
import Derived.ProofKit
import Derived.OpenShut
import Derived.Deep.SlicePairs
import Derived.ChangeArms
namespace Go.Proofs.YthhnpajaacfapaaDoor
open Go.ChangeShapes Go.WideShapes Go.ChangeAt Go.RowKit
set_option linter.unusedVariables false
theorem cells_recv {H : Type} {enc : TypeId × Value → H} {W : World} {fuel : Nat} {d : DataW H} {p : List MemPlace} {y0 y1 y2 y3 : Value}
    (hf : DataW.trod enc Tryd.prog W 0 (fun _ => true) true fuel 31 [y0, y1, y2, y3] = some (d, p)) :
    ∃ (n0 : Int) (n1 : Int) (n2 : Int) (a3 : Option Addr) (l3 c3 : Nat) (f3 : Nat) (d3 : DataW H) (p3 : List MemPlace), (y0 = .int .i64 n0 ∧ (Lit.int .i64 n0).wf = true) ∧ (y1 = .int .i64 n1 ∧ (Lit.int .i64 n1).wf = true) ∧ (y2 = .int .i64 n2 ∧ (Lit.int .i64 n2).wf = true) ∧ (y3 = .slice a3 l3 c3 ∧ DataW.trod enc Tryd.prog W 0 (fun _ => true) true f3 29 [.slice a3 l3 c3] = some (d3, p3) ∧ ∀ n ∈ d3.weights Tryd.prog 29, n ∈ d.weights Tryd.prog 31) := by
  obtain ⟨xs, k, hk, hxy, _, hxl, hff⟩ := DataW.trod_struct Tryd.underlying31 hf
  simp only [Prod.mk.injEq] at hxy
  have hxl2 : xs.length = 4 := by simpa using hxl
  have hW : ∀ (j : Nat) (t : TypeId) (x : DataW H × List MemPlace), ([3, 3, 3, 29] : List TypeId)[j]? = some t → xs[j]? = some x → ∀ n ∈ x.1.weights Tryd.prog t, n ∈ d.weights Tryd.prog 31 := by
    intro j t x ht hx n hn
    rw [hxy.1]
    simp only [DataW.weights, Tryd.underlying31]
    exact DataW.weights_mem_each (j := j) (t := t) (d := x.1) ht (by rw [List.getElem?_map, hx]; rfl) n hn
  have hx : ∀ j, j < 4 → ∃ x, xs[j]? = some x := fun j hj => ⟨xs[j]'(by omega), List.getElem?_eq_getElem (by omega)⟩
  have g0 : DataW.trod enc Tryd.prog W 0 (fun _ => true) true k 3 (([y0, y1, y2, y3].drop 0).take (Tryd.prog.cellsOf 3)) = xs[0]? := hff 0 _ rfl
  rw [show Tryd.prog.cellsOf 3 = 1 from by kernel_rfl] at g0
  have h0 : DataW.trod enc Tryd.prog W 0 (fun _ => true) true k 3 [y0] = xs[0]? := g0
  obtain ⟨⟨x0, q0⟩, e0⟩ := hx 0 (by omega)
  rw [e0] at h0
  obtain ⟨n0, hn0, _, hw0⟩ := DataW.trod_int Tryd.underlying3 h0
  simp only [List.cons.injEq, and_true] at hn0
  have g1 : DataW.trod enc Tryd.prog W 0 (fun _ => true) true k 3 (([y0, y1, y2, y3].drop 1).take (Tryd.prog.cellsOf 3)) = xs[1]? := hff 1 _ rfl
  rw [show Tryd.prog.cellsOf 3 = 1 from by kernel_rfl] at g1
  have h1 : DataW.trod enc Tryd.prog W 0 (fun _ => true) true k 3 [y1] = xs[1]? := g1
  obtain ⟨⟨x1, q1⟩, e1⟩ := hx 1 (by omega)
  rw [e1] at h1
  obtain ⟨n1, hn1, _, hw1⟩ := DataW.trod_int Tryd.underlying3 h1
  simp only [List.cons.injEq, and_true] at hn1
  have g2 : DataW.trod enc Tryd.prog W 0 (fun _ => true) true k 3 (([y0, y1, y2, y3].drop 2).take (Tryd.prog.cellsOf 3)) = xs[2]? := hff 2 _ rfl
  rw [show Tryd.prog.cellsOf 3 = 1 from by kernel_rfl] at g2
  have h2 : DataW.trod enc Tryd.prog W 0 (fun _ => true) true k 3 [y2] = xs[2]? := g2
  obtain ⟨⟨x2, q2⟩, e2⟩ := hx 2 (by omega)
  rw [e2] at h2
  obtain ⟨n2, hn2, _, hw2⟩ := DataW.trod_int Tryd.underlying3 h2
  simp only [List.cons.injEq, and_true] at hn2
  have g3 : DataW.trod enc Tryd.prog W 0 (fun _ => true) true k 29 (([y0, y1, y2, y3].drop 3).take (Tryd.prog.cellsOf 29)) = xs[3]? := hff 3 _ rfl
  rw [show Tryd.prog.cellsOf 29 = 1 from by kernel_rfl] at g3
  have h3 : DataW.trod enc Tryd.prog W 0 (fun _ => true) true k 29 [y3] = xs[3]? := g3
  obtain ⟨⟨x3, q3⟩, e3⟩ := hx 3 (by omega)
  rw [e3] at h3
  obtain ⟨a3, l3, c3, hn3⟩ : ∃ a l c, y3 = .slice a l c := by
    rcases Deep.open_slice Tryd.underlying29 h3 with ⟨hcs, _⟩ | ⟨a, l, c, _, _, _, _, hcs, _⟩
    · simp only [List.cons.injEq, and_true] at hcs; exact ⟨_, _, _, hcs⟩
    · simp only [List.cons.injEq, and_true] at hcs; exact ⟨_, _, _, hcs⟩
  rw [hn3] at h3
  exact ⟨n0, n1, n2, a3, l3, c3, k, x3, q3, ⟨hn0, hw0⟩, ⟨hn1, hw1⟩, ⟨hn2, hw2⟩, ⟨hn3, h3, hW 3 _ _ rfl e3⟩⟩
theorem opens_rec {H : Type} {enc : TypeId × Value → H} {W : World} {fuel : Nat} {d : DataW H} {p : List MemPlace} {y0 y1 y2 y3 : Value}
    (hf : DataW.trod enc Tryd.prog W 0 (fun _ => true) true fuel 31 [y0, y1, y2, y3] = some (d, p)) :
    ∃ a len cap zs, y3 = .slice a len cap ∧ Bs W a len zs ∧ len ≤ cap := by
  obtain ⟨n0, n1, n2, a3, l3, c3, f3, d3, p3, _, _, _, ⟨rfl, ht, _⟩⟩ := cells_recv hf
  obtain ⟨zs, hB, _⟩ := opens_bytes ht
  exact ⟨a3, l3, c3, zs, rfl, hB, (opens_room ht).1⟩
end Go.Proofs.YthhnpajaacfapaaDoor
