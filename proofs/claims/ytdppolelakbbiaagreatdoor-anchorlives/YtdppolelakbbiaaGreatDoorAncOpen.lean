/- An anchor that came in: what its reading gives. -/
import Derived.Test.YtdppolelakbbiaaGreatDoorRows
import Derived.Test.YtdppolelakbbiaaGreatDoorMn
import Derived.ProofKit
import Derived.OpenShut
import Derived.Deep.SlicePairs
import Derived.ChangeArms
namespace Go.Proofs.YtdppolelakbbiaaGreatDoor
open Go.ChangeShapes Go.WideShapes Go.ChangeAt Go.RowKit
set_option linter.unusedVariables false
theorem cells_ancv {H : Type} {enc : TypeId × Value → H} {W : World} {fuel : Nat} {d : DataW H} {p : List MemPlace} {y0 y1 y2 y3 y4 y5 y6 y7 y8 y9 : Value}
  (hf : DataW.trod enc Tryz.prog W 0 (fun _ => true) true fuel 58 [y0, y1, y2, y3, y4, y5, y6, y7, y8, y9] = some (d, p)) :
  ∃ (n0 : Int) (n1 : Int) (n2 : Int) (n3 : Int) (n4 : Int) (n5 : Int) (n6 : Int) (n7 : Int) (n8 : Int) (n9 : Int), (y0 = .int .i64 n0 ∧ (Lit.int .i64 n0).wf = true) ∧ (y1 = .int .i64 n1 ∧ (Lit.int .i64 n1).wf = true) ∧ (y2 = .int .i64 n2 ∧ (Lit.int .i64 n2).wf = true) ∧ (y3 = .int .i64 n3 ∧ (Lit.int .i64 n3).wf = true) ∧ (y4 = .int .i64 n4 ∧ (Lit.int .i64 n4).wf = true) ∧ (y5 = .int .i64 n5 ∧ (Lit.int .i64 n5).wf = true) ∧ (y6 = .int .i64 n6 ∧ (Lit.int .i64 n6).wf = true) ∧ (y7 = .int .i64 n7 ∧ (Lit.int .i64 n7).wf = true) ∧ (y8 = .int .i64 n8 ∧ (Lit.int .i64 n8).wf = true) ∧ (y9 = .int .i64 n9 ∧ (Lit.int .i64 n9).wf = true) := by
 obtain ⟨xs, k, hk, hxy, _, hxl, hff⟩ := DataW.trod_struct Tryz.underlying58 hf
 simp only [Prod.mk.injEq] at hxy
 have hxl2 : xs.length = 10 := by simpa using hxl
 have hW : ∀ (j : Nat) (t : TypeId) (x : DataW H × List MemPlace), ([3, 3, 3, 3, 3, 3, 3, 3, 3, 3] : List TypeId)[j]? = some t → xs[j]? = some x → ∀ n ∈ x.1.weights Tryz.prog t, n ∈ d.weights Tryz.prog 58 := by
  intro j t x ht hx n hn
  rw [hxy.1]
  simp only [DataW.weights, Tryz.underlying58]
  exact DataW.weights_mem_each (j := j) (t := t) (d := x.1) ht (by rw [List.getElem?_map, hx]; rfl) n hn
 have hx : ∀ j, j < 10 → ∃ x, xs[j]? = some x := fun j hj => ⟨xs[j]'(by omega), lQ6 (by omega)⟩
 have g0 : DataW.trod enc Tryz.prog W 0 (fun _ => true) true k 3 (([y0, y1, y2, y3, y4, y5, y6, y7, y8, y9].drop 0).take (Tryz.prog.cellsOf 3)) = xs[0]? := hff 0 _ rfl
 rw [show Tryz.prog.cellsOf 3 = 1 from by kernel_rfl] at g0
 have h0 : DataW.trod enc Tryz.prog W 0 (fun _ => true) true k 3 [y0] = xs[0]? := g0
 obtain ⟨⟨x0, q0⟩, e0⟩ := hx 0 (by omega)
 rw [e0] at h0
 obtain ⟨n0, hn0, _, hw0⟩ := DataW.trod_int Tryz.underlying3 h0
 simp only [List.cons.injEq, and_true] at hn0
 have g1 : DataW.trod enc Tryz.prog W 0 (fun _ => true) true k 3 (([y0, y1, y2, y3, y4, y5, y6, y7, y8, y9].drop 1).take (Tryz.prog.cellsOf 3)) = xs[1]? := hff 1 _ rfl
 rw [show Tryz.prog.cellsOf 3 = 1 from by kernel_rfl] at g1
 have h1 : DataW.trod enc Tryz.prog W 0 (fun _ => true) true k 3 [y1] = xs[1]? := g1
 obtain ⟨⟨x1, q1⟩, e1⟩ := hx 1 (by omega)
 rw [e1] at h1
 obtain ⟨n1, hn1, _, hw1⟩ := DataW.trod_int Tryz.underlying3 h1
 simp only [List.cons.injEq, and_true] at hn1
 have g2 : DataW.trod enc Tryz.prog W 0 (fun _ => true) true k 3 (([y0, y1, y2, y3, y4, y5, y6, y7, y8, y9].drop 2).take (Tryz.prog.cellsOf 3)) = xs[2]? := hff 2 _ rfl
 rw [show Tryz.prog.cellsOf 3 = 1 from by kernel_rfl] at g2
 have h2 : DataW.trod enc Tryz.prog W 0 (fun _ => true) true k 3 [y2] = xs[2]? := g2
 obtain ⟨⟨x2, q2⟩, e2⟩ := hx 2 (by omega)
 rw [e2] at h2
 obtain ⟨n2, hn2, _, hw2⟩ := DataW.trod_int Tryz.underlying3 h2
 simp only [List.cons.injEq, and_true] at hn2
 have g3 : DataW.trod enc Tryz.prog W 0 (fun _ => true) true k 3 (([y0, y1, y2, y3, y4, y5, y6, y7, y8, y9].drop 3).take (Tryz.prog.cellsOf 3)) = xs[3]? := hff 3 _ rfl
 rw [show Tryz.prog.cellsOf 3 = 1 from by kernel_rfl] at g3
 have h3 : DataW.trod enc Tryz.prog W 0 (fun _ => true) true k 3 [y3] = xs[3]? := g3
 obtain ⟨⟨x3, q3⟩, e3⟩ := hx 3 (by omega)
 rw [e3] at h3
 obtain ⟨n3, hn3, _, hw3⟩ := DataW.trod_int Tryz.underlying3 h3
 simp only [List.cons.injEq, and_true] at hn3
 have g4 : DataW.trod enc Tryz.prog W 0 (fun _ => true) true k 3 (([y0, y1, y2, y3, y4, y5, y6, y7, y8, y9].drop 4).take (Tryz.prog.cellsOf 3)) = xs[4]? := hff 4 _ rfl
 rw [show Tryz.prog.cellsOf 3 = 1 from by kernel_rfl] at g4
 have h4 : DataW.trod enc Tryz.prog W 0 (fun _ => true) true k 3 [y4] = xs[4]? := g4
 obtain ⟨⟨x4, q4⟩, e4⟩ := hx 4 (by omega)
 rw [e4] at h4
 obtain ⟨n4, hn4, _, hw4⟩ := DataW.trod_int Tryz.underlying3 h4
 simp only [List.cons.injEq, and_true] at hn4
 have g5 : DataW.trod enc Tryz.prog W 0 (fun _ => true) true k 3 (([y0, y1, y2, y3, y4, y5, y6, y7, y8, y9].drop 5).take (Tryz.prog.cellsOf 3)) = xs[5]? := hff 5 _ rfl
 rw [show Tryz.prog.cellsOf 3 = 1 from by kernel_rfl] at g5
 have h5 : DataW.trod enc Tryz.prog W 0 (fun _ => true) true k 3 [y5] = xs[5]? := g5
 obtain ⟨⟨x5, q5⟩, e5⟩ := hx 5 (by omega)
 rw [e5] at h5
 obtain ⟨n5, hn5, _, hw5⟩ := DataW.trod_int Tryz.underlying3 h5
 simp only [List.cons.injEq, and_true] at hn5
 have g6 : DataW.trod enc Tryz.prog W 0 (fun _ => true) true k 3 (([y0, y1, y2, y3, y4, y5, y6, y7, y8, y9].drop 6).take (Tryz.prog.cellsOf 3)) = xs[6]? := hff 6 _ rfl
 rw [show Tryz.prog.cellsOf 3 = 1 from by kernel_rfl] at g6
 have h6 : DataW.trod enc Tryz.prog W 0 (fun _ => true) true k 3 [y6] = xs[6]? := g6
 obtain ⟨⟨x6, q6⟩, e6⟩ := hx 6 (by omega)
 rw [e6] at h6
 obtain ⟨n6, hn6, _, hw6⟩ := DataW.trod_int Tryz.underlying3 h6
 simp only [List.cons.injEq, and_true] at hn6
 have g7 : DataW.trod enc Tryz.prog W 0 (fun _ => true) true k 3 (([y0, y1, y2, y3, y4, y5, y6, y7, y8, y9].drop 7).take (Tryz.prog.cellsOf 3)) = xs[7]? := hff 7 _ rfl
 rw [show Tryz.prog.cellsOf 3 = 1 from by kernel_rfl] at g7
 have h7 : DataW.trod enc Tryz.prog W 0 (fun _ => true) true k 3 [y7] = xs[7]? := g7
 obtain ⟨⟨x7, q7⟩, e7⟩ := hx 7 (by omega)
 rw [e7] at h7
 obtain ⟨n7, hn7, _, hw7⟩ := DataW.trod_int Tryz.underlying3 h7
 simp only [List.cons.injEq, and_true] at hn7
 have g8 : DataW.trod enc Tryz.prog W 0 (fun _ => true) true k 3 (([y0, y1, y2, y3, y4, y5, y6, y7, y8, y9].drop 8).take (Tryz.prog.cellsOf 3)) = xs[8]? := hff 8 _ rfl
 rw [show Tryz.prog.cellsOf 3 = 1 from by kernel_rfl] at g8
 have h8 : DataW.trod enc Tryz.prog W 0 (fun _ => true) true k 3 [y8] = xs[8]? := g8
 obtain ⟨⟨x8, q8⟩, e8⟩ := hx 8 (by omega)
 rw [e8] at h8
 obtain ⟨n8, hn8, _, hw8⟩ := DataW.trod_int Tryz.underlying3 h8
 simp only [List.cons.injEq, and_true] at hn8
 have g9 : DataW.trod enc Tryz.prog W 0 (fun _ => true) true k 3 (([y0, y1, y2, y3, y4, y5, y6, y7, y8, y9].drop 9).take (Tryz.prog.cellsOf 3)) = xs[9]? := hff 9 _ rfl
 rw [show Tryz.prog.cellsOf 3 = 1 from by kernel_rfl] at g9
 have h9 : DataW.trod enc Tryz.prog W 0 (fun _ => true) true k 3 [y9] = xs[9]? := g9
 obtain ⟨⟨x9, q9⟩, e9⟩ := hx 9 (by omega)
 rw [e9] at h9
 obtain ⟨n9, hn9, _, hw9⟩ := DataW.trod_int Tryz.underlying3 h9
 simp only [List.cons.injEq, and_true] at hn9
 exact ⟨n0, n1, n2, n3, n4, n5, n6, n7, n8, n9, ⟨hn0, hw0⟩, ⟨hn1, hw1⟩, ⟨hn2, hw2⟩, ⟨hn3, hw3⟩, ⟨hn4, hw4⟩, ⟨hn5, hw5⟩, ⟨hn6, hw6⟩, ⟨hn7, hw7⟩, ⟨hn8, hw8⟩, ⟨hn9, hw9⟩⟩
theorem wf_range {n : Int} (h : (Lit.int .i64 n).wf = true) : -9223372036854775808 ≤ n ∧ n ≤ 9223372036854775807 := by
 have h8 : (decide (IntKind.i64.min ≤ n) && decide (n ≤ IntKind.i64.max)) = true := h
 rw [show IntKind.i64.max = 9223372036854775807 from rfl, show IntKind.i64.min = -9223372036854775808 from rfl] at h8
 simp at h8
 exact h8
end Go.Proofs.YtdppolelakbbiaaGreatDoor
