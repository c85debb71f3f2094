/- A footer that came in: what its reading gives. -/
import Derived.Test.YtfgfkifdokeefaaDoorRows
import Derived.Test.YtfgfkifdokeefaaDoorFtH
import Derived.ProofKit
import Derived.OpenShut
import Derived.Deep.SlicePairs
import Derived.ChangeArms
namespace Go.Proofs.YtfgfkifdokeefaaDoor
open Go.ChangeShapes Go.WideShapes Go.ChangeAt Go.RowKit
set_option linter.unusedVariables false

theorem doCellsF : Tryd.prog.cellsOf 24 = 8 := by kernel_rfl

theorem len_consF {α : Type} {n : Nat} (l : List α) (h : l.length = n + 1) : ∃ x t, l = x :: t ∧ t.length = n := by
  cases l with
  | nil => simp at h
  | cons x t => exact ⟨x, t, rfl, by simpa using h⟩

theorem opens_intsW {H : Type} {enc : TypeId × Value → H} {W : World} {fuel : Nat} {d : DataW H} {p : List MemPlace} {a : Option Addr} {len cap : Nat}
    (hf : DataW.trod enc Tryd.prog W 0 (fun _ => true) true fuel 22 [.slice a len cap] = some (d, p)) :
    ∃ l : List Int, Ils W a len l ∧ len ≤ cap ∧ ∀ q ∈ l, (Lit.int .i64 q).wf = true := by
  rcases Deep.open_slice1 Tryd.underlying22 (by kernel_rfl) hf with ⟨hcs, hx⟩ | ⟨x, l, c, m, n, V, D, Pl, hcs, _, hl, hm, hmm, hx, hcell⟩
  · simp at hcs
    obtain ⟨rfl, rfl, rfl⟩ := hcs
    exact ⟨[], ⟨rfl, by decide, fun _ => rfl, (fun x hx => by cases hx)⟩, Nat.le_refl _, fun q hq => by cases hq⟩
  · simp at hcs
    obtain ⟨rfl, rfl, rfl⟩ := hcs
    have hm' : m = cap := by simpa using hmm
    subst hm'
    have hS : ∀ i, i < len → ∃ b : Int, W.cell? (x.add i) = some (.int .i64 b) ∧ (Lit.int .i64 b).wf = true := by
      intro i hi
      obtain ⟨h1, h2⟩ := hcell i (by omega)
      obtain ⟨b, e1, _, e2⟩ := DataW.trod_int Tryd.underlying3 h2
      simp only [List.cons.injEq, and_true] at e1
      exact ⟨b, by rw [h1, e1], e2⟩
    obtain ⟨f, hfS⟩ := Deep.choose_lt (α := Int) hS
    refine ⟨(List.range len).map f, ⟨by simp, by omega, (fun h => by cases h), ?_⟩, hl, fun q hq => by
      obtain ⟨i, hi, rfl⟩ := List.mem_map.1 hq
      exact (hfS i (List.mem_range.1 hi)).2⟩
    intro y hy j b hb
    cases hy
    rw [List.getElem?_map] at hb
    have hj : j < len := by
      by_cases hj : j < len
      · exact hj
      · rw [List.getElem?_eq_none (by simp; omega)] at hb; cases hb
    rw [List.getElem?_range hj] at hb
    simp only [Option.map_some, Option.some.injEq] at hb
    rw [← hb]
    exact (hfS j hj).1

theorem cells_foot {H : Type} {enc : TypeId × Value → H} {W : World} {fuel : Nat} {d : DataW H} {p : List MemPlace} {y0 y1 y2 y3 y4 y5 y6 y7 : Value}
    (hf : DataW.trod enc Tryd.prog W 0 (fun _ => true) true fuel 24 [y0, y1, y2, y3, y4, y5, y6, y7] = some (d, p)) :
    ∃ (n0 : Int) (n1 : Int) (n2 : Int) (n3 : Int) (n4 : Int) (n5 : Int) (n6 : Int) (a7 : Option Addr) (l7 c7 : Nat) (f7 : Nat) (d7 : DataW H) (p7 : List MemPlace), (y0 = .int .i64 n0 ∧ (Lit.int .i64 n0).wf = true) ∧ (y1 = .int .i64 n1 ∧ (Lit.int .i64 n1).wf = true) ∧ (y2 = .int .i64 n2 ∧ (Lit.int .i64 n2).wf = true) ∧ (y3 = .int .i64 n3 ∧ (Lit.int .i64 n3).wf = true) ∧ (y4 = .int .i64 n4 ∧ (Lit.int .i64 n4).wf = true) ∧ (y5 = .int .i64 n5 ∧ (Lit.int .i64 n5).wf = true) ∧ (y6 = .int .i64 n6 ∧ (Lit.int .i64 n6).wf = true) ∧ (y7 = .slice a7 l7 c7 ∧ DataW.trod enc Tryd.prog W 0 (fun _ => true) true f7 22 [.slice a7 l7 c7] = some (d7, p7) ∧ ∀ n ∈ d7.weights Tryd.prog 22, n ∈ d.weights Tryd.prog 24) := by
  obtain ⟨xs, k, hk, hxy, _, hxl, hff⟩ := DataW.trod_struct Tryd.underlying24 hf
  simp only [Prod.mk.injEq] at hxy
  have hxl2 : xs.length = 8 := by simpa using hxl
  have hW : ∀ (j : Nat) (t : TypeId) (x : DataW H × List MemPlace), ([3, 3, 3, 3, 3, 3, 3, 22] : List TypeId)[j]? = some t → xs[j]? = some x → ∀ n ∈ x.1.weights Tryd.prog t, n ∈ d.weights Tryd.prog 24 := by
    intro j t x ht hx n hn
    rw [hxy.1]
    simp only [DataW.weights, Tryd.underlying24]
    exact DataW.weights_mem_each (j := j) (t := t) (d := x.1) ht (by rw [List.getElem?_map, hx]; rfl) n hn
  have hx : ∀ j, j < 8 → ∃ x, xs[j]? = some x := fun j hj => ⟨xs[j]'(by omega), List.getElem?_eq_getElem (by omega)⟩
  have g0 : DataW.trod enc Tryd.prog W 0 (fun _ => true) true k 3 (([y0, y1, y2, y3, y4, y5, y6, y7].drop 0).take (Tryd.prog.cellsOf 3)) = xs[0]? := hff 0 _ rfl
  rw [show Tryd.prog.cellsOf 3 = 1 from by kernel_rfl] at g0
  have h0 : DataW.trod enc Tryd.prog W 0 (fun _ => true) true k 3 [y0] = xs[0]? := g0
  obtain ⟨⟨x0, q0⟩, e0⟩ := hx 0 (by omega)
  rw [e0] at h0
  obtain ⟨n0, hn0, _, hw0⟩ := DataW.trod_int Tryd.underlying3 h0
  simp only [List.cons.injEq, and_true] at hn0
  have g1 : DataW.trod enc Tryd.prog W 0 (fun _ => true) true k 3 (([y0, y1, y2, y3, y4, y5, y6, y7].drop 1).take (Tryd.prog.cellsOf 3)) = xs[1]? := hff 1 _ rfl
  rw [show Tryd.prog.cellsOf 3 = 1 from by kernel_rfl] at g1
  have h1 : DataW.trod enc Tryd.prog W 0 (fun _ => true) true k 3 [y1] = xs[1]? := g1
  obtain ⟨⟨x1, q1⟩, e1⟩ := hx 1 (by omega)
  rw [e1] at h1
  obtain ⟨n1, hn1, _, hw1⟩ := DataW.trod_int Tryd.underlying3 h1
  simp only [List.cons.injEq, and_true] at hn1
  have g2 : DataW.trod enc Tryd.prog W 0 (fun _ => true) true k 3 (([y0, y1, y2, y3, y4, y5, y6, y7].drop 2).take (Tryd.prog.cellsOf 3)) = xs[2]? := hff 2 _ rfl
  rw [show Tryd.prog.cellsOf 3 = 1 from by kernel_rfl] at g2
  have h2 : DataW.trod enc Tryd.prog W 0 (fun _ => true) true k 3 [y2] = xs[2]? := g2
  obtain ⟨⟨x2, q2⟩, e2⟩ := hx 2 (by omega)
  rw [e2] at h2
  obtain ⟨n2, hn2, _, hw2⟩ := DataW.trod_int Tryd.underlying3 h2
  simp only [List.cons.injEq, and_true] at hn2
  have g3 : DataW.trod enc Tryd.prog W 0 (fun _ => true) true k 3 (([y0, y1, y2, y3, y4, y5, y6, y7].drop 3).take (Tryd.prog.cellsOf 3)) = xs[3]? := hff 3 _ rfl
  rw [show Tryd.prog.cellsOf 3 = 1 from by kernel_rfl] at g3
  have h3 : DataW.trod enc Tryd.prog W 0 (fun _ => true) true k 3 [y3] = xs[3]? := g3
  obtain ⟨⟨x3, q3⟩, e3⟩ := hx 3 (by omega)
  rw [e3] at h3
  obtain ⟨n3, hn3, _, hw3⟩ := DataW.trod_int Tryd.underlying3 h3
  simp only [List.cons.injEq, and_true] at hn3
  have g4 : DataW.trod enc Tryd.prog W 0 (fun _ => true) true k 3 (([y0, y1, y2, y3, y4, y5, y6, y7].drop 4).take (Tryd.prog.cellsOf 3)) = xs[4]? := hff 4 _ rfl
  rw [show Tryd.prog.cellsOf 3 = 1 from by kernel_rfl] at g4
  have h4 : DataW.trod enc Tryd.prog W 0 (fun _ => true) true k 3 [y4] = xs[4]? := g4
  obtain ⟨⟨x4, q4⟩, e4⟩ := hx 4 (by omega)
  rw [e4] at h4
  obtain ⟨n4, hn4, _, hw4⟩ := DataW.trod_int Tryd.underlying3 h4
  simp only [List.cons.injEq, and_true] at hn4
  have g5 : DataW.trod enc Tryd.prog W 0 (fun _ => true) true k 3 (([y0, y1, y2, y3, y4, y5, y6, y7].drop 5).take (Tryd.prog.cellsOf 3)) = xs[5]? := hff 5 _ rfl
  rw [show Tryd.prog.cellsOf 3 = 1 from by kernel_rfl] at g5
  have h5 : DataW.trod enc Tryd.prog W 0 (fun _ => true) true k 3 [y5] = xs[5]? := g5
  obtain ⟨⟨x5, q5⟩, e5⟩ := hx 5 (by omega)
  rw [e5] at h5
  obtain ⟨n5, hn5, _, hw5⟩ := DataW.trod_int Tryd.underlying3 h5
  simp only [List.cons.injEq, and_true] at hn5
  have g6 : DataW.trod enc Tryd.prog W 0 (fun _ => true) true k 3 (([y0, y1, y2, y3, y4, y5, y6, y7].drop 6).take (Tryd.prog.cellsOf 3)) = xs[6]? := hff 6 _ rfl
  rw [show Tryd.prog.cellsOf 3 = 1 from by kernel_rfl] at g6
  have h6 : DataW.trod enc Tryd.prog W 0 (fun _ => true) true k 3 [y6] = xs[6]? := g6
  obtain ⟨⟨x6, q6⟩, e6⟩ := hx 6 (by omega)
  rw [e6] at h6
  obtain ⟨n6, hn6, _, hw6⟩ := DataW.trod_int Tryd.underlying3 h6
  simp only [List.cons.injEq, and_true] at hn6
  have g7 : DataW.trod enc Tryd.prog W 0 (fun _ => true) true k 22 (([y0, y1, y2, y3, y4, y5, y6, y7].drop 7).take (Tryd.prog.cellsOf 22)) = xs[7]? := hff 7 _ rfl
  rw [show Tryd.prog.cellsOf 22 = 1 from by kernel_rfl] at g7
  have h7 : DataW.trod enc Tryd.prog W 0 (fun _ => true) true k 22 [y7] = xs[7]? := g7
  obtain ⟨⟨x7, q7⟩, e7⟩ := hx 7 (by omega)
  rw [e7] at h7
  obtain ⟨a7, l7, c7, hn7⟩ : ∃ a l c, y7 = .slice a l c := by
    rcases Deep.open_slice Tryd.underlying22 h7 with ⟨hcs, _⟩ | ⟨a, l, c, _, _, _, _, hcs, _⟩
    · simp only [List.cons.injEq, and_true] at hcs; exact ⟨_, _, _, hcs⟩
    · simp only [List.cons.injEq, and_true] at hcs; exact ⟨_, _, _, hcs⟩
  rw [hn7] at h7
  exact ⟨n0, n1, n2, n3, n4, n5, n6, a7, l7, c7, k, x7, q7, ⟨hn0, hw0⟩, ⟨hn1, hw1⟩, ⟨hn2, hw2⟩, ⟨hn3, hw3⟩, ⟨hn4, hw4⟩, ⟨hn5, hw5⟩, ⟨hn6, hw6⟩, ⟨hn7, h7, hW 7 _ _ rfl e7⟩⟩

theorem opens_foot1 {H : Type} {enc : TypeId × Value → H} {W : World} {fuel : Nat} {d : DataW H} {p : List MemPlace} {y0 y1 y2 y3 y4 y5 y6 y7 : Value}
    (hf : DataW.trod enc Tryd.prog W 0 (fun _ => true) true fuel 24 [y0, y1, y2, y3, y4, y5, y6, y7] = some (d, p)) :
    ∃ (n0 n1 n2 n3 n4 n5 n6 : Int) (a : Option Addr) (l c : Nat) (ps : List Int), (y0 = .int .i64 n0 ∧ y1 = .int .i64 n1 ∧ y2 = .int .i64 n2 ∧ y3 = .int .i64 n3 ∧ y4 = .int .i64 n4 ∧ y5 = .int .i64 n5 ∧ y6 = .int .i64 n6 ∧ y7 = .slice a l c) ∧ Ils W a l ps ∧ (∀ q ∈ [n0, n1, n2, n3, n4, n5, n6], B63 q) ∧ ∀ q ∈ ps, B63 q := by
  obtain ⟨n0, n1, n2, n3, n4, n5, n6, a7, l7, c7, f7, d7, p7, ⟨rfl, w0⟩, ⟨rfl, w1⟩, ⟨rfl, w2⟩, ⟨rfl, w3⟩, ⟨rfl, w4⟩, ⟨rfl, w5⟩, ⟨rfl, w6⟩, ⟨rfl, ht, _⟩⟩ := cells_foot hf
  obtain ⟨ps, hps, _, hw⟩ := opens_intsW ht
  refine ⟨n0, n1, n2, n3, n4, n5, n6, a7, l7, c7, ps, ⟨rfl, rfl, rfl, rfl, rfl, rfl, rfl, rfl⟩, hps, ?_, fun q hq => bounds_i64 (hw q hq)⟩
  intro q hq
  simp only [List.mem_cons, List.not_mem_nil, or_false] at hq
  rcases hq with rfl | rfl | rfl | rfl | rfl | rfl | rfl
  · exact bounds_i64 w0
  · exact bounds_i64 w1
  · exact bounds_i64 w2
  · exact bounds_i64 w3
  · exact bounds_i64 w4
  · exact bounds_i64 w5
  · exact bounds_i64 w6
end Go.Proofs.YtfgfkifdokeefaaDoor
