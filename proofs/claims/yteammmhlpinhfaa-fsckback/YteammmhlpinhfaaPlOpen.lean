/- Footers that came in: what their reading gives. -/
import Derived.Test.YteammmhlpinhfaaRows
import Derived.Test.YteammmhlpinhfaaPlA
import Derived.ProofKit
import Derived.OpenShut
import Derived.Deep.SlicePairs
import Derived.ChangeArms
namespace Go.Proofs.Yteammmhlpinhfaa
open Go.ChangeShapes Go.WideShapes Go.ChangeAt Go.RowKit
set_option linter.unusedVariables false

theorem weightsAll_mem {H : Type} {P : Program} {e : TypeId} {d : DataW H} {n : Nat} : ∀ {l : List (DataW H)}, d ∈ l → n ∈ d.weights P e → n ∈ DataW.weightsAll P e l
  | x :: r, hd, hn => by
    simp only [DataW.weightsAll, List.mem_append]
    rcases List.mem_cons.1 hd with rfl | h
    · exact .inl hn
    · exact .inr (weightsAll_mem h hn)

theorem opens_intsW {H : Type} {enc : TypeId × Value → H} {W : World} {fuel : Nat} {d : DataW H} {p : List MemPlace} {a : Option Addr} {len cap : Nat}
    (hf : DataW.trod enc Try.prog W 0 (fun _ => true) true fuel 35 [.slice a len cap] = some (d, p)) :
    ∃ l : List Int, Ils W a len l ∧ len ≤ cap ∧ ∀ q ∈ l, (Lit.int .i64 q).wf = true := by
  rcases Deep.open_slice1 Try.underlying35 (by kernel_rfl) hf with ⟨hcs, hx⟩ | ⟨x, l, c, m, n, V, D, Pl, hcs, _, hl, hm, hmm, hx, hcell⟩
  · simp at hcs
    obtain ⟨rfl, rfl, rfl⟩ := hcs
    exact ⟨[], ⟨rfl, by decide, fun _ => rfl, (fun x hx => by cases hx)⟩, Nat.le_refl _, fun q hq => by cases hq⟩
  · simp at hcs
    obtain ⟨rfl, rfl, rfl⟩ := hcs
    have hm' : m = cap := by simpa using hmm
    subst hm'
    have hS : ∀ i, i < len → ∃ b : Int, W.cell? (x.add i) = some (.int .i64 b) ∧ (Lit.int .i64 b).wf = true := by
      intro i hi
      obtain ⟨h1, h2⟩ := hcell i (by omega)
      obtain ⟨b, e1, _, e2⟩ := DataW.trod_int Try.underlying3 h2
      simp only [List.cons.injEq, and_true] at e1
      exact ⟨b, by rw [h1, e1], e2⟩
    obtain ⟨f, hfS⟩ := Deep.choose_lt (α := Int) hS
    refine ⟨(List.range len).map f, ⟨by simp, by omega, (fun h => by cases h), ?_⟩, hl, fun q hq => by
      obtain ⟨i, hi, rfl⟩ := List.mem_map.1 hq
      exact (hfS i (List.mem_range.1 hi)).2⟩
    intro y hy j b hb
    cases hy
    rw [List.getElem?_map] at hb
    have hj : j < len := by
      by_cases hj : j < len
      · exact hj
      · rw [List.getElem?_eq_none (by simp; omega)] at hb; cases hb
    rw [List.getElem?_range hj] at hb
    simp only [Option.map_some, Option.some.injEq] at hb
    rw [← hb]
    exact (hfS j hj).1

theorem cells_foot {H : Type} {enc : TypeId × Value → H} {W : World} {fuel : Nat} {d : DataW H} {p : List MemPlace} {y0 y1 y2 y3 y4 y5 y6 y7 : Value}
    (hf : DataW.trod enc Try.prog W 0 (fun _ => true) true fuel 37 [y0, y1, y2, y3, y4, y5, y6, y7] = some (d, p)) :
    ∃ (n0 : Int) (n1 : Int) (n2 : Int) (n3 : Int) (n4 : Int) (n5 : Int) (n6 : Int) (a7 : Option Addr) (l7 c7 : Nat) (f7 : Nat) (d7 : DataW H) (p7 : List MemPlace), (y0 = .int .i64 n0 ∧ (Lit.int .i64 n0).wf = true) ∧ (y1 = .int .i64 n1 ∧ (Lit.int .i64 n1).wf = true) ∧ (y2 = .int .i64 n2 ∧ (Lit.int .i64 n2).wf = true) ∧ (y3 = .int .i64 n3 ∧ (Lit.int .i64 n3).wf = true) ∧ (y4 = .int .i64 n4 ∧ (Lit.int .i64 n4).wf = true) ∧ (y5 = .int .i64 n5 ∧ (Lit.int .i64 n5).wf = true) ∧ (y6 = .int .i64 n6 ∧ (Lit.int .i64 n6).wf = true) ∧ (y7 = .slice a7 l7 c7 ∧ DataW.trod enc Try.prog W 0 (fun _ => true) true f7 35 [.slice a7 l7 c7] = some (d7, p7) ∧ ∀ n ∈ d7.weights Try.prog 35, n ∈ d.weights Try.prog 37) := by
  obtain ⟨xs, k, hk, hxy, _, hxl, hff⟩ := DataW.trod_struct Try.underlying37 hf
  simp only [Prod.mk.injEq] at hxy
  have hxl2 : xs.length = 8 := by simpa using hxl
  have hW : ∀ (j : Nat) (t : TypeId) (x : DataW H × List MemPlace), ([3, 3, 3, 3, 3, 3, 3, 35] : List TypeId)[j]? = some t → xs[j]? = some x → ∀ n ∈ x.1.weights Try.prog t, n ∈ d.weights Try.prog 37 := by
    intro j t x ht hx n hn
    rw [hxy.1]
    simp only [DataW.weights, Try.underlying37]
    exact DataW.weights_mem_each (j := j) (t := t) (d := x.1) ht (by rw [List.getElem?_map, hx]; rfl) n hn
  have hx : ∀ j, j < 8 → ∃ x, xs[j]? = some x := fun j hj => ⟨xs[j]'(by omega), List.getElem?_eq_getElem (by omega)⟩
  have g0 : DataW.trod enc Try.prog W 0 (fun _ => true) true k 3 (([y0, y1, y2, y3, y4, y5, y6, y7].drop 0).take (Try.prog.cellsOf 3)) = xs[0]? := hff 0 _ rfl
  rw [show Try.prog.cellsOf 3 = 1 from by kernel_rfl] at g0
  have h0 : DataW.trod enc Try.prog W 0 (fun _ => true) true k 3 [y0] = xs[0]? := g0
  obtain ⟨⟨x0, q0⟩, e0⟩ := hx 0 (by omega)
  rw [e0] at h0
  obtain ⟨n0, hn0, _, hw0⟩ := DataW.trod_int Try.underlying3 h0
  simp only [List.cons.injEq, and_true] at hn0
  have g1 : DataW.trod enc Try.prog W 0 (fun _ => true) true k 3 (([y0, y1, y2, y3, y4, y5, y6, y7].drop 1).take (Try.prog.cellsOf 3)) = xs[1]? := hff 1 _ rfl
  rw [show Try.prog.cellsOf 3 = 1 from by kernel_rfl] at g1
  have h1 : DataW.trod enc Try.prog W 0 (fun _ => true) true k 3 [y1] = xs[1]? := g1
  obtain ⟨⟨x1, q1⟩, e1⟩ := hx 1 (by omega)
  rw [e1] at h1
  obtain ⟨n1, hn1, _, hw1⟩ := DataW.trod_int Try.underlying3 h1
  simp only [List.cons.injEq, and_true] at hn1
  have g2 : DataW.trod enc Try.prog W 0 (fun _ => true) true k 3 (([y0, y1, y2, y3, y4, y5, y6, y7].drop 2).take (Try.prog.cellsOf 3)) = xs[2]? := hff 2 _ rfl
  rw [show Try.prog.cellsOf 3 = 1 from by kernel_rfl] at g2
  have h2 : DataW.trod enc Try.prog W 0 (fun _ => true) true k 3 [y2] = xs[2]? := g2
  obtain ⟨⟨x2, q2⟩, e2⟩ := hx 2 (by omega)
  rw [e2] at h2
  obtain ⟨n2, hn2, _, hw2⟩ := DataW.trod_int Try.underlying3 h2
  simp only [List.cons.injEq, and_true] at hn2
  have g3 : DataW.trod enc Try.prog W 0 (fun _ => true) true k 3 (([y0, y1, y2, y3, y4, y5, y6, y7].drop 3).take (Try.prog.cellsOf 3)) = xs[3]? := hff 3 _ rfl
  rw [show Try.prog.cellsOf 3 = 1 from by kernel_rfl] at g3
  have h3 : DataW.trod enc Try.prog W 0 (fun _ => true) true k 3 [y3] = xs[3]? := g3
  obtain ⟨⟨x3, q3⟩, e3⟩ := hx 3 (by omega)
  rw [e3] at h3
  obtain ⟨n3, hn3, _, hw3⟩ := DataW.trod_int Try.underlying3 h3
  simp only [List.cons.injEq, and_true] at hn3
  have g4 : DataW.trod enc Try.prog W 0 (fun _ => true) true k 3 (([y0, y1, y2, y3, y4, y5, y6, y7].drop 4).take (Try.prog.cellsOf 3)) = xs[4]? := hff 4 _ rfl
  rw [show Try.prog.cellsOf 3 = 1 from by kernel_rfl] at g4
  have h4 : DataW.trod enc Try.prog W 0 (fun _ => true) true k 3 [y4] = xs[4]? := g4
  obtain ⟨⟨x4, q4⟩, e4⟩ := hx 4 (by omega)
  rw [e4] at h4
  obtain ⟨n4, hn4, _, hw4⟩ := DataW.trod_int Try.underlying3 h4
  simp only [List.cons.injEq, and_true] at hn4
  have g5 : DataW.trod enc Try.prog W 0 (fun _ => true) true k 3 (([y0, y1, y2, y3, y4, y5, y6, y7].drop 5).take (Try.prog.cellsOf 3)) = xs[5]? := hff 5 _ rfl
  rw [show Try.prog.cellsOf 3 = 1 from by kernel_rfl] at g5
  have h5 : DataW.trod enc Try.prog W 0 (fun _ => true) true k 3 [y5] = xs[5]? := g5
  obtain ⟨⟨x5, q5⟩, e5⟩ := hx 5 (by omega)
  rw [e5] at h5
  obtain ⟨n5, hn5, _, hw5⟩ := DataW.trod_int Try.underlying3 h5
  simp only [List.cons.injEq, and_true] at hn5
  have g6 : DataW.trod enc Try.prog W 0 (fun _ => true) true k 3 (([y0, y1, y2, y3, y4, y5, y6, y7].drop 6).take (Try.prog.cellsOf 3)) = xs[6]? := hff 6 _ rfl
  rw [show Try.prog.cellsOf 3 = 1 from by kernel_rfl] at g6
  have h6 : DataW.trod enc Try.prog W 0 (fun _ => true) true k 3 [y6] = xs[6]? := g6
  obtain ⟨⟨x6, q6⟩, e6⟩ := hx 6 (by omega)
  rw [e6] at h6
  obtain ⟨n6, hn6, _, hw6⟩ := DataW.trod_int Try.underlying3 h6
  simp only [List.cons.injEq, and_true] at hn6
  have g7 : DataW.trod enc Try.prog W 0 (fun _ => true) true k 35 (([y0, y1, y2, y3, y4, y5, y6, y7].drop 7).take (Try.prog.cellsOf 35)) = xs[7]? := hff 7 _ rfl
  rw [show Try.prog.cellsOf 35 = 1 from by kernel_rfl] at g7
  have h7 : DataW.trod enc Try.prog W 0 (fun _ => true) true k 35 [y7] = xs[7]? := g7
  obtain ⟨⟨x7, q7⟩, e7⟩ := hx 7 (by omega)
  rw [e7] at h7
  obtain ⟨a7, l7, c7, hn7⟩ : ∃ a l c, y7 = .slice a l c := by
    rcases Deep.open_slice Try.underlying35 h7 with ⟨hcs, _⟩ | ⟨a, l, c, _, _, _, _, hcs, _⟩
    · simp only [List.cons.injEq, and_true] at hcs; exact ⟨_, _, _, hcs⟩
    · simp only [List.cons.injEq, and_true] at hcs; exact ⟨_, _, _, hcs⟩
  rw [hn7] at h7
  exact ⟨n0, n1, n2, n3, n4, n5, n6, a7, l7, c7, k, x7, q7, ⟨hn0, hw0⟩, ⟨hn1, hw1⟩, ⟨hn2, hw2⟩, ⟨hn3, hw3⟩, ⟨hn4, hw4⟩, ⟨hn5, hw5⟩, ⟨hn6, hw6⟩, ⟨hn7, h7, hW 7 _ _ rfl e7⟩⟩

theorem opens_footsL {H : Type} {enc : TypeId × Value → H} {W : World} {fuel : Nat} {d : DataW H} {p : List MemPlace} {a : Option Addr} {len cap : Nat}
    (hf : DataW.trod enc Try.prog W 0 (fun _ => true) true fuel 22 [.slice a len cap] = some (d, p)) :
    ∃ l : List Fo, l.length = len ∧ len ≤ cap ∧ cap ≤ maxLen ∧ (a = none → len = 0 ∧ cap = 0) ∧ (∀ s ∈ l, Ils W s.pa s.pl s.ps ∧ s.pl ≤ s.pc ∧ (Lit.int .i64 s.nu).wf = true ∧ ∀ q ∈ s.ps, (Lit.int .i64 q).wf = true) ∧ (∀ x, a = some x → ∀ j s, l[j]? = some s → ∀ k v, (Fo.cells s)[k]? = some v → W.cell? (x.add (j * 8 + k)) = some v) ∧
      ((d = .nil ∧ len = 0) ∨ ∃ elems spare, d = .slice elems spare ∧ elems.length = len) ∧ (len = 0 ∨ ∃ n ∈ d.weights Try.prog 22, len * Try.prog.bytesOf 37 ≤ n) := by
  rcases Deep.open_slice Try.underlying22 hf with ⟨hcs, hx⟩ | ⟨x, l, c, m, n, D, Pl, hcs, _, hl, hm, hmm, hx, hcell⟩
  · simp at hcs
    obtain ⟨rfl, rfl, rfl⟩ := hcs
    simp only [Prod.mk.injEq] at hx
    exact ⟨[], rfl, Nat.le_refl _, by decide, fun _ => ⟨rfl, rfl⟩, (fun s hs => by cases hs), (fun x hx => by cases hx), .inl ⟨hx.1, rfl⟩, .inl rfl⟩
  · simp at hcs
    obtain ⟨rfl, rfl, rfl⟩ := hcs
    have hm' : m = cap := by simpa using hmm
    subst hm'
    simp only [Prod.mk.injEq] at hx
    rw [show Try.prog.cellsOf 37 = 8 from by kernel_rfl] at hcell
    have hwts : ∀ i, i < len → ∀ n ∈ (D i).weights Try.prog 37, n ∈ d.weights Try.prog 22 := by
      intro i hi n hn
      rw [hx.1]
      simp only [DataW.weights, Try.underlying22]
      exact List.mem_cons_of_mem _ (List.mem_append.2 (.inl (weightsAll_mem (List.mem_map.2 ⟨i, List.mem_range.2 hi, rfl⟩) hn)))
    have hS : ∀ i, i < len → ∃ s : Fo, (∀ k v, (Fo.cells s)[k]? = some v → W.cell? (x.add (i * 8 + k)) = some v) ∧ (Ils W s.pa s.pl s.ps ∧ s.pl ≤ s.pc ∧ (Lit.int .i64 s.nu).wf = true ∧ ∀ q ∈ s.ps, (Lit.int .i64 q).wf = true) := by
      intro i hi
      obtain ⟨cs', h1, h2⟩ := hcell i (by omega)
      obtain ⟨_, hlen, hc⟩ := World.cells?_some h1
      have hwt := hwts i hi
      match cs', hlen, h2, hc with
      | [y0, y1, y2, y3, y4, y5, y6, y7], _, h2, hc =>
        obtain ⟨s, hs, hP⟩ : ∃ s : Fo, Fo.cells s = [y0, y1, y2, y3, y4, y5, y6, y7] ∧ (Ils W s.pa s.pl s.ps ∧ s.pl ≤ s.pc ∧ (Lit.int .i64 s.nu).wf = true ∧ ∀ q ∈ s.ps, (Lit.int .i64 q).wf = true) := by
          obtain ⟨n0, n1, n2, n3, n4, n5, n6, a7, l7, c7, f7, d7, p7, ⟨rfl, w0⟩, ⟨rfl, _⟩, ⟨rfl, _⟩, ⟨rfl, _⟩, ⟨rfl, _⟩, ⟨rfl, _⟩, ⟨rfl, _⟩, ⟨rfl, ht, _⟩⟩ := cells_foot h2
          obtain ⟨ps, hps, hlc, hw⟩ := opens_intsW ht
          exact ⟨⟨n0, n1, n2, n3, n4, n5, n6, a7, l7, c7, ps⟩, rfl, hps, hlc, w0, hw⟩
        refine ⟨s, fun k v hv => ?_, hP⟩
        rw [hs] at hv
        have hk : k < 8 := (List.getElem?_eq_some_iff.1 hv).1
        rw [← hv, ← hc k hk, Deep.add_add]
    have hinh : Inhabited Fo := ⟨⟨0, 0, 0, 0, 0, 0, 0, none, 0, 0, []⟩⟩
    obtain ⟨f, hfS⟩ := Deep.choose_lt (α := Fo) hS
    refine ⟨(List.range len).map f, by simp, hl, by omega, (fun h => by cases h), ?_, ?_, .inr ⟨_, _, hx.1, by simp⟩, .inr ⟨(len + (m - len)) * Try.prog.bytesOf 37, ?_, Nat.mul_le_mul_right _ (by omega)⟩⟩
    · intro s hs
      obtain ⟨i, hi, rfl⟩ := List.mem_map.1 hs
      exact (hfS i (List.mem_range.1 hi)).2
    · intro y hy j s hs k v hv
      cases hy
      rw [List.getElem?_map] at hs
      have hj : j < len := by
        by_cases hj : j < len
        · exact hj
        · rw [List.getElem?_eq_none (by simp; omega)] at hs; cases hs
      rw [List.getElem?_range hj] at hs
      simp only [Option.map_some, Option.some.injEq] at hs
      subst hs
      exact (hfS j hj).1 k v hv
    · rw [hx.1]
      simp [DataW.weights, Try.underlying22]

/-- The numbers that may be keys are numbers of 64 bits. -/
def FoW (l : List Fo) : Prop := ∀ d ∈ l, (Lit.int .i64 d.nu).wf = true ∧ ∀ q ∈ d.ps, (Lit.int .i64 q).wf = true

theorem opens_foots {H : Type} {enc : TypeId × Value → H} {W : World} {fuel : Nat} {d : DataW H} {p : List MemPlace} {a : Option Addr} {len cap : Nat}
    (hf : DataW.trod enc Try.prog W 0 (fun _ => true) true fuel 22 [.slice a len cap] = some (d, p)) :
    ∃ l : List Fo, (Fls W a len l ∧ FoW l) ∧ len ≤ cap := by
  obtain ⟨l, h1, h2, h3, h4, h5, h6, _, _⟩ := opens_footsL hf
  exact ⟨l, ⟨⟨h1, by omega, fun e => (h4 e).1, fun x hx => ⟨(h5 x hx).1, (h5 x hx).2.1⟩, h6⟩, fun x hx => ⟨(h5 x hx).2.2.1, (h5 x hx).2.2.2⟩⟩, h2⟩

end Go.Proofs.Yteammmhlpinhfaa
