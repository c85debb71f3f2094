/- Steps that came in, with what a crash keeps: what their reading gives. -/
import Derived.Test.YtocfbokgbpaneaaRows
import Derived.Test.YtocfbokgbpaneaaOpen
import Derived.Test.YtocfbokgbpaneaaMg
import Derived.ProofKit
import Derived.OpenShut
import Derived.Deep.SlicePairs
import Derived.ChangeArms
namespace Go.Proofs.Ytocfbokgbpaneaa
open Go.ChangeShapes Go.WideShapes Go.ChangeAt Go.RowKit
set_option linter.unusedVariables false
theorem weightsAll_memK {H : Type} {P : Program} {e : TypeId} {d : DataW H} {n : Nat} : ∀ {l : List (DataW H)}, d ∈ l → n ∈ d.weights P e → n ∈ DataW.weightsAll P e l
  | x :: r, hd, hn => by
    simp only [DataW.weightsAll, List.mem_append]
    rcases List.mem_cons.1 hd with rfl | h
    · exact .inl hn
    · exact .inr (weightsAll_memK h hn)

theorem cells_keptv {H : Type} {enc : TypeId × Value → H} {W : World} {fuel : Nat} {d : DataW H} {p : List MemPlace} {y0 y1 y2 : Value}
    (hf : DataW.trod enc Try.prog W 0 (fun _ => true) true fuel 90 [y0, y1, y2] = some (d, p)) :
    ∃ (s0 : ByteArray) (n1 : Int) (n2 : Int), (y0 = .string s0 ∧ s0.size ≤ maxLen ∧ s0.size ∈ d.weights Try.prog 90) ∧ (y1 = .int .i64 n1 ∧ (Lit.int .i64 n1).wf = true) ∧ (y2 = .int .i64 n2 ∧ (Lit.int .i64 n2).wf = true) := by
  obtain ⟨xs, k, hk, hxy, _, hxl, hff⟩ := DataW.trod_struct Try.underlying90 hf
  simp only [Prod.mk.injEq] at hxy
  have hxl2 : xs.length = 3 := by simpa using hxl
  have hW : ∀ (j : Nat) (t : TypeId) (x : DataW H × List MemPlace), ([9, 3, 3] : List TypeId)[j]? = some t → xs[j]? = some x → ∀ n ∈ x.1.weights Try.prog t, n ∈ d.weights Try.prog 90 := by
    intro j t x ht hx n hn
    rw [hxy.1]
    simp only [DataW.weights, Try.underlying90]
    exact DataW.weights_mem_each (j := j) (t := t) (d := x.1) ht (by rw [List.getElem?_map, hx]; rfl) n hn
  have hx : ∀ j, j < 3 → ∃ x, xs[j]? = some x := fun j hj => ⟨xs[j]'(by omega), List.getElem?_eq_getElem (by omega)⟩
  have g0 : DataW.trod enc Try.prog W 0 (fun _ => true) true k 9 (([y0, y1, y2].drop 0).take (Try.prog.cellsOf 9)) = xs[0]? := hff 0 _ rfl
  rw [show Try.prog.cellsOf 9 = 1 from by kernel_rfl] at g0
  have h0 : DataW.trod enc Try.prog W 0 (fun _ => true) true k 9 [y0] = xs[0]? := g0
  obtain ⟨⟨x0, q0⟩, e0⟩ := hx 0 (by omega)
  rw [e0] at h0
  obtain ⟨s0, hn0, hd0, hz0⟩ := DataW.trod_string Try.underlying9 h0
  simp only [List.cons.injEq, and_true] at hn0
  have hv0 : s0.size ∈ d.weights Try.prog 90 := by
    refine hW 0 _ _ rfl e0 _ ?_
    have e : x0 = .lit (.string s0.data.toList) := congrArg Prod.fst hd0
    rw [e, show s0.size = s0.data.toList.length from by rw [Array.length_toList]; rfl]
    simp only [DataW.weights, List.mem_singleton]
  have g1 : DataW.trod enc Try.prog W 0 (fun _ => true) true k 3 (([y0, y1, y2].drop 1).take (Try.prog.cellsOf 3)) = xs[1]? := hff 1 _ rfl
  rw [show Try.prog.cellsOf 3 = 1 from by kernel_rfl] at g1
  have h1 : DataW.trod enc Try.prog W 0 (fun _ => true) true k 3 [y1] = xs[1]? := g1
  obtain ⟨⟨x1, q1⟩, e1⟩ := hx 1 (by omega)
  rw [e1] at h1
  obtain ⟨n1, hn1, _, hw1⟩ := DataW.trod_int Try.underlying3 h1
  simp only [List.cons.injEq, and_true] at hn1
  have g2 : DataW.trod enc Try.prog W 0 (fun _ => true) true k 3 (([y0, y1, y2].drop 2).take (Try.prog.cellsOf 3)) = xs[2]? := hff 2 _ rfl
  rw [show Try.prog.cellsOf 3 = 1 from by kernel_rfl] at g2
  have h2 : DataW.trod enc Try.prog W 0 (fun _ => true) true k 3 [y2] = xs[2]? := g2
  obtain ⟨⟨x2, q2⟩, e2⟩ := hx 2 (by omega)
  rw [e2] at h2
  obtain ⟨n2, hn2, _, hw2⟩ := DataW.trod_int Try.underlying3 h2
  simp only [List.cons.injEq, and_true] at hn2
  exact ⟨s0, n1, n2, ⟨hn0, hz0, hv0⟩, ⟨hn1, hw1⟩, ⟨hn2, hw2⟩⟩
theorem opens_keptL {H : Type} {enc : TypeId × Value → H} {W : World} {fuel : Nat} {d : DataW H} {p : List MemPlace} {a : Option Addr} {len cap : Nat}
    (hf : DataW.trod enc Try.prog W 0 (fun _ => true) true fuel 30 [.slice a len cap] = some (d, p)) :
    ∃ l : List Kp, l.length = len ∧ len ≤ cap ∧ cap ≤ maxLen ∧ (a = none → len = 0 ∧ cap = 0) ∧ (∀ s ∈ l, s.nm.size ≤ maxLen ∧ (Lit.int .i64 s.i).wf = true ∧ (Lit.int .i64 s.n).wf = true) ∧ (∀ x, a = some x → ∀ j s, l[j]? = some s → ∀ k v, ((fun (m : Kp) => ([.string m.nm, .int .i64 m.i, .int .i64 m.n] : List Value)) s)[k]? = some v → W.cell? (x.add (j * 3 + k)) = some v) ∧
      ((d = .nil ∧ len = 0) ∨ ∃ elems spare, d = .slice elems spare ∧ elems.length = len) ∧ (len = 0 ∨ ∃ n ∈ d.weights Try.prog 30, len * Try.prog.bytesOf 90 ≤ n) := by
  rcases Deep.open_slice Try.underlying30 hf with ⟨hcs, hx⟩ | ⟨x, l, c, m, n, D, Pl, hcs, _, hl, hm, hmm, hx, hcell⟩
  · simp at hcs
    obtain ⟨rfl, rfl, rfl⟩ := hcs
    simp only [Prod.mk.injEq] at hx
    exact ⟨[], rfl, Nat.le_refl _, by decide, fun _ => ⟨rfl, rfl⟩, (fun s hs => by cases hs), (fun x hx => by cases hx), .inl ⟨hx.1, rfl⟩, .inl rfl⟩
  · simp at hcs
    obtain ⟨rfl, rfl, rfl⟩ := hcs
    have hm' : m = cap := by simpa using hmm
    subst hm'
    simp only [Prod.mk.injEq] at hx
    rw [show Try.prog.cellsOf 90 = 3 from by kernel_rfl] at hcell
    have hwts : ∀ i, i < len → ∀ n ∈ (D i).weights Try.prog 90, n ∈ d.weights Try.prog 30 := by
      intro i hi n hn
      rw [hx.1]
      simp only [DataW.weights, Try.underlying30]
      exact List.mem_cons_of_mem _ (List.mem_append.2 (.inl (weightsAll_memK (List.mem_map.2 ⟨i, List.mem_range.2 hi, rfl⟩) hn)))
    have hS : ∀ i, i < len → ∃ s : Kp, (∀ k v, ((fun (m : Kp) => ([.string m.nm, .int .i64 m.i, .int .i64 m.n] : List Value)) s)[k]? = some v → W.cell? (x.add (i * 3 + k)) = some v) ∧ (s.nm.size ≤ maxLen ∧ (Lit.int .i64 s.i).wf = true ∧ (Lit.int .i64 s.n).wf = true) := by
      intro i hi
      obtain ⟨cs', h1, h2⟩ := hcell i (by omega)
      obtain ⟨_, hlen, hc⟩ := World.cells?_some h1
      have hwt := hwts i hi
      match cs', hlen, h2, hc with
      | [y0, y1, y2], _, h2, hc =>
        obtain ⟨s, hs, hP⟩ : ∃ s : Kp, (fun (m : Kp) => ([.string m.nm, .int .i64 m.i, .int .i64 m.n] : List Value)) s = [y0, y1, y2] ∧ (s.nm.size ≤ maxLen ∧ (Lit.int .i64 s.i).wf = true ∧ (Lit.int .i64 s.n).wf = true) := by
          obtain ⟨s0, n1, n2, ⟨rfl, z0, _⟩, ⟨rfl, w1⟩, ⟨rfl, w2⟩⟩ := cells_keptv h2
          exact ⟨⟨s0, n1, n2⟩, rfl, z0, w1, w2⟩
        refine ⟨s, fun k v hv => ?_, hP⟩
        rw [hs] at hv
        have hk : k < 3 := (List.getElem?_eq_some_iff.1 hv).1
        rw [← hv, ← hc k hk, Deep.add_add]
    have hinh : Inhabited Kp := ⟨⟨ByteArray.empty, 0, 0⟩⟩
    obtain ⟨f, hfS⟩ := Deep.choose_lt (α := Kp) hS
    refine ⟨(List.range len).map f, by simp, hl, by omega, (fun h => by cases h), ?_, ?_, .inr ⟨_, _, hx.1, by simp⟩, .inr ⟨(len + (m - len)) * Try.prog.bytesOf 90, ?_, Nat.mul_le_mul_right _ (by omega)⟩⟩
    · intro s hs
      obtain ⟨i, hi, rfl⟩ := List.mem_map.1 hs
      exact (hfS i (List.mem_range.1 hi)).2
    · intro y hy j s hs k v hv
      cases hy
      rw [List.getElem?_map] at hs
      have hj : j < len := by
        by_cases hj : j < len
        · exact hj
        · rw [List.getElem?_eq_none (by simp; omega)] at hs; cases hs
      rw [List.getElem?_range hj] at hs
      simp only [Option.map_some, Option.some.injEq] at hs
      subst hs
      exact (hfS j hj).1 k v hv
    · rw [hx.1]
      simp [DataW.weights, Try.underlying30]
theorem opens_kept {H : Type} {enc : TypeId × Value → H} {W : World} {fuel : Nat} {d : DataW H} {p : List MemPlace} {a : Option Addr} {len cap : Nat}
    (hf : DataW.trod enc Try.prog W 0 (fun _ => true) true fuel 30 [.slice a len cap] = some (d, p)) : ∃ ks : List Kp, Kps W a len ks := by
  obtain ⟨l, h1, h2, h3, h4, h5, h6, _, _⟩ := opens_keptL hf
  refine ⟨l, h1, by unfold maxLen at h3; omega, fun e => (h4 e).1, h5, fun x hx j m hm => ?_⟩
  exact ⟨h6 x hx j m hm 0 _ rfl, h6 x hx j m hm 1 _ rfl, h6 x hx j m hm 2 _ rfl⟩

theorem cells_stpv {H : Type} {enc : TypeId × Value → H} {W : World} {fuel : Nat} {d : DataW H} {p : List MemPlace} {y0 y1 y2 y3 y4 y5 y6 y7 : Value}
    (hf : DataW.trod enc Try.prog W 0 (fun _ => true) true fuel 32 [y0, y1, y2, y3, y4, y5, y6, y7] = some (d, p)) :
    ∃ (n0 : Int) (n1 : Int) (n2 : Int) (n3 : Int) (s4 : ByteArray) (a5 : Option Addr) (l5 c5 : Nat) (f5 : Nat) (d5 : DataW H) (p5 : List MemPlace) (n6 : Int) (a7 : Option Addr) (l7 c7 : Nat) (f7 : Nat) (d7 : DataW H) (p7 : List MemPlace), (y0 = .int .i64 n0 ∧ (Lit.int .i64 n0).wf = true) ∧ (y1 = .int .i64 n1 ∧ (Lit.int .i64 n1).wf = true) ∧ (y2 = .int .i64 n2 ∧ (Lit.int .i64 n2).wf = true) ∧ (y3 = .int .i64 n3 ∧ (Lit.int .i64 n3).wf = true) ∧ (y4 = .string s4 ∧ s4.size ≤ maxLen ∧ s4.size ∈ d.weights Try.prog 32) ∧ (y5 = .slice a5 l5 c5 ∧ DataW.trod enc Try.prog W 0 (fun _ => true) true f5 29 [.slice a5 l5 c5] = some (d5, p5) ∧ ∀ n ∈ d5.weights Try.prog 29, n ∈ d.weights Try.prog 32) ∧ (y6 = .int .u8 n6 ∧ (Lit.int .u8 n6).wf = true) ∧ (y7 = .slice a7 l7 c7 ∧ DataW.trod enc Try.prog W 0 (fun _ => true) true f7 30 [.slice a7 l7 c7] = some (d7, p7) ∧ ∀ n ∈ d7.weights Try.prog 30, n ∈ d.weights Try.prog 32) := by
  obtain ⟨xs, k, hk, hxy, _, hxl, hff⟩ := DataW.trod_struct Try.underlying32 hf
  simp only [Prod.mk.injEq] at hxy
  have hxl2 : xs.length = 8 := by simpa using hxl
  have hW : ∀ (j : Nat) (t : TypeId) (x : DataW H × List MemPlace), ([3, 3, 3, 3, 9, 29, 5, 30] : List TypeId)[j]? = some t → xs[j]? = some x → ∀ n ∈ x.1.weights Try.prog t, n ∈ d.weights Try.prog 32 := by
    intro j t x ht hx n hn
    rw [hxy.1]
    simp only [DataW.weights, Try.underlying32]
    exact DataW.weights_mem_each (j := j) (t := t) (d := x.1) ht (by rw [List.getElem?_map, hx]; rfl) n hn
  have hx : ∀ j, j < 8 → ∃ x, xs[j]? = some x := fun j hj => ⟨xs[j]'(by omega), List.getElem?_eq_getElem (by omega)⟩
  have g0 : DataW.trod enc Try.prog W 0 (fun _ => true) true k 3 (([y0, y1, y2, y3, y4, y5, y6, y7].drop 0).take (Try.prog.cellsOf 3)) = xs[0]? := hff 0 _ rfl
  rw [show Try.prog.cellsOf 3 = 1 from by kernel_rfl] at g0
  have h0 : DataW.trod enc Try.prog W 0 (fun _ => true) true k 3 [y0] = xs[0]? := g0
  obtain ⟨⟨x0, q0⟩, e0⟩ := hx 0 (by omega)
  rw [e0] at h0
  obtain ⟨n0, hn0, _, hw0⟩ := DataW.trod_int Try.underlying3 h0
  simp only [List.cons.injEq, and_true] at hn0
  have g1 : DataW.trod enc Try.prog W 0 (fun _ => true) true k 3 (([y0, y1, y2, y3, y4, y5, y6, y7].drop 1).take (Try.prog.cellsOf 3)) = xs[1]? := hff 1 _ rfl
  rw [show Try.prog.cellsOf 3 = 1 from by kernel_rfl] at g1
  have h1 : DataW.trod enc Try.prog W 0 (fun _ => true) true k 3 [y1] = xs[1]? := g1
  obtain ⟨⟨x1, q1⟩, e1⟩ := hx 1 (by omega)
  rw [e1] at h1
  obtain ⟨n1, hn1, _, hw1⟩ := DataW.trod_int Try.underlying3 h1
  simp only [List.cons.injEq, and_true] at hn1
  have g2 : DataW.trod enc Try.prog W 0 (fun _ => true) true k 3 (([y0, y1, y2, y3, y4, y5, y6, y7].drop 2).take (Try.prog.cellsOf 3)) = xs[2]? := hff 2 _ rfl
  rw [show Try.prog.cellsOf 3 = 1 from by kernel_rfl] at g2
  have h2 : DataW.trod enc Try.prog W 0 (fun _ => true) true k 3 [y2] = xs[2]? := g2
  obtain ⟨⟨x2, q2⟩, e2⟩ := hx 2 (by omega)
  rw [e2] at h2
  obtain ⟨n2, hn2, _, hw2⟩ := DataW.trod_int Try.underlying3 h2
  simp only [List.cons.injEq, and_true] at hn2
  have g3 : DataW.trod enc Try.prog W 0 (fun _ => true) true k 3 (([y0, y1, y2, y3, y4, y5, y6, y7].drop 3).take (Try.prog.cellsOf 3)) = xs[3]? := hff 3 _ rfl
  rw [show Try.prog.cellsOf 3 = 1 from by kernel_rfl] at g3
  have h3 : DataW.trod enc Try.prog W 0 (fun _ => true) true k 3 [y3] = xs[3]? := g3
  obtain ⟨⟨x3, q3⟩, e3⟩ := hx 3 (by omega)
  rw [e3] at h3
  obtain ⟨n3, hn3, _, hw3⟩ := DataW.trod_int Try.underlying3 h3
  simp only [List.cons.injEq, and_true] at hn3
  have g4 : DataW.trod enc Try.prog W 0 (fun _ => true) true k 9 (([y0, y1, y2, y3, y4, y5, y6, y7].drop 4).take (Try.prog.cellsOf 9)) = xs[4]? := hff 4 _ rfl
  rw [show Try.prog.cellsOf 9 = 1 from by kernel_rfl] at g4
  have h4 : DataW.trod enc Try.prog W 0 (fun _ => true) true k 9 [y4] = xs[4]? := g4
  obtain ⟨⟨x4, q4⟩, e4⟩ := hx 4 (by omega)
  rw [e4] at h4
  obtain ⟨s4, hn4, hd4, hz4⟩ := DataW.trod_string Try.underlying9 h4
  simp only [List.cons.injEq, and_true] at hn4
  have hv4 : s4.size ∈ d.weights Try.prog 32 := by
    refine hW 4 _ _ rfl e4 _ ?_
    have e : x4 = .lit (.string s4.data.toList) := congrArg Prod.fst hd4
    rw [e, show s4.size = s4.data.toList.length from by rw [Array.length_toList]; rfl]
    simp only [DataW.weights, List.mem_singleton]
  have g5 : DataW.trod enc Try.prog W 0 (fun _ => true) true k 29 (([y0, y1, y2, y3, y4, y5, y6, y7].drop 5).take (Try.prog.cellsOf 29)) = xs[5]? := hff 5 _ rfl
  rw [show Try.prog.cellsOf 29 = 1 from by kernel_rfl] at g5
  have h5 : DataW.trod enc Try.prog W 0 (fun _ => true) true k 29 [y5] = xs[5]? := g5
  obtain ⟨⟨x5, q5⟩, e5⟩ := hx 5 (by omega)
  rw [e5] at h5
  obtain ⟨a5, l5, c5, hn5⟩ : ∃ a l c, y5 = .slice a l c := by
    rcases Deep.open_slice Try.underlying29 h5 with ⟨hcs, _⟩ | ⟨a, l, c, _, _, _, _, hcs, _⟩
    · simp only [List.cons.injEq, and_true] at hcs; exact ⟨_, _, _, hcs⟩
    · simp only [List.cons.injEq, and_true] at hcs; exact ⟨_, _, _, hcs⟩
  rw [hn5] at h5
  have g6 : DataW.trod enc Try.prog W 0 (fun _ => true) true k 5 (([y0, y1, y2, y3, y4, y5, y6, y7].drop 6).take (Try.prog.cellsOf 5)) = xs[6]? := hff 6 _ rfl
  rw [show Try.prog.cellsOf 5 = 1 from by kernel_rfl] at g6
  have h6 : DataW.trod enc Try.prog W 0 (fun _ => true) true k 5 [y6] = xs[6]? := g6
  obtain ⟨⟨x6, q6⟩, e6⟩ := hx 6 (by omega)
  rw [e6] at h6
  obtain ⟨n6, hn6, _, hw6⟩ := DataW.trod_int Try.underlying5 h6
  simp only [List.cons.injEq, and_true] at hn6
  have g7 : DataW.trod enc Try.prog W 0 (fun _ => true) true k 30 (([y0, y1, y2, y3, y4, y5, y6, y7].drop 7).take (Try.prog.cellsOf 30)) = xs[7]? := hff 7 _ rfl
  rw [show Try.prog.cellsOf 30 = 1 from by kernel_rfl] at g7
  have h7 : DataW.trod enc Try.prog W 0 (fun _ => true) true k 30 [y7] = xs[7]? := g7
  obtain ⟨⟨x7, q7⟩, e7⟩ := hx 7 (by omega)
  rw [e7] at h7
  obtain ⟨a7, l7, c7, hn7⟩ : ∃ a l c, y7 = .slice a l c := by
    rcases Deep.open_slice Try.underlying30 h7 with ⟨hcs, _⟩ | ⟨a, l, c, _, _, _, _, hcs, _⟩
    · simp only [List.cons.injEq, and_true] at hcs; exact ⟨_, _, _, hcs⟩
    · simp only [List.cons.injEq, and_true] at hcs; exact ⟨_, _, _, hcs⟩
  rw [hn7] at h7
  exact ⟨n0, n1, n2, n3, s4, a5, l5, c5, k, x5, q5, n6, a7, l7, c7, k, x7, q7, ⟨hn0, hw0⟩, ⟨hn1, hw1⟩, ⟨hn2, hw2⟩, ⟨hn3, hw3⟩, ⟨hn4, hz4, hv4⟩, ⟨hn5, h5, hW 5 _ _ rfl e5⟩, ⟨hn6, hw6⟩, ⟨hn7, h7, hW 7 _ _ rfl e7⟩⟩
theorem opens_stpsL {H : Type} {enc : TypeId × Value → H} {W : World} {fuel : Nat} {d : DataW H} {p : List MemPlace} {a : Option Addr} {len cap : Nat}
    (hf : DataW.trod enc Try.prog W 0 (fun _ => true) true fuel 22 [.slice a len cap] = some (d, p)) :
    ∃ l : List StK, l.length = len ∧ len ≤ cap ∧ cap ≤ maxLen ∧ (a = none → len = 0 ∧ cap = 0) ∧ (∀ s ∈ l, StKOk W s) ∧ (∀ x, a = some x → ∀ j s, l[j]? = some s → ∀ k v, ((fun (m : StK) => m.s.cells) s)[k]? = some v → W.cell? (x.add (j * 8 + k)) = some v) ∧
      ((d = .nil ∧ len = 0) ∨ ∃ elems spare, d = .slice elems spare ∧ elems.length = len) ∧ (len = 0 ∨ ∃ n ∈ d.weights Try.prog 22, len * Try.prog.bytesOf 32 ≤ n) := by
  rcases Deep.open_slice Try.underlying22 hf with ⟨hcs, hx⟩ | ⟨x, l, c, m, n, D, Pl, hcs, _, hl, hm, hmm, hx, hcell⟩
  · simp at hcs
    obtain ⟨rfl, rfl, rfl⟩ := hcs
    simp only [Prod.mk.injEq] at hx
    exact ⟨[], rfl, Nat.le_refl _, by decide, fun _ => ⟨rfl, rfl⟩, (fun s hs => by cases hs), (fun x hx => by cases hx), .inl ⟨hx.1, rfl⟩, .inl rfl⟩
  · simp at hcs
    obtain ⟨rfl, rfl, rfl⟩ := hcs
    have hm' : m = cap := by simpa using hmm
    subst hm'
    simp only [Prod.mk.injEq] at hx
    rw [show Try.prog.cellsOf 32 = 8 from by kernel_rfl] at hcell
    have hwts : ∀ i, i < len → ∀ n ∈ (D i).weights Try.prog 32, n ∈ d.weights Try.prog 22 := by
      intro i hi n hn
      rw [hx.1]
      simp only [DataW.weights, Try.underlying22]
      exact List.mem_cons_of_mem _ (List.mem_append.2 (.inl (weightsAll_memK (List.mem_map.2 ⟨i, List.mem_range.2 hi, rfl⟩) hn)))
    have hS : ∀ i, i < len → ∃ s : StK, (∀ k v, ((fun (m : StK) => m.s.cells) s)[k]? = some v → W.cell? (x.add (i * 8 + k)) = some v) ∧ (StKOk W s) := by
      intro i hi
      obtain ⟨cs', h1, h2⟩ := hcell i (by omega)
      obtain ⟨_, hlen, hc⟩ := World.cells?_some h1
      have hwt := hwts i hi
      match cs', hlen, h2, hc with
      | [y0, y1, y2, y3, y4, y5, y6, y7], _, h2, hc =>
        obtain ⟨s, hs, hP⟩ : ∃ s : StK, (fun (m : StK) => m.s.cells) s = [y0, y1, y2, y3, y4, y5, y6, y7] ∧ (StKOk W s) := by
          obtain ⟨n0, n1, n2, n3, s4, a5, l5, c5, f5, d5, p5, n6, a7, l7, c7, f7, d7, p7, ⟨rfl, w0⟩, ⟨rfl, w1⟩, ⟨rfl, w2⟩, ⟨rfl, w3⟩, ⟨rfl, z4, _⟩, ⟨rfl, t5, _⟩, ⟨rfl, w6⟩, ⟨rfl, t7, _⟩⟩ := cells_stpv h2
          obtain ⟨zs, hB, _⟩ := opens_bytes t5
          obtain ⟨ks, hK⟩ := opens_kept t7
          simp only [Lit.wf, IntKind.min, IntKind.max, IntKind.signed, IntKind.bits, Bool.and_eq_true, decide_eq_true_eq, if_true] at  w0 w1 w2 w3 w6
          exact ⟨⟨⟨n0, n1, n2, n3, s4, a5, l5, c5, zs, n6, a7, l7, c7⟩, ks⟩, rfl, z4, hB, hK, by simpa using w6, by simpa using w3, by simpa using w0, by simpa using w1, by simpa using w2⟩
        refine ⟨s, fun k v hv => ?_, hP⟩
        rw [hs] at hv
        have hk : k < 8 := (List.getElem?_eq_some_iff.1 hv).1
        rw [← hv, ← hc k hk, Deep.add_add]
    have hinh : Inhabited StK := ⟨⟨⟨0, 0, 0, 0, ByteArray.empty, none, 0, 0, [], 0, none, 0, 0⟩, []⟩⟩
    obtain ⟨f, hfS⟩ := Deep.choose_lt (α := StK) hS
    refine ⟨(List.range len).map f, by simp, hl, by omega, (fun h => by cases h), ?_, ?_, .inr ⟨_, _, hx.1, by simp⟩, .inr ⟨(len + (m - len)) * Try.prog.bytesOf 32, ?_, Nat.mul_le_mul_right _ (by omega)⟩⟩
    · intro s hs
      obtain ⟨i, hi, rfl⟩ := List.mem_map.1 hs
      exact (hfS i (List.mem_range.1 hi)).2
    · intro y hy j s hs k v hv
      cases hy
      rw [List.getElem?_map] at hs
      have hj : j < len := by
        by_cases hj : j < len
        · exact hj
        · rw [List.getElem?_eq_none (by simp; omega)] at hs; cases hs
      rw [List.getElem?_range hj] at hs
      simp only [Option.map_some, Option.some.injEq] at hs
      subst hs
      exact (hfS j hj).1 k v hv
    · rw [hx.1]
      simp [DataW.weights, Try.underlying22]
theorem opens_stepsK {H : Type} {enc : TypeId × Value → H} {W : World} {fuel : Nat} {d : DataW H} {p : List MemPlace} {a : Option Addr} {len cap : Nat}
    (hf : DataW.trod enc Try.prog W 0 (fun _ => true) true fuel 22 [.slice a len cap] = some (d, p)) : ∃ l : List StK, StsK W a len l := by
  obtain ⟨l, h1, h2, h3, h4, h5, h6, _, _⟩ := opens_stpsL hf
  exact ⟨l, h1, by omega, fun e => (h4 e).1, h5, h6⟩
end Go.Proofs.Ytocfbokgbpaneaa
