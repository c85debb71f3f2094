/- Deletes that came in: what their reading gives. -/
import Derived.Test.YtdgkjiiegmnjfaaRows
import Derived.Test.YtdgkjiiegmnjfaaTmA
import Derived.Test.YtdgkjiiegmnjfaaLabOpen
import Derived.ProofKit
import Derived.OpenShut
import Derived.Deep.SlicePairs
import Derived.ChangeArms
namespace Go.Proofs.Ytdgkjiiegmnjfaa
open Go.ChangeShapes Go.WideShapes Go.ChangeAt Go.RowKit
set_option linter.unusedVariables false
theorem cells_mat {H : Type} {enc : TypeId × Value → H} {W : World} {fuel : Nat} {d : DataW H} {p : List MemPlace} {y0 y1 y2 : Value}
    (hf : DataW.trod enc Try.prog W 0 (fun _ => true) true fuel 37 [y0, y1, y2] = some (d, p)) :
    ∃ (n0 : Int) (s1 : ByteArray) (s2 : ByteArray), (y0 = .int .i64 n0 ∧ (Lit.int .i64 n0).wf = true) ∧ (y1 = .string s1 ∧ s1.size ≤ maxLen ∧ s1.size ∈ d.weights Try.prog 37) ∧ (y2 = .string s2 ∧ s2.size ≤ maxLen ∧ s2.size ∈ d.weights Try.prog 37) := by
  obtain ⟨xs, k, hk, hxy, _, hxl, hff⟩ := DataW.trod_struct Try.underlying37 hf
  simp only [Prod.mk.injEq] at hxy
  have hxl2 : xs.length = 3 := by simpa using hxl
  have hW : ∀ (j : Nat) (t : TypeId) (x : DataW H × List MemPlace), ([3, 9, 9] : List TypeId)[j]? = some t → xs[j]? = some x → ∀ n ∈ x.1.weights Try.prog t, n ∈ d.weights Try.prog 37 := by
    intro j t x ht hx n hn
    rw [hxy.1]
    simp only [DataW.weights, Try.underlying37]
    exact DataW.weights_mem_each (j := j) (t := t) (d := x.1) ht (by rw [List.getElem?_map, hx]; rfl) n hn
  have hx : ∀ j, j < 3 → ∃ x, xs[j]? = some x := fun j hj => ⟨xs[j]'(by omega), List.getElem?_eq_getElem (by omega)⟩
  have g0 : DataW.trod enc Try.prog W 0 (fun _ => true) true k 3 (([y0, y1, y2].drop 0).take (Try.prog.cellsOf 3)) = xs[0]? := hff 0 _ rfl
  rw [show Try.prog.cellsOf 3 = 1 from by kernel_rfl] at g0
  have h0 : DataW.trod enc Try.prog W 0 (fun _ => true) true k 3 [y0] = xs[0]? := g0
  obtain ⟨⟨x0, q0⟩, e0⟩ := hx 0 (by omega)
  rw [e0] at h0
  obtain ⟨n0, hn0, _, hw0⟩ := DataW.trod_int Try.underlying3 h0
  simp only [List.cons.injEq, and_true] at hn0
  have g1 : DataW.trod enc Try.prog W 0 (fun _ => true) true k 9 (([y0, y1, y2].drop 1).take (Try.prog.cellsOf 9)) = xs[1]? := hff 1 _ rfl
  rw [show Try.prog.cellsOf 9 = 1 from by kernel_rfl] at g1
  have h1 : DataW.trod enc Try.prog W 0 (fun _ => true) true k 9 [y1] = xs[1]? := g1
  obtain ⟨⟨x1, q1⟩, e1⟩ := hx 1 (by omega)
  rw [e1] at h1
  obtain ⟨s1, hn1, hd1, hz1⟩ := DataW.trod_string Try.underlying9 h1
  simp only [List.cons.injEq, and_true] at hn1
  have hv1 : s1.size ∈ d.weights Try.prog 37 := by
    refine hW 1 _ _ rfl e1 _ ?_
    have e : x1 = .lit (.string s1.data.toList) := congrArg Prod.fst hd1
    rw [e, show s1.size = s1.data.toList.length from by rw [Array.length_toList]; rfl]
    simp only [DataW.weights, List.mem_singleton]
  have g2 : DataW.trod enc Try.prog W 0 (fun _ => true) true k 9 (([y0, y1, y2].drop 2).take (Try.prog.cellsOf 9)) = xs[2]? := hff 2 _ rfl
  rw [show Try.prog.cellsOf 9 = 1 from by kernel_rfl] at g2
  have h2 : DataW.trod enc Try.prog W 0 (fun _ => true) true k 9 [y2] = xs[2]? := g2
  obtain ⟨⟨x2, q2⟩, e2⟩ := hx 2 (by omega)
  rw [e2] at h2
  obtain ⟨s2, hn2, hd2, hz2⟩ := DataW.trod_string Try.underlying9 h2
  simp only [List.cons.injEq, and_true] at hn2
  have hv2 : s2.size ∈ d.weights Try.prog 37 := by
    refine hW 2 _ _ rfl e2 _ ?_
    have e : x2 = .lit (.string s2.data.toList) := congrArg Prod.fst hd2
    rw [e, show s2.size = s2.data.toList.length from by rw [Array.length_toList]; rfl]
    simp only [DataW.weights, List.mem_singleton]
  exact ⟨n0, s1, s2, ⟨hn0, hw0⟩, ⟨hn1, hz1, hv1⟩, ⟨hn2, hz2, hv2⟩⟩
theorem opens_matsL {H : Type} {enc : TypeId × Value → H} {W : World} {fuel : Nat} {d : DataW H} {p : List MemPlace} {a : Option Addr} {len cap : Nat}
    (hf : DataW.trod enc Try.prog W 0 (fun _ => true) true fuel 32 [.slice a len cap] = some (d, p)) :
    ∃ l : List Mat, l.length = len ∧ len ≤ cap ∧ cap ≤ maxLen ∧ (a = none → len = 0 ∧ cap = 0) ∧ (∀ s ∈ l, s.n.size ≤ maxLen ∧ s.v.size ≤ maxLen) ∧ (∀ x, a = some x → ∀ j s, l[j]? = some s → ∀ k v, ((fun (m : Mat) => ([.int .i64 m.k, .string m.n, .string m.v] : List Value)) s)[k]? = some v → W.cell? (x.add (j * 3 + k)) = some v) ∧
      ((d = .nil ∧ len = 0) ∨ ∃ elems spare, d = .slice elems spare ∧ elems.length = len) ∧ (len = 0 ∨ ∃ n ∈ d.weights Try.prog 32, len * Try.prog.bytesOf 37 ≤ n) := by
  rcases Deep.open_slice Try.underlying32 hf with ⟨hcs, hx⟩ | ⟨x, l, c, m, n, D, Pl, hcs, _, hl, hm, hmm, hx, hcell⟩
  · simp at hcs
    obtain ⟨rfl, rfl, rfl⟩ := hcs
    simp only [Prod.mk.injEq] at hx
    exact ⟨[], rfl, Nat.le_refl _, by decide, fun _ => ⟨rfl, rfl⟩, (fun s hs => by cases hs), (fun x hx => by cases hx), .inl ⟨hx.1, rfl⟩, .inl rfl⟩
  · simp at hcs
    obtain ⟨rfl, rfl, rfl⟩ := hcs
    have hm' : m = cap := by simpa using hmm
    subst hm'
    simp only [Prod.mk.injEq] at hx
    rw [show Try.prog.cellsOf 37 = 3 from by kernel_rfl] at hcell
    have hwts : ∀ i, i < len → ∀ n ∈ (D i).weights Try.prog 37, n ∈ d.weights Try.prog 32 := by
      intro i hi n hn
      rw [hx.1]
      simp only [DataW.weights, Try.underlying32]
      exact List.mem_cons_of_mem _ (List.mem_append.2 (.inl (weightsAll_mem (List.mem_map.2 ⟨i, List.mem_range.2 hi, rfl⟩) hn)))
    have hS : ∀ i, i < len → ∃ s : Mat, (∀ k v, ((fun (m : Mat) => ([.int .i64 m.k, .string m.n, .string m.v] : List Value)) s)[k]? = some v → W.cell? (x.add (i * 3 + k)) = some v) ∧ (s.n.size ≤ maxLen ∧ s.v.size ≤ maxLen) := by
      intro i hi
      obtain ⟨cs', h1, h2⟩ := hcell i (by omega)
      obtain ⟨_, hlen, hc⟩ := World.cells?_some h1
      have hwt := hwts i hi
      match cs', hlen, h2, hc with
      | [y0, y1, y2], _, h2, hc =>
        obtain ⟨s, hs, hP⟩ : ∃ s : Mat, (fun (m : Mat) => ([.int .i64 m.k, .string m.n, .string m.v] : List Value)) s = [y0, y1, y2] ∧ (s.n.size ≤ maxLen ∧ s.v.size ≤ maxLen) := by
          obtain ⟨n0, s1, s2, ⟨rfl, _⟩, ⟨rfl, z1, _⟩, ⟨rfl, z2, _⟩⟩ := cells_mat h2
          exact ⟨⟨n0, s1, s2⟩, rfl, z1, z2⟩
        refine ⟨s, fun k v hv => ?_, hP⟩
        rw [hs] at hv
        have hk : k < 3 := (List.getElem?_eq_some_iff.1 hv).1
        rw [← hv, ← hc k hk, Deep.add_add]
    have hinh : Inhabited Mat := ⟨⟨0, ByteArray.empty, ByteArray.empty⟩⟩
    obtain ⟨f, hfS⟩ := Deep.choose_lt (α := Mat) hS
    refine ⟨(List.range len).map f, by simp, hl, by omega, (fun h => by cases h), ?_, ?_, .inr ⟨_, _, hx.1, by simp⟩, .inr ⟨(len + (m - len)) * Try.prog.bytesOf 37, ?_, Nat.mul_le_mul_right _ (by omega)⟩⟩
    · intro s hs
      obtain ⟨i, hi, rfl⟩ := List.mem_map.1 hs
      exact (hfS i (List.mem_range.1 hi)).2
    · intro y hy j s hs k v hv
      cases hy
      rw [List.getElem?_map] at hs
      have hj : j < len := by
        by_cases hj : j < len
        · exact hj
        · rw [List.getElem?_eq_none (by simp; omega)] at hs; cases hs
      rw [List.getElem?_range hj] at hs
      simp only [Option.map_some, Option.some.injEq] at hs
      subst hs
      exact (hfS j hj).1 k v hv
    · rw [hx.1]
      simp [DataW.weights, Try.underlying32]
theorem opens_mats {H : Type} {enc : TypeId × Value → H} {W : World} {fuel : Nat} {d : DataW H} {p : List MemPlace} {a : Option Addr} {len cap : Nat}
    (hf : DataW.trod enc Try.prog W 0 (fun _ => true) true fuel 32 [.slice a len cap] = some (d, p)) :
    ∃ ms : List Mat, Mss W a len ms ∧ len ≤ cap ∧ (len = 0 ∨ ∃ n ∈ d.weights Try.prog 32, len * 40 ≤ n) := by
  obtain ⟨l, h1, h2, h3, h4, h5, h6, _, h7⟩ := opens_matsL hf
  rw [show Try.prog.bytesOf 37 = 40 from by kernel_rfl] at h7
  refine ⟨l, ⟨h1, by omega, fun e => (h4 e).1, h5, fun x hx j m hm => ?_⟩, h2, h7⟩
  exact ⟨h6 x hx j m hm 0 _ rfl, h6 x hx j m hm 1 _ rfl, h6 x hx j m hm 2 _ rfl⟩
theorem cells_del {H : Type} {enc : TypeId × Value → H} {W : World} {fuel : Nat} {d : DataW H} {p : List MemPlace} {y0 y1 y2 y3 : Value}
    (hf : DataW.trod enc Try.prog W 0 (fun _ => true) true fuel 34 [y0, y1, y2, y3] = some (d, p)) :
    ∃ (a0 : Option Addr) (l0 c0 : Nat) (f0 : Nat) (d0 : DataW H) (p0 : List MemPlace) (n1 : Int) (n2 : Int) (n3 : Int), (y0 = .slice a0 l0 c0 ∧ DataW.trod enc Try.prog W 0 (fun _ => true) true f0 32 [.slice a0 l0 c0] = some (d0, p0) ∧ ∀ n ∈ d0.weights Try.prog 32, n ∈ d.weights Try.prog 34) ∧ (y1 = .int .i64 n1 ∧ (Lit.int .i64 n1).wf = true) ∧ (y2 = .int .i64 n2 ∧ (Lit.int .i64 n2).wf = true) ∧ (y3 = .int .i64 n3 ∧ (Lit.int .i64 n3).wf = true) := by
  obtain ⟨xs, k, hk, hxy, _, hxl, hff⟩ := DataW.trod_struct Try.underlying34 hf
  simp only [Prod.mk.injEq] at hxy
  have hxl2 : xs.length = 4 := by simpa using hxl
  have hW : ∀ (j : Nat) (t : TypeId) (x : DataW H × List MemPlace), ([32, 3, 3, 3] : List TypeId)[j]? = some t → xs[j]? = some x → ∀ n ∈ x.1.weights Try.prog t, n ∈ d.weights Try.prog 34 := by
    intro j t x ht hx n hn
    rw [hxy.1]
    simp only [DataW.weights, Try.underlying34]
    exact DataW.weights_mem_each (j := j) (t := t) (d := x.1) ht (by rw [List.getElem?_map, hx]; rfl) n hn
  have hx : ∀ j, j < 4 → ∃ x, xs[j]? = some x := fun j hj => ⟨xs[j]'(by omega), List.getElem?_eq_getElem (by omega)⟩
  have g0 : DataW.trod enc Try.prog W 0 (fun _ => true) true k 32 (([y0, y1, y2, y3].drop 0).take (Try.prog.cellsOf 32)) = xs[0]? := hff 0 _ rfl
  rw [show Try.prog.cellsOf 32 = 1 from by kernel_rfl] at g0
  have h0 : DataW.trod enc Try.prog W 0 (fun _ => true) true k 32 [y0] = xs[0]? := g0
  obtain ⟨⟨x0, q0⟩, e0⟩ := hx 0 (by omega)
  rw [e0] at h0
  obtain ⟨a0, l0, c0, hn0⟩ : ∃ a l c, y0 = .slice a l c := by
    rcases Deep.open_slice Try.underlying32 h0 with ⟨hcs, _⟩ | ⟨a, l, c, _, _, _, _, hcs, _⟩
    · simp only [List.cons.injEq, and_true] at hcs; exact ⟨_, _, _, hcs⟩
    · simp only [List.cons.injEq, and_true] at hcs; exact ⟨_, _, _, hcs⟩
  rw [hn0] at h0
  have g1 : DataW.trod enc Try.prog W 0 (fun _ => true) true k 3 (([y0, y1, y2, y3].drop 1).take (Try.prog.cellsOf 3)) = xs[1]? := hff 1 _ rfl
  rw [show Try.prog.cellsOf 3 = 1 from by kernel_rfl] at g1
  have h1 : DataW.trod enc Try.prog W 0 (fun _ => true) true k 3 [y1] = xs[1]? := g1
  obtain ⟨⟨x1, q1⟩, e1⟩ := hx 1 (by omega)
  rw [e1] at h1
  obtain ⟨n1, hn1, _, hw1⟩ := DataW.trod_int Try.underlying3 h1
  simp only [List.cons.injEq, and_true] at hn1
  have g2 : DataW.trod enc Try.prog W 0 (fun _ => true) true k 3 (([y0, y1, y2, y3].drop 2).take (Try.prog.cellsOf 3)) = xs[2]? := hff 2 _ rfl
  rw [show Try.prog.cellsOf 3 = 1 from by kernel_rfl] at g2
  have h2 : DataW.trod enc Try.prog W 0 (fun _ => true) true k 3 [y2] = xs[2]? := g2
  obtain ⟨⟨x2, q2⟩, e2⟩ := hx 2 (by omega)
  rw [e2] at h2
  obtain ⟨n2, hn2, _, hw2⟩ := DataW.trod_int Try.underlying3 h2
  simp only [List.cons.injEq, and_true] at hn2
  have g3 : DataW.trod enc Try.prog W 0 (fun _ => true) true k 3 (([y0, y1, y2, y3].drop 3).take (Try.prog.cellsOf 3)) = xs[3]? := hff 3 _ rfl
  rw [show Try.prog.cellsOf 3 = 1 from by kernel_rfl] at g3
  have h3 : DataW.trod enc Try.prog W 0 (fun _ => true) true k 3 [y3] = xs[3]? := g3
  obtain ⟨⟨x3, q3⟩, e3⟩ := hx 3 (by omega)
  rw [e3] at h3
  obtain ⟨n3, hn3, _, hw3⟩ := DataW.trod_int Try.underlying3 h3
  simp only [List.cons.injEq, and_true] at hn3
  exact ⟨a0, l0, c0, k, x0, q0, n1, n2, n3, ⟨hn0, h0, hW 0 _ _ rfl e0⟩, ⟨hn1, hw1⟩, ⟨hn2, hw2⟩, ⟨hn3, hw3⟩⟩
theorem opens_delsL {H : Type} {enc : TypeId × Value → H} {W : World} {fuel : Nat} {d : DataW H} {p : List MemPlace} {a : Option Addr} {len cap : Nat}
    (hf : DataW.trod enc Try.prog W 0 (fun _ => true) true fuel 22 [.slice a len cap] = some (d, p)) :
    ∃ l : List Del, l.length = len ∧ len ≤ cap ∧ cap ≤ maxLen ∧ (a = none → len = 0 ∧ cap = 0) ∧ (∀ s ∈ l, Mss W s.ma s.ml s.ms ∧ (s.ml = 0 ∨ ∃ n ∈ d.weights Try.prog 22, s.ml * 40 ≤ n)) ∧ (∀ x, a = some x → ∀ j s, l[j]? = some s → ∀ k v, (Del.cells s)[k]? = some v → W.cell? (x.add (j * 4 + k)) = some v) ∧
      ((d = .nil ∧ len = 0) ∨ ∃ elems spare, d = .slice elems spare ∧ elems.length = len) ∧ (len = 0 ∨ ∃ n ∈ d.weights Try.prog 22, len * Try.prog.bytesOf 34 ≤ n) := by
  rcases Deep.open_slice Try.underlying22 hf with ⟨hcs, hx⟩ | ⟨x, l, c, m, n, D, Pl, hcs, _, hl, hm, hmm, hx, hcell⟩
  · simp at hcs
    obtain ⟨rfl, rfl, rfl⟩ := hcs
    simp only [Prod.mk.injEq] at hx
    exact ⟨[], rfl, Nat.le_refl _, by decide, fun _ => ⟨rfl, rfl⟩, (fun s hs => by cases hs), (fun x hx => by cases hx), .inl ⟨hx.1, rfl⟩, .inl rfl⟩
  · simp at hcs
    obtain ⟨rfl, rfl, rfl⟩ := hcs
    have hm' : m = cap := by simpa using hmm
    subst hm'
    simp only [Prod.mk.injEq] at hx
    rw [show Try.prog.cellsOf 34 = 4 from by kernel_rfl] at hcell
    have hwts : ∀ i, i < len → ∀ n ∈ (D i).weights Try.prog 34, n ∈ d.weights Try.prog 22 := by
      intro i hi n hn
      rw [hx.1]
      simp only [DataW.weights, Try.underlying22]
      exact List.mem_cons_of_mem _ (List.mem_append.2 (.inl (weightsAll_mem (List.mem_map.2 ⟨i, List.mem_range.2 hi, rfl⟩) hn)))
    have hS : ∀ i, i < len → ∃ s : Del, (∀ k v, (Del.cells s)[k]? = some v → W.cell? (x.add (i * 4 + k)) = some v) ∧ (Mss W s.ma s.ml s.ms ∧ (s.ml = 0 ∨ ∃ n ∈ d.weights Try.prog 22, s.ml * 40 ≤ n)) := by
      intro i hi
      obtain ⟨cs', h1, h2⟩ := hcell i (by omega)
      obtain ⟨_, hlen, hc⟩ := World.cells?_some h1
      have hwt := hwts i hi
      match cs', hlen, h2, hc with
      | [y0, y1, y2, y3], _, h2, hc =>
        obtain ⟨s, hs, hP⟩ : ∃ s : Del, Del.cells s = [y0, y1, y2, y3] ∧ (Mss W s.ma s.ml s.ms ∧ (s.ml = 0 ∨ ∃ n ∈ d.weights Try.prog 22, s.ml * 40 ≤ n)) := by
          obtain ⟨a0, l0, c0, f0, d0, p0, n1, n2, n3, ⟨rfl, ht0, hw0⟩, ⟨rfl, _⟩, ⟨rfl, _⟩, ⟨rfl, _⟩⟩ := cells_del h2
          obtain ⟨ms, hms, _, h7⟩ := opens_mats ht0
          refine ⟨⟨a0, l0, c0, ms, n1, n2, n3⟩, rfl, hms, ?_⟩
          rcases h7 with h | ⟨n, hn, h⟩
          · exact .inl h
          · exact .inr ⟨n, hwt n (hw0 n hn), h⟩
        refine ⟨s, fun k v hv => ?_, hP⟩
        rw [hs] at hv
        have hk : k < 4 := (List.getElem?_eq_some_iff.1 hv).1
        rw [← hv, ← hc k hk, Deep.add_add]
    have hinh : Inhabited Del := ⟨⟨none, 0, 0, [], 0, 0, 0⟩⟩
    obtain ⟨f, hfS⟩ := Deep.choose_lt (α := Del) hS
    refine ⟨(List.range len).map f, by simp, hl, by omega, (fun h => by cases h), ?_, ?_, .inr ⟨_, _, hx.1, by simp⟩, .inr ⟨(len + (m - len)) * Try.prog.bytesOf 34, ?_, Nat.mul_le_mul_right _ (by omega)⟩⟩
    · intro s hs
      obtain ⟨i, hi, rfl⟩ := List.mem_map.1 hs
      exact (hfS i (List.mem_range.1 hi)).2
    · intro y hy j s hs k v hv
      cases hy
      rw [List.getElem?_map] at hs
      have hj : j < len := by
        by_cases hj : j < len
        · exact hj
        · rw [List.getElem?_eq_none (by simp; omega)] at hs; cases hs
      rw [List.getElem?_range hj] at hs
      simp only [Option.map_some, Option.some.injEq] at hs
      subst hs
      exact (hfS j hj).1 k v hv
    · rw [hx.1]
      simp [DataW.weights, Try.underlying22]
theorem opens_dels {H : Type} {enc : TypeId × Value → H} {W : World} {fuel : Nat} {d : DataW H} {p : List MemPlace} {a : Option Addr} {len cap : Nat}
    (hf : DataW.trod enc Try.prog W 0 (fun _ => true) true fuel 22 [.slice a len cap] = some (d, p)) (hs : ∀ n ∈ d.weights Try.prog 22, n ≤ reachBytes) :
    ∃ l : List Del, Dls W a len l ∧ len ≤ cap := by
  obtain ⟨l, h1, h2, h3, h4, h5, h6, _, _⟩ := opens_delsL hf
  refine ⟨l, ⟨h1, by omega, fun e => (h4 e).1, fun x hx => ⟨(h5 x hx).1, ?_⟩, h6⟩, h2⟩
  rcases (h5 x hx).2 with h | ⟨n, hn, h⟩
  · omega
  · have := hs n hn
    simp only [reachBytes] at this
    omega
end Go.Proofs.Ytdgkjiiegmnjfaa
