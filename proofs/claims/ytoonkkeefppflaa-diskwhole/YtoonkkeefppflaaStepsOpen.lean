/- A list of steps that came in: what its reading gives. -/
import Derived.Test.YtoonkkeefppflaaOpen
import Derived.Test.YtoonkkeefppflaaStepsDef
import Derived.Deep.SlicePairs
import Derived.ChangeArms
namespace Go.Proofs.Ytoonkkeefppflaa
open Go.ChangeShapes Go.WideShapes Go.ChangeAt Go.RowKit
set_option linter.unusedVariables false
theorem stepCells : Try.prog.cellsOf 31 = 8 := by kernel_rfl
theorem opens_stp {H : Type} {enc : TypeId × Value → H} {W : World} {fuel : Nat} {d : DataW H} {p : List MemPlace} {y0 y1 y2 y3 y4 y5 y6 y7 : Value}
    (hf : DataW.trod enc Try.prog W 0 (fun _ => true) true fuel 31 [y0, y1, y2, y3, y4, y5, y6, y7] = some (d, p)) :
    ∃ s : Stp, s.cells = [y0, y1, y2, y3, y4, y5, y6, y7] ∧ s.nm.size ≤ maxLen ∧ Bs W s.ba s.bl s.zs := by
  obtain ⟨xs, k, hk, hxy, _, hxl, hff⟩ := DataW.trod_struct Try.underlying31 hf
  have hxl8 : xs.length = 8 := by simpa using hxl
  have hx : ∀ j, j < 8 → ∃ x, xs[j]? = some x := fun j hj => ⟨xs[j]'(by omega), List.getElem?_eq_getElem (by omega)⟩
  have hh0 : DataW.trod enc Try.prog W 0 (fun _ => true) true k 3 (([y0, y1, y2, y3, y4, y5, y6, y7].drop 0).take (Try.prog.cellsOf 3)) = xs[0]? := hff 0 _ rfl
  rw [show Try.prog.cellsOf 3 = 1 from by kernel_rfl] at hh0
  have h0 : DataW.trod enc Try.prog W 0 (fun _ => true) true k 3 [y0] = xs[0]? := hh0
  have hh1 : DataW.trod enc Try.prog W 0 (fun _ => true) true k 3 (([y0, y1, y2, y3, y4, y5, y6, y7].drop 1).take (Try.prog.cellsOf 3)) = xs[1]? := hff 1 _ rfl
  rw [show Try.prog.cellsOf 3 = 1 from by kernel_rfl] at hh1
  have h1 : DataW.trod enc Try.prog W 0 (fun _ => true) true k 3 [y1] = xs[1]? := hh1
  have hh2 : DataW.trod enc Try.prog W 0 (fun _ => true) true k 3 (([y0, y1, y2, y3, y4, y5, y6, y7].drop 2).take (Try.prog.cellsOf 3)) = xs[2]? := hff 2 _ rfl
  rw [show Try.prog.cellsOf 3 = 1 from by kernel_rfl] at hh2
  have h2 : DataW.trod enc Try.prog W 0 (fun _ => true) true k 3 [y2] = xs[2]? := hh2
  have hh3 : DataW.trod enc Try.prog W 0 (fun _ => true) true k 3 (([y0, y1, y2, y3, y4, y5, y6, y7].drop 3).take (Try.prog.cellsOf 3)) = xs[3]? := hff 3 _ rfl
  rw [show Try.prog.cellsOf 3 = 1 from by kernel_rfl] at hh3
  have h3 : DataW.trod enc Try.prog W 0 (fun _ => true) true k 3 [y3] = xs[3]? := hh3
  have hh4 : DataW.trod enc Try.prog W 0 (fun _ => true) true k 9 (([y0, y1, y2, y3, y4, y5, y6, y7].drop 4).take (Try.prog.cellsOf 9)) = xs[4]? := hff 4 _ rfl
  rw [show Try.prog.cellsOf 9 = 1 from by kernel_rfl] at hh4
  have h4 : DataW.trod enc Try.prog W 0 (fun _ => true) true k 9 [y4] = xs[4]? := hh4
  have hh5 : DataW.trod enc Try.prog W 0 (fun _ => true) true k 28 (([y0, y1, y2, y3, y4, y5, y6, y7].drop 5).take (Try.prog.cellsOf 28)) = xs[5]? := hff 5 _ rfl
  rw [show Try.prog.cellsOf 28 = 1 from by kernel_rfl] at hh5
  have h5 : DataW.trod enc Try.prog W 0 (fun _ => true) true k 28 [y5] = xs[5]? := hh5
  have hh6 : DataW.trod enc Try.prog W 0 (fun _ => true) true k 5 (([y0, y1, y2, y3, y4, y5, y6, y7].drop 6).take (Try.prog.cellsOf 5)) = xs[6]? := hff 6 _ rfl
  rw [show Try.prog.cellsOf 5 = 1 from by kernel_rfl] at hh6
  have h6 : DataW.trod enc Try.prog W 0 (fun _ => true) true k 5 [y6] = xs[6]? := hh6
  have hh7 : DataW.trod enc Try.prog W 0 (fun _ => true) true k 29 (([y0, y1, y2, y3, y4, y5, y6, y7].drop 7).take (Try.prog.cellsOf 29)) = xs[7]? := hff 7 _ rfl
  rw [show Try.prog.cellsOf 29 = 1 from by kernel_rfl] at hh7
  have h7 : DataW.trod enc Try.prog W 0 (fun _ => true) true k 29 [y7] = xs[7]? := hh7
  obtain ⟨x0, e0⟩ := hx 0 (by omega)
  obtain ⟨x1, e1⟩ := hx 1 (by omega)
  obtain ⟨x2, e2⟩ := hx 2 (by omega)
  obtain ⟨x3, e3⟩ := hx 3 (by omega)
  obtain ⟨x4, e4⟩ := hx 4 (by omega)
  obtain ⟨⟨d5, p5⟩, e5⟩ := hx 5 (by omega)
  obtain ⟨x6, e6⟩ := hx 6 (by omega)
  obtain ⟨x7, e7⟩ := hx 7 (by omega)
  rw [e0] at h0
  rw [e1] at h1
  rw [e2] at h2
  rw [e3] at h3
  rw [e4] at h4
  rw [e5] at h5
  rw [e6] at h6
  rw [e7] at h7
  obtain ⟨n0, hn0, _⟩ := DataW.trod_int Try.underlying3 h0
  obtain ⟨n1, hn1, _⟩ := DataW.trod_int Try.underlying3 h1
  obtain ⟨n2, hn2, _⟩ := DataW.trod_int Try.underlying3 h2
  obtain ⟨n3, hn3, _⟩ := DataW.trod_int Try.underlying3 h3
  obtain ⟨s4, hs4, _, hz4⟩ := DataW.trod_string Try.underlying9 h4
  obtain ⟨n6, hn6, _⟩ := DataW.trod_int Try.underlying5 h6
  simp only [List.cons.injEq, and_true] at hn0 hn1 hn2 hn3 hs4 hn6
  obtain ⟨a5, l5, c5, hv5⟩ : ∃ a l c, y5 = .slice a l c := by
    rcases Deep.open_slice Try.underlying28 h5 with ⟨hcs, _⟩ | ⟨a, l, c, _, _, _, _, hcs, _⟩
    · simp only [List.cons.injEq, and_true] at hcs; exact ⟨_, _, _, hcs⟩
    · simp only [List.cons.injEq, and_true] at hcs; exact ⟨_, _, _, hcs⟩
  obtain ⟨a7, l7, c7, hv7⟩ : ∃ a l c, y7 = .slice a l c := by
    rcases Deep.open_slice Try.underlying29 h7 with ⟨hcs, _⟩ | ⟨a, l, c, _, _, _, _, hcs, _⟩
    · simp only [List.cons.injEq, and_true] at hcs; exact ⟨_, _, _, hcs⟩
    · simp only [List.cons.injEq, and_true] at hcs; exact ⟨_, _, _, hcs⟩
  subst hn0 hn1 hn2 hn3 hs4 hn6 hv5 hv7
  obtain ⟨zs, hB, _⟩ := opens_bytes h5
  exact ⟨⟨n0, n1, n2, n3, s4, a5, l5, c5, zs, n6, a7, l7, c7⟩, rfl, hz4, hB⟩
theorem opens_steps {H : Type} {enc : TypeId × Value → H} {W : World} {fuel : Nat} {d : DataW H} {p : List MemPlace} {a : Option Addr} {len cap : Nat}
    (hf : DataW.trod enc Try.prog W 0 (fun _ => true) true fuel 22 [.slice a len cap] = some (d, p)) :
    ∃ l : List Stp, Sts W a len l ∧ len ≤ cap ∧ ((d = .nil ∧ len = 0) ∨ ∃ elems spare, d = .slice elems spare ∧ elems.length = len) := by
  rcases Deep.open_slice Try.underlying22 hf with ⟨hcs, hx⟩ | ⟨x, l, c, m, n, D, Pl, hcs, _, hl, hm, hmm, hx, hcell⟩
  · simp at hcs
    obtain ⟨rfl, rfl, rfl⟩ := hcs
    simp only [Prod.mk.injEq] at hx
    exact ⟨[], ⟨rfl, by decide, fun _ => rfl, (fun s hs => by cases hs), (fun x hx => by cases hx)⟩, Nat.le_refl _, .inl ⟨hx.1, rfl⟩⟩
  · simp at hcs
    obtain ⟨rfl, rfl, rfl⟩ := hcs
    have hm' : m = cap := by simpa using hmm
    subst hm'
    simp only [Prod.mk.injEq] at hx
    rw [stepCells] at hcell
    have hS : ∀ i, i < len → ∃ s : Stp, (∀ k v, s.cells[k]? = some v → W.cell? (x.add (i * 8 + k)) = some v) ∧ s.nm.size ≤ maxLen ∧ Bs W s.ba s.bl s.zs := by
      intro i hi
      obtain ⟨cs', h1, h2⟩ := hcell i (by omega)
      obtain ⟨_, hlen, hc⟩ := World.cells?_some h1
      match cs', hlen, h2, hc with
      | [y0, y1, y2, y3, y4, y5, y6, y7], _, h2, hc =>
        obtain ⟨s, hs, hnm, hB⟩ := opens_stp h2
        refine ⟨s, fun k v hv => ?_, hnm, hB⟩
        rw [hs] at hv
        have hk : k < 8 := (List.getElem?_eq_some_iff.1 hv).1
        rw [← hv, ← hc k hk, Deep.add_add]
    have hinh : Inhabited Stp := ⟨⟨0, 0, 0, 0, ByteArray.empty, none, 0, 0, [], 0, none, 0, 0⟩⟩
    obtain ⟨f, hfS⟩ := Deep.choose_lt (α := Stp) hS
    refine ⟨(List.range len).map f, ⟨by simp, by omega, (fun h => by cases h), ?_, ?_⟩, hl, .inr ⟨_, _, hx.1, by simp⟩⟩
    · intro s hs
      obtain ⟨i, hi, rfl⟩ := List.mem_map.1 hs
      exact (hfS i (List.mem_range.1 hi)).2
    · intro y hy j s hs k v hv
      cases hy
      rw [List.getElem?_map] at hs
      have hj : j < len := by
        by_cases hj : j < len
        · exact hj
        · rw [List.getElem?_eq_none (by simp; omega)] at hs; cases hs
      rw [List.getElem?_range hj] at hs
      simp only [Option.map_some, Option.some.injEq] at hs
      subst hs
      exact (hfS j hj).1 k v hv
end Go.Proofs.Ytoonkkeefppflaa
