/- anchor: Encode. -/
import Derived.Test.YtoopdmfijbbfdaaDoorAnB
namespace Go.Proofs.YtoopdmfijbbfdaaDoor
open Go.RowKit Go.Maps
set_option linter.unusedVariables false

theorem alloc_at2 (w : World) (a b : Obj) : ((w.alloc a).alloc b).heap[w.heap.size + 1]? = some b := by
  have h := heap_alloc_new (w.alloc a) b
  rwa [World.size_alloc] at h

theorem alloc_at1 (w : World) (a b : Obj) : ((w.alloc a).alloc b).heap[w.heap.size]? = some a := by
  rw [Below.heap_alloc _ _ _ (by rw [World.size_alloc]; omega)]
  exact heap_alloc_new w a

theorem own_monoA {w : World} {base base' e n : Nat} {v : Value} {xs : List Value} (h : w.ownsRow base e 1 v n xs) (hb : base' ≤ base) : w.ownsRow base' e 1 v n xs := by
  obtain ⟨hl, h1⟩ := h
  refine ⟨hl, ?_⟩
  rcases h1 with h1 | ⟨g, cap, cur, hv, hg, r⟩
  · exact .inl h1
  · exact .inr ⟨g, cap, cur, hv, by omega, r⟩

theorem ten_cells {w : World} {g : Nat} {t : TypeId} {r : Nat × Nat} {y0 y1 y2 y3 y4 y5 y6 y7 y8 y9 : Int} (h : w.heap[g]? = some (.cells #[.int .i64 y0, .int .i64 y1, .int .i64 y2, .int .i64 y3, .int .i64 y4, .int .i64 y5, .int .i64 y6, .int .i64 y7, .int .i64 y8, .int .i64 y9] t r)) : w.cell? ⟨g, 0, none⟩ = some (.int .i64 y0) ∧ w.cell? ⟨g, 1, none⟩ = some (.int .i64 y1) ∧ w.cell? ⟨g, 2, none⟩ = some (.int .i64 y2) ∧ w.cell? ⟨g, 3, none⟩ = some (.int .i64 y3) ∧ w.cell? ⟨g, 4, none⟩ = some (.int .i64 y4) ∧ w.cell? ⟨g, 5, none⟩ = some (.int .i64 y5) ∧ w.cell? ⟨g, 6, none⟩ = some (.int .i64 y6) ∧ w.cell? ⟨g, 7, none⟩ = some (.int .i64 y7) ∧ w.cell? ⟨g, 8, none⟩ = some (.int .i64 y8) ∧ w.cell? ⟨g, 9, none⟩ = some (.int .i64 y9) := by
  refine ⟨?_, ?_, ?_, ?_, ?_, ?_, ?_, ?_, ?_, ?_⟩ <;> (rw [cell_of_row _ _ _ _ _ _ h]; rfl)

set_option maxHeartbeats 1000000 in
theorem fieldsOf_any (w : World) (y0 y1 y2 y3 y4 y5 y6 y7 y8 y9 : Int) :
    Calls Tryd.prog 28 #[.agg #[.int .i64 y0, .int .i64 y1, .int .i64 y2, .int .i64 y3, .int .i64 y4, .int .i64 y5, .int .i64 y6, .int .i64 y7, .int .i64 y8, .int .i64 y9]] w fun e w' => e = .returned (.agg #[.int .i64 y0, .int .i64 y1, .int .i64 y2, .int .i64 y3, .int .i64 y4, .int .i64 y5, .int .i64 y6, .int .i64 y7, .int .i64 y8, .int .i64 y9]) ∧ Below w.heap.size w w' := by
  go_enter Tryd.func28, Tryd.ntmps28
  go_wp2
  exact bodyPost_ret (v := .agg #[.int .i64 y0, .int .i64 y1, .int .i64 y2, .int .i64 y3, .int .i64 y4, .int .i64 y5, .int .i64 y6, .int .i64 y7, .int .i64 y8, .int .i64 y9]) (results_cell_row rfl _ _ (w.heap.size + 1) 56 _ (0, 0) _ rfl (alloc_at2 _ _ _) Tryd.underlying56 rfl (by kernel_rfl)) rfl ⟨rfl, below2 _ _ _⟩

set_option maxHeartbeats 1000000 in
theorem encode_no (w : World) (y0 y1 y2 y3 y4 y5 y6 y7 y8 y9 : Int) (h : ancB y0 y1 y2 y3 y4 y7 y8 y9 = false) :
    Calls Tryd.prog 8 #[.agg #[.int .i64 y0, .int .i64 y1, .int .i64 y2, .int .i64 y3, .int .i64 y4, .int .i64 y5, .int .i64 y6, .int .i64 y7, .int .i64 y8, .int .i64 y9]] w fun e w' => e = .returned (.tuple #[.slice none 0 0, .int .i64 1]) ∧ Below w.heap.size w w' := by
  have HC := hidn (can_any)
  go_enter Tryd.func8, Tryd.ntmps8
  go_wp2_with fail
  refine (HC.out _ y0 y1 y2 y3 y4 y5 y6 y7 y8 y9).mono ?_
  rw [h]
  rintro e w1 ⟨rfl, hb1⟩
  have HB1 := hidn ((below1 w _).trans (hb1.mono (below1 w _).size))
  clear hb1
  go_wp2
  go_ret2
  exact ⟨rfl, HB1.out⟩

set_option maxHeartbeats 2000000 in
theorem encode_yes (w : World) (y0 y1 y2 y3 y4 y5 y6 y7 y8 y9 : Int) (h : ancB y0 y1 y2 y3 y4 y7 y8 y9 = true) :
    Calls Tryd.prog 8 #[.agg #[.int .i64 y0, .int .i64 y1, .int .i64 y2, .int .i64 y3, .int .i64 y4, .int .i64 y5, .int .i64 y6, .int .i64 y7, .int .i64 y8, .int .i64 y9]] w fun e w' => ∃ v, e = .returned (.tuple #[v, .int .i64 0]) ∧ w'.ownsRow w.heap.size 5 1 v 80 (vb (wordsB [y0, y1, y2, y3, y4, y5, y6, y7, y8, y9])) ∧ Below w.heap.size w w' := by
  have HC := hidn (can_any)
  go_enter Tryd.func8, Tryd.ntmps8
  go_wp2_with fail
  refine (HC.out _ y0 y1 y2 y3 y4 y5 y6 y7 y8 y9).mono ?_
  rw [h]
  rintro e w1 ⟨rfl, hb1⟩
  have HB1 := hidn ((below1 w _).trans (hb1.mono (below1 w _).size))
  obtain ⟨hc0, hc1, hc2, hc3, hc4, hc5, hc6, hc7, hc8, hc9⟩ := ten_cells ((hb1.block w.heap.size (by rw [World.size_alloc]; omega)).trans (heap_alloc_new w _))
  clear hb1
  go_wp2_with fail
  refine (fieldsOf_any _ y0 y1 y2 y3 y4 y5 y6 y7 y8 y9).mono ?_
  rintro e w2 ⟨rfl, hb2⟩
  have HB2 := hidn (HB1.out.trans (hb2.mono HB1.out.size))
  clear hb2 hc0 hc1 hc2 hc3 hc4 hc5 hc6 hc7 hc8 hc9
  go_wp2_with fail
  refine (words_any _ _ 0 10 10 [y0, y1, y2, y3, y4, y5, y6, y7, y8, y9] rfl (by omega) ?_).mono ?_
  · exact ints_at _ _ (by first | rfl | simp [World.size_alloc]) [y0, y1, y2, y3, y4, y5, y6, y7, y8, y9] _ _
  rintro e w3 ⟨v3, rfl, hown, hb3⟩
  have HO := hidn hown
  have HB3 := hidn hb3
  clear hown hb3
  go_wp2
  go_ret2
  have hb4 := (HB2.out.alloc HB2.out.size _).trans (HB3.out.mono (HB2.out.alloc HB2.out.size _).size)
  exact ⟨_, rfl, own_monoA HO.out (HB2.out.alloc HB2.out.size _).size, hb4⟩
end Go.Proofs.YtoopdmfijbbfdaaDoor
