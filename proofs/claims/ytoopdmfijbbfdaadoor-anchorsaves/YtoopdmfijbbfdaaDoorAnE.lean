/- anchor: Decode. -/
import Derived.Test.YtoopdmfijbbfdaaDoorAnD
import Derived.Laws.ResultCell
namespace Go.Proofs.YtoopdmfijbbfdaaDoor
open Go.RowKit Go.Maps
set_option linter.unusedVariables false

theorem results_cell_row_tmp {P : Program} {fn : Func} {p u : Tmp} {ty : TypeId} (h : fn.results = #[.cell p ty, .tmp u]) (tmps : Array Value) (w : World) (g : Nat) (t : TypeId) (cs : Array Value) (fr : Nat × Nat) (d : TypeDesc)
    (hp : tmps.getD p undef = .pointer (some ⟨g, 0, none⟩)) (hg : w.heap[g]? = some (.cells cs t fr))
    (hu : P.underlying ty = some d) (hd : (match d with | .struct _ | .array _ _ => true | _ => false) = true) (hi : (P.info? ty).map (·.size) = some cs.size) (x : Value) (hx : tmps.getD u undef = x) :
    (results fn tmps).run P w = .ok (.tuple #[.agg cs, x]) w := by
  rw [results_cell_tmp h, hp, hx]
  simp [asAddr, run_loadVar_row w g t ty cs fr d hg hu hd hi]

set_option maxHeartbeats 1000000 in
theorem fAnchor_any (w : World) (x0 x1 x2 x3 x4 x5 x6 x7 x8 x9 : Int) :
    Calls Tryd.prog 32 #[.agg #[.int .i64 x0, .int .i64 x1, .int .i64 x2, .int .i64 x3, .int .i64 x4, .int .i64 x5, .int .i64 x6, .int .i64 x7, .int .i64 x8, .int .i64 x9]] w fun e w' => e = .returned (.agg #[.int .i64 x0, .int .i64 x1, .int .i64 x2, .int .i64 x3, .int .i64 x4, .int .i64 x5, .int .i64 x6, .int .i64 x7, .int .i64 x8, .int .i64 x9]) ∧ Below w.heap.size w w' := by
  go_enter Tryd.func32, Tryd.ntmps32
  go_wp2
  exact bodyPost_ret (v := .agg #[.int .i64 x0, .int .i64 x1, .int .i64 x2, .int .i64 x3, .int .i64 x4, .int .i64 x5, .int .i64 x6, .int .i64 x7, .int .i64 x8, .int .i64 x9]) (results_cell_row rfl _ _ (w.heap.size + 1) 23 _ (0, 0) _ rfl (alloc_at2 _ _ _) Tryd.underlying23 rfl (by kernel_rfl)) rfl ⟨rfl, below2 _ _ _⟩

set_option maxHeartbeats 1000000 in
theorem decode_len (w : World) (a : Option Addr) (len cap : Nat) (hl : len ≠ 80) (hm : len ≤ maxLen) :
    Calls Tryd.prog 10 #[.slice a len cap] w fun e w' => e = .returned (.tuple #[.agg #[.int .i64 0, .int .i64 0, .int .i64 0, .int .i64 0, .int .i64 0, .int .i64 0, .int .i64 0, .int .i64 0, .int .i64 0, .int .i64 0], .int .i64 5]) ∧ Below w.heap.size w w' := by
  unfold maxLen at hm
  have h1 : ((len : Int) != 80) = true := by simp; omega
  go_enter Tryd.func10, Tryd.ntmps10
  go_wp2
  exact bodyPost_ret (v := .tuple #[.agg #[.int .i64 0, .int .i64 0, .int .i64 0, .int .i64 0, .int .i64 0, .int .i64 0, .int .i64 0, .int .i64 0, .int .i64 0, .int .i64 0], .int .i64 5]) (results_cell_row_tmp rfl _ _ w.heap.size 23 #[.int .i64 0, .int .i64 0, .int .i64 0, .int .i64 0, .int .i64 0, .int .i64 0, .int .i64 0, .int .i64 0, .int .i64 0, .int .i64 0] (0, 0) _ rfl (heap_alloc_new _ _) Tryd.underlying23 rfl (by kernel_rfl) _ rfl) rfl ⟨rfl, below1 _ _⟩

set_option maxHeartbeats 2000000 in
theorem decode_yes (w : World) (b off cap : Nat) (zs : List Nat) (hl : zs.length = 80) (hz : ∀ x ∈ zs, x < 256) (hcp : 80 ≤ cap) (hc : ∀ q, q < 80 → w.cell? ⟨b, off + q, none⟩ = some (.int .u8 ((zs.getD q 0 : Nat) : Int))) (x0 x1 x2 x3 x4 x5 x6 x7 x8 x9 : Int) (hx : fieldsI zs = [x0, x1, x2, x3, x4, x5, x6, x7, x8, x9]) (hcan : ancB x0 x1 x2 x3 x4 x7 x8 x9 = true) :
    Calls Tryd.prog 10 #[.slice (some ⟨b, off, none⟩) 80 cap] w fun e w' => e = .returned (.tuple #[.agg #[.int .i64 x0, .int .i64 x1, .int .i64 x2, .int .i64 x3, .int .i64 x4, .int .i64 x5, .int .i64 x6, .int .i64 x7, .int .i64 x8, .int .i64 x9], .int .i64 0]) ∧ Below w.heap.size w w' := by
  have HC := hidn can_any
  have HR := hidn (fun (wx : World) (hb : Below w.heap.size w wx) => ancRead_any wx b off cap zs hl hz hcp (fun q hq => (hb.cell (block_lt_of_cell (hc q hq))).trans (hc q hq)) x0 x1 x2 x3 x4 x5 x6 x7 x8 x9 hx)
  clear hl hz hc hx
  go_enter Tryd.func10, Tryd.ntmps10
  go_wp2_with fail
  refine (HR.out _ (below1 _ _)).mono ?_
  rintro e w1 ⟨rfl, hb1⟩
  have HB1 := hidn ((below1 w _).trans (hb1.mono (below1 w _).size))
  have hz1 := (hb1.block w.heap.size (by rw [World.size_alloc]; omega)).trans (heap_alloc_new w _)
  have hs1 : w.heap.size + 1 ≤ w1.heap.size := by have := hb1.size; rw [World.size_alloc] at this; exact this
  clear hb1
  go_wp2_with fail
  refine (fAnchor_any _ x0 x1 x2 x3 x4 x5 x6 x7 x8 x9).mono ?_
  rintro e w2 ⟨rfl, hb2⟩
  have HB2 := hidn (HB1.out.trans (hb2.mono HB1.out.size))
  have hz2 := (hb2.block w.heap.size (by omega)).trans hz1
  have hs2 : w.heap.size + 1 ≤ w2.heap.size := by have := hb2.size; omega
  clear hb2 hz1 hs1
  go_wp2_with fail
  refine (HC.out _ x0 x1 x2 x3 x4 x5 x6 x7 x8 x9).mono ?_
  rw [hcan]
  rintro e w3 ⟨rfl, hb3⟩
  have hb23 := HB2.out.alloc HB2.out.size (.cells #[.int .i64 x0, .int .i64 x1, .int .i64 x2, .int .i64 x3, .int .i64 x4, .int .i64 x5, .int .i64 x6, .int .i64 x7, .int .i64 x8, .int .i64 x9] 23)
  have HB3 := hidn (hb23.trans (hb3.mono hb23.size))
  have HZ3 : Hid (w3.heap[w.heap.size]? = _) := hidn ((hb3.block w.heap.size (by rw [World.size_alloc]; omega)).trans ((Below.heap_alloc _ _ _ (by omega)).trans hz2))
  obtain ⟨hc0, hc1, hc2, hc3, hc4, hc5, hc6, hc7, hc8, hc9⟩ := ten_cells ((hb3.block w2.heap.size (by rw [World.size_alloc]; omega)).trans (heap_alloc_new w2 _))
  clear hb3 hb23 hz2 hs2
  simp only []
  go_at_K
  repeat (first
    | (with_reducible refine wpList_store_row (by rfl) 23 (.tmp 2) (.tmp 16) (by rfl) w.heap.size #[.int .i64 x0, .int .i64 x1, .int .i64 x2, .int .i64 x3, .int .i64 x4, .int .i64 x5, .int .i64 x6, .int .i64 x7, .int .i64 x8, .int .i64 x9] (by kernel_rfl) (by kernel_rfl) 23 #[.int .i64 0, .int .i64 0, .int .i64 0, .int .i64 0, .int .i64 0, .int .i64 0, .int .i64 0, .int .i64 0, .int .i64 0, .int .i64 0] HZ3.out (by kernel_rfl) (by kernel_rfl) (by kernel_rfl) ?_)
    | go_values | go_skip | go_guarded | go_step | go_upon)
  exact bodyPost_ret (v := .tuple #[.agg #[.int .i64 x0, .int .i64 x1, .int .i64 x2, .int .i64 x3, .int .i64 x4, .int .i64 x5, .int .i64 x6, .int .i64 x7, .int .i64 x8, .int .i64 x9], .int .i64 0]) (results_cell_row_tmp rfl _ _ w.heap.size 23 #[.int .i64 x0, .int .i64 x1, .int .i64 x2, .int .i64 x3, .int .i64 x4, .int .i64 x5, .int .i64 x6, .int .i64 x7, .int .i64 x8, .int .i64 x9] (0, 0) _ rfl (setRow_heap _ _ _ _ _ _ HZ3.out) Tryd.underlying23 rfl (by kernel_rfl) _ rfl) rfl ⟨rfl, below_setRow HB3.out (Nat.le_refl _) _⟩

set_option maxHeartbeats 2000000 in
theorem decode_no (w : World) (b off cap : Nat) (zs : List Nat) (hl : zs.length = 80) (hz : ∀ x ∈ zs, x < 256) (hcp : 80 ≤ cap) (hc : ∀ q, q < 80 → w.cell? ⟨b, off + q, none⟩ = some (.int .u8 ((zs.getD q 0 : Nat) : Int))) (x0 x1 x2 x3 x4 x5 x6 x7 x8 x9 : Int) (hx : fieldsI zs = [x0, x1, x2, x3, x4, x5, x6, x7, x8, x9]) (hcan : ancB x0 x1 x2 x3 x4 x7 x8 x9 = false) :
    Calls Tryd.prog 10 #[.slice (some ⟨b, off, none⟩) 80 cap] w fun e w' => e = .returned (.tuple #[.agg #[.int .i64 0, .int .i64 0, .int .i64 0, .int .i64 0, .int .i64 0, .int .i64 0, .int .i64 0, .int .i64 0, .int .i64 0, .int .i64 0], .int .i64 5]) ∧ Below w.heap.size w w' := by
  have HC := hidn can_any
  have HR := hidn (fun (wx : World) (hb : Below w.heap.size w wx) => ancRead_any wx b off cap zs hl hz hcp (fun q hq => (hb.cell (block_lt_of_cell (hc q hq))).trans (hc q hq)) x0 x1 x2 x3 x4 x5 x6 x7 x8 x9 hx)
  clear hl hz hc hx
  go_enter Tryd.func10, Tryd.ntmps10
  go_wp2_with fail
  refine (HR.out _ (below1 _ _)).mono ?_
  rintro e w1 ⟨rfl, hb1⟩
  have HB1 := hidn ((below1 w _).trans (hb1.mono (below1 w _).size))
  have hz1 := (hb1.block w.heap.size (by rw [World.size_alloc]; omega)).trans (heap_alloc_new w _)
  have hs1 : w.heap.size + 1 ≤ w1.heap.size := by have := hb1.size; rw [World.size_alloc] at this; exact this
  clear hb1
  go_wp2_with fail
  refine (fAnchor_any _ x0 x1 x2 x3 x4 x5 x6 x7 x8 x9).mono ?_
  rintro e w2 ⟨rfl, hb2⟩
  have HB2 := hidn (HB1.out.trans (hb2.mono HB1.out.size))
  have hz2 := (hb2.block w.heap.size (by omega)).trans hz1
  have hs2 : w.heap.size + 1 ≤ w2.heap.size := by have := hb2.size; omega
  clear hb2 hz1 hs1
  go_wp2_with fail
  refine (HC.out _ x0 x1 x2 x3 x4 x5 x6 x7 x8 x9).mono ?_
  rw [hcan]
  rintro e w3 ⟨rfl, hb3⟩
  have hb23 := HB2.out.alloc HB2.out.size (.cells #[.int .i64 x0, .int .i64 x1, .int .i64 x2, .int .i64 x3, .int .i64 x4, .int .i64 x5, .int .i64 x6, .int .i64 x7, .int .i64 x8, .int .i64 x9] 23)
  have HB3 := hidn (hb23.trans (hb3.mono hb23.size))
  have HZ3 : Hid (w3.heap[w.heap.size]? = _) := hidn ((hb3.block w.heap.size (by rw [World.size_alloc]; omega)).trans ((Below.heap_alloc _ _ _ (by omega)).trans hz2))
  clear hb3 hb23 hz2 hs2
  simp only []
  go_at_K
  repeat (first
    | (with_reducible refine wpList_store_row (by rfl) 23 (.tmp 2) (.tmp 15) (by rfl) w.heap.size #[.int .i64 0, .int .i64 0, .int .i64 0, .int .i64 0, .int .i64 0, .int .i64 0, .int .i64 0, .int .i64 0, .int .i64 0, .int .i64 0] (by kernel_rfl) (by kernel_rfl) 23 #[.int .i64 0, .int .i64 0, .int .i64 0, .int .i64 0, .int .i64 0, .int .i64 0, .int .i64 0, .int .i64 0, .int .i64 0, .int .i64 0] HZ3.out (by kernel_rfl) (by kernel_rfl) (by kernel_rfl) ?_)
    | go_values | go_skip | go_guarded | go_step | go_upon)
  exact bodyPost_ret (v := .tuple #[.agg #[.int .i64 0, .int .i64 0, .int .i64 0, .int .i64 0, .int .i64 0, .int .i64 0, .int .i64 0, .int .i64 0, .int .i64 0, .int .i64 0], .int .i64 5]) (results_cell_row_tmp rfl _ _ w.heap.size 23 #[.int .i64 0, .int .i64 0, .int .i64 0, .int .i64 0, .int .i64 0, .int .i64 0, .int .i64 0, .int .i64 0, .int .i64 0, .int .i64 0] (0, 0) _ rfl (setRow_heap _ _ _ _ _ _ HZ3.out) Tryd.underlying23 rfl (by kernel_rfl) _ rfl) rfl ⟨rfl, below_setRow HB3.out (Nat.le_refl _) _⟩
end Go.Proofs.YtoopdmfijbbfdaaDoor
