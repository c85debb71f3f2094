/- anchor: Decode. -/
import Derived.Test.YtoopdmfijbbfdaaDoorAnC
namespace Go.Proofs.YtoopdmfijbbfdaaDoor
open Go.RowKit Go.Maps
set_option linter.unusedVariables false

/-- A field that bytes say. -/
def fld (zs : List Nat) (j : Nat) : Int := IntKind.i64.wrap ((getB 0 ((zs.drop (j * 8)).take 8) : Nat) : Int)
def fieldsI (zs : List Nat) : List Int := (List.range 10).map (fld zs)
def fv (zs : List Nat) (k : Nat) : List Value := (List.range 10).map fun j => if j < k then Value.int .i64 (fld zs j) else .int .i64 0

theorem fv_at (zs : List Nat) (k : Nat) (hk : k < 10) : (fv zs k)[k]? = some (.int .i64 0) := by
  simp [fv, List.getElem?_range hk]

theorem fv_set (zs : List Nat) (k : Nat) (hk : k < 10) : (fv zs k).set k (.int .i64 (fld zs k)) = fv zs (k + 1) := by
  apply List.ext_getElem?
  intro j
  rw [List.getElem?_set]
  by_cases hj : k = j
  · subst hj
    simp [fv, hk]
  · simp only [hj, if_false, fv, List.getElem?_map]
    by_cases h10 : j < 10
    · simp only [List.getElem?_range h10, Option.map_some]
      by_cases h : j < k
      · rw [if_pos h, if_pos (by omega)]
      · rw [if_neg h, if_neg (by omega)]
    · rw [List.getElem?_eq_none (by simp; omega)]
      rfl

theorem part_lt {zs : List Nat} (h : ∀ x ∈ zs, x < 256) (o : Nat) : ∀ x ∈ (zs.drop o).take 8, x < 256 := fun x hx => h x (List.mem_of_mem_drop (List.mem_of_mem_take hx))
theorem part_len {zs : List Nat} (h : zs.length = 80) (o : Nat) (ho : o ≤ 72) : 8 = ((zs.drop o).take 8).length := by simp; omega
theorem part_cell {w : World} {b off : Nat} {zs : List Nat} (hl : zs.length = 80) (h : ∀ q, q < 80 → w.cell? ⟨b, off + q, none⟩ = some (.int .u8 ((zs.getD q 0 : Nat) : Int))) (o : Nat) (ho : o ≤ 72) (j : Nat) (hj : j < 8) : w.cell? ⟨b, off + o + j, none⟩ = some (.int .u8 ((((zs.drop o).take 8).getD j 0 : Nat) : Int)) := by
  rw [Nat.add_assoc, h (o + j) (by omega)]
  simp [List.getD_eq_getElem?_getD, hj]

theorem setCell_block (w : World) (a : Addr) (v : Value) (g : Nat) (h : g ≠ a.block) : (w.setCell a v).heap[g]? = w.heap[g]? := heap_setCell_other w a g v h

set_option maxRecDepth 100000 in
set_option maxHeartbeats 8000000 in
theorem ancRead_any (w : World) (b off cap : Nat) (zs : List Nat) (hl : zs.length = 80) (hz : ∀ x ∈ zs, x < 256) (hcp : 80 ≤ cap) (hc : ∀ q, q < 80 → w.cell? ⟨b, off + q, none⟩ = some (.int .u8 ((zs.getD q 0 : Nat) : Int))) (x0 x1 x2 x3 x4 x5 x6 x7 x8 x9 : Int) (hx : fieldsI zs = [x0, x1, x2, x3, x4, x5, x6, x7, x8, x9]) :
    Calls Tryd.prog 31 #[.slice (some ⟨b, off, none⟩) 80 cap] w fun e w' => e = .returned (.agg #[.int .i64 x0, .int .i64 x1, .int .i64 x2, .int .i64 x3, .int .i64 x4, .int .i64 x5, .int .i64 x6, .int .i64 x7, .int .i64 x8, .int .i64 x9]) ∧ Below w.heap.size w w' := by
  have HL := hidn hl
  have HZ := hidn hz
  have HC := hidn hc
  have HXS := hidn hx
  clear hl hz hc hx
  go_enter Tryd.func31, Tryd.ntmps31
  go_wp2_with fail
  go_loopw [7] (fun iv wr => ∃ (k : Nat), k ≤ 10 ∧ iv = .int .i64 (k : Int) ∧ Hid (wr.ownsRow w.heap.size 56 1 (.slice (some ⟨w.heap.size + 1, 0, none⟩) 10 10) 10 (fv zs k)) ∧ Hid (wr.heap[w.heap.size]? = some (.cells #[.int .i64 0, .int .i64 0, .int .i64 0, .int .i64 0, .int .i64 0, .int .i64 0, .int .i64 0, .int .i64 0, .int .i64 0, .int .i64 0] 56 (0, 0))) ∧ Hid (Below w.heap.size w wr)) (fun iv _ => 10 - (intOf iv).toNat)
  case atStart =>
    refine ⟨0, by omega, rfl, hidn ⟨rfl, .inr ⟨w.heap.size + 1, 10, _, rfl, by omega, alloc_at2 _ _ _, by omega, by decide, rfl, rfl⟩⟩, hidn (alloc_at1 _ _ _), hidn (below2 _ _ _)⟩
  case round =>
    obtain ⟨k, hk, rfl, HO, H0, HB⟩ := hrel
    have hcase : k = 0 ∨ k = 1 ∨ k = 2 ∨ k = 3 ∨ k = 4 ∨ k = 5 ∨ k = 6 ∨ k = 7 ∨ k = 8 ∨ k = 9 ∨ k = 10 := by omega
    rcases hcase with rfl | rfl | rfl | rfl | rfl | rfl | rfl | rfl | rfl | rfl | rfl
    · have hcell := HO.out.cellAt 0 (by omega)
      have hfz := HO.out.frozenAt 0
      have hce := hcell
      rw [fv_at zs 0 (by omega)] at hce
      have HG := hidn (get_some b (off + 0) 8 (cap - 0) ((zs.drop 0).take 8) wr (part_lt HZ.out 0) (part_len HL.out 0 (by omega)) (by omega) (by omega) (fun j hj => part_cell HL.out (fun q hq => (HB.out.cell (block_lt_of_cell (HC.out q hq))).trans (HC.out q hq)) 0 (by omega) j hj))
      have hcap : (8 : Int) ≤ (cap : Int) := by omega
      have hcapn : 8 ≤ cap := by omega
      clear hcell
      go_wp2_with fail
      refine HG.out.mono ?_
      clear HG
      rintro e w1 ⟨rfl, rfl⟩
      obtain ⟨n, hn⟩ : ∃ n, n = getB 0 ((zs.drop 0).take 8) := ⟨_, rfl⟩
      rw [← hn]
      obtain ⟨x, hx⟩ : ∃ x, x = IntKind.i64.wrap (n : Int) := ⟨_, rfl⟩
      have hx' : IntKind.i64.wrap (n : Int) = x := hx.symm
      have HX : Hid (x = fld zs 0) := hidn (by rw [hx, hn]; rfl)
      clear hx hn
      go_wp2
      go_roundw
      case rel =>
        refine ⟨1, by omega, by first | rfl | go_num | simp, hidn ?_, hidn ?_, hidn (HB.out.setCell (by simp) _)⟩
        · have hst := (HO.out.stored 0 (.int .i64 x)).1
          rw [HX.out, fv_set zs 0 (by omega)] at hst
          rw [HX.out]
          exact hst
        · exact (setCell_block _ _ _ _ (by simp)).trans H0.out
      case measure => simp [intOf]
    · have hcell := HO.out.cellAt 1 (by omega)
      have hfz := HO.out.frozenAt 1
      have hce := hcell
      rw [fv_at zs 1 (by omega)] at hce
      have HG := hidn (get_some b (off + 8) 8 (cap - 8) ((zs.drop 8).take 8) wr (part_lt HZ.out 8) (part_len HL.out 8 (by omega)) (by omega) (by omega) (fun j hj => part_cell HL.out (fun q hq => (HB.out.cell (block_lt_of_cell (HC.out q hq))).trans (HC.out q hq)) 8 (by omega) j hj))
      have hcap : (16 : Int) ≤ (cap : Int) := by omega
      have hcapn : 16 ≤ cap := by omega
      clear hcell
      go_wp2_with fail
      refine HG.out.mono ?_
      clear HG
      rintro e w1 ⟨rfl, rfl⟩
      obtain ⟨n, hn⟩ : ∃ n, n = getB 0 ((zs.drop 8).take 8) := ⟨_, rfl⟩
      rw [← hn]
      obtain ⟨x, hx⟩ : ∃ x, x = IntKind.i64.wrap (n : Int) := ⟨_, rfl⟩
      have hx' : IntKind.i64.wrap (n : Int) = x := hx.symm
      have HX : Hid (x = fld zs 1) := hidn (by rw [hx, hn]; rfl)
      clear hx hn
      go_wp2
      go_roundw
      case rel =>
        refine ⟨2, by omega, by first | rfl | go_num | simp, hidn ?_, hidn ?_, hidn (HB.out.setCell (by simp) _)⟩
        · have hst := (HO.out.stored 1 (.int .i64 x)).1
          rw [HX.out, fv_set zs 1 (by omega)] at hst
          rw [HX.out]
          exact hst
        · exact (setCell_block _ _ _ _ (by simp)).trans H0.out
      case measure => simp [intOf]
    · have hcell := HO.out.cellAt 2 (by omega)
      have hfz := HO.out.frozenAt 2
      have hce := hcell
      rw [fv_at zs 2 (by omega)] at hce
      have HG := hidn (get_some b (off + 16) 8 (cap - 16) ((zs.drop 16).take 8) wr (part_lt HZ.out 16) (part_len HL.out 16 (by omega)) (by omega) (by omega) (fun j hj => part_cell HL.out (fun q hq => (HB.out.cell (block_lt_of_cell (HC.out q hq))).trans (HC.out q hq)) 16 (by omega) j hj))
      have hcap : (24 : Int) ≤ (cap : Int) := by omega
      have hcapn : 24 ≤ cap := by omega
      clear hcell
      go_wp2_with fail
      refine HG.out.mono ?_
      clear HG
      rintro e w1 ⟨rfl, rfl⟩
      obtain ⟨n, hn⟩ : ∃ n, n = getB 0 ((zs.drop 16).take 8) := ⟨_, rfl⟩
      rw [← hn]
      obtain ⟨x, hx⟩ : ∃ x, x = IntKind.i64.wrap (n : Int) := ⟨_, rfl⟩
      have hx' : IntKind.i64.wrap (n : Int) = x := hx.symm
      have HX : Hid (x = fld zs 2) := hidn (by rw [hx, hn]; rfl)
      clear hx hn
      go_wp2
      go_roundw
      case rel =>
        refine ⟨3, by omega, by first | rfl | go_num | simp, hidn ?_, hidn ?_, hidn (HB.out.setCell (by simp) _)⟩
        · have hst := (HO.out.stored 2 (.int .i64 x)).1
          rw [HX.out, fv_set zs 2 (by omega)] at hst
          rw [HX.out]
          exact hst
        · exact (setCell_block _ _ _ _ (by simp)).trans H0.out
      case measure => simp [intOf]
    · have hcell := HO.out.cellAt 3 (by omega)
      have hfz := HO.out.frozenAt 3
      have hce := hcell
      rw [fv_at zs 3 (by omega)] at hce
      have HG := hidn (get_some b (off + 24) 8 (cap - 24) ((zs.drop 24).take 8) wr (part_lt HZ.out 24) (part_len HL.out 24 (by omega)) (by omega) (by omega) (fun j hj => part_cell HL.out (fun q hq => (HB.out.cell (block_lt_of_cell (HC.out q hq))).trans (HC.out q hq)) 24 (by omega) j hj))
      have hcap : (32 : Int) ≤ (cap : Int) := by omega
      have hcapn : 32 ≤ cap := by omega
      clear hcell
      go_wp2_with fail
      refine HG.out.mono ?_
      clear HG
      rintro e w1 ⟨rfl, rfl⟩
      obtain ⟨n, hn⟩ : ∃ n, n = getB 0 ((zs.drop 24).take 8) := ⟨_, rfl⟩
      rw [← hn]
      obtain ⟨x, hx⟩ : ∃ x, x = IntKind.i64.wrap (n : Int) := ⟨_, rfl⟩
      have hx' : IntKind.i64.wrap (n : Int) = x := hx.symm
      have HX : Hid (x = fld zs 3) := hidn (by rw [hx, hn]; rfl)
      clear hx hn
      go_wp2
      go_roundw
      case rel =>
        refine ⟨4, by omega, by first | rfl | go_num | simp, hidn ?_, hidn ?_, hidn (HB.out.setCell (by simp) _)⟩
        · have hst := (HO.out.stored 3 (.int .i64 x)).1
          rw [HX.out, fv_set zs 3 (by omega)] at hst
          rw [HX.out]
          exact hst
        · exact (setCell_block _ _ _ _ (by simp)).trans H0.out
      case measure => simp [intOf]
    · have hcell := HO.out.cellAt 4 (by omega)
      have hfz := HO.out.frozenAt 4
      have hce := hcell
      rw [fv_at zs 4 (by omega)] at hce
      have HG := hidn (get_some b (off + 32) 8 (cap - 32) ((zs.drop 32).take 8) wr (part_lt HZ.out 32) (part_len HL.out 32 (by omega)) (by omega) (by omega) (fun j hj => part_cell HL.out (fun q hq => (HB.out.cell (block_lt_of_cell (HC.out q hq))).trans (HC.out q hq)) 32 (by omega) j hj))
      have hcap : (40 : Int) ≤ (cap : Int) := by omega
      have hcapn : 40 ≤ cap := by omega
      clear hcell
      go_wp2_with fail
      refine HG.out.mono ?_
      clear HG
      rintro e w1 ⟨rfl, rfl⟩
      obtain ⟨n, hn⟩ : ∃ n, n = getB 0 ((zs.drop 32).take 8) := ⟨_, rfl⟩
      rw [← hn]
      obtain ⟨x, hx⟩ : ∃ x, x = IntKind.i64.wrap (n : Int) := ⟨_, rfl⟩
      have hx' : IntKind.i64.wrap (n : Int) = x := hx.symm
      have HX : Hid (x = fld zs 4) := hidn (by rw [hx, hn]; rfl)
      clear hx hn
      go_wp2
      go_roundw
      case rel =>
        refine ⟨5, by omega, by first | rfl | go_num | simp, hidn ?_, hidn ?_, hidn (HB.out.setCell (by simp) _)⟩
        · have hst := (HO.out.stored 4 (.int .i64 x)).1
          rw [HX.out, fv_set zs 4 (by omega)] at hst
          rw [HX.out]
          exact hst
        · exact (setCell_block _ _ _ _ (by simp)).trans H0.out
      case measure => simp [intOf]
    · have hcell := HO.out.cellAt 5 (by omega)
      have hfz := HO.out.frozenAt 5
      have hce := hcell
      rw [fv_at zs 5 (by omega)] at hce
      have HG := hidn (get_some b (off + 40) 8 (cap - 40) ((zs.drop 40).take 8) wr (part_lt HZ.out 40) (part_len HL.out 40 (by omega)) (by omega) (by omega) (fun j hj => part_cell HL.out (fun q hq => (HB.out.cell (block_lt_of_cell (HC.out q hq))).trans (HC.out q hq)) 40 (by omega) j hj))
      have hcap : (48 : Int) ≤ (cap : Int) := by omega
      have hcapn : 48 ≤ cap := by omega
      clear hcell
      go_wp2_with fail
      refine HG.out.mono ?_
      clear HG
      rintro e w1 ⟨rfl, rfl⟩
      obtain ⟨n, hn⟩ : ∃ n, n = getB 0 ((zs.drop 40).take 8) := ⟨_, rfl⟩
      rw [← hn]
      obtain ⟨x, hx⟩ : ∃ x, x = IntKind.i64.wrap (n : Int) := ⟨_, rfl⟩
      have hx' : IntKind.i64.wrap (n : Int) = x := hx.symm
      have HX : Hid (x = fld zs 5) := hidn (by rw [hx, hn]; rfl)
      clear hx hn
      go_wp2
      go_roundw
      case rel =>
        refine ⟨6, by omega, by first | rfl | go_num | simp, hidn ?_, hidn ?_, hidn (HB.out.setCell (by simp) _)⟩
        · have hst := (HO.out.stored 5 (.int .i64 x)).1
          rw [HX.out, fv_set zs 5 (by omega)] at hst
          rw [HX.out]
          exact hst
        · exact (setCell_block _ _ _ _ (by simp)).trans H0.out
      case measure => simp [intOf]
    · have hcell := HO.out.cellAt 6 (by omega)
      have hfz := HO.out.frozenAt 6
      have hce := hcell
      rw [fv_at zs 6 (by omega)] at hce
      have HG := hidn (get_some b (off + 48) 8 (cap - 48) ((zs.drop 48).take 8) wr (part_lt HZ.out 48) (part_len HL.out 48 (by omega)) (by omega) (by omega) (fun j hj => part_cell HL.out (fun q hq => (HB.out.cell (block_lt_of_cell (HC.out q hq))).trans (HC.out q hq)) 48 (by omega) j hj))
      have hcap : (56 : Int) ≤ (cap : Int) := by omega
      have hcapn : 56 ≤ cap := by omega
      clear hcell
      go_wp2_with fail
      refine HG.out.mono ?_
      clear HG
      rintro e w1 ⟨rfl, rfl⟩
      obtain ⟨n, hn⟩ : ∃ n, n = getB 0 ((zs.drop 48).take 8) := ⟨_, rfl⟩
      rw [← hn]
      obtain ⟨x, hx⟩ : ∃ x, x = IntKind.i64.wrap (n : Int) := ⟨_, rfl⟩
      have hx' : IntKind.i64.wrap (n : Int) = x := hx.symm
      have HX : Hid (x = fld zs 6) := hidn (by rw [hx, hn]; rfl)
      clear hx hn
      go_wp2
      go_roundw
      case rel =>
        refine ⟨7, by omega, by first | rfl | go_num | simp, hidn ?_, hidn ?_, hidn (HB.out.setCell (by simp) _)⟩
        · have hst := (HO.out.stored 6 (.int .i64 x)).1
          rw [HX.out, fv_set zs 6 (by omega)] at hst
          rw [HX.out]
          exact hst
        · exact (setCell_block _ _ _ _ (by simp)).trans H0.out
      case measure => simp [intOf]
    · have hcell := HO.out.cellAt 7 (by omega)
      have hfz := HO.out.frozenAt 7
      have hce := hcell
      rw [fv_at zs 7 (by omega)] at hce
      have HG := hidn (get_some b (off + 56) 8 (cap - 56) ((zs.drop 56).take 8) wr (part_lt HZ.out 56) (part_len HL.out 56 (by omega)) (by omega) (by omega) (fun j hj => part_cell HL.out (fun q hq => (HB.out.cell (block_lt_of_cell (HC.out q hq))).trans (HC.out q hq)) 56 (by omega) j hj))
      have hcap : (64 : Int) ≤ (cap : Int) := by omega
      have hcapn : 64 ≤ cap := by omega
      clear hcell
      go_wp2_with fail
      refine HG.out.mono ?_
      clear HG
      rintro e w1 ⟨rfl, rfl⟩
      obtain ⟨n, hn⟩ : ∃ n, n = getB 0 ((zs.drop 56).take 8) := ⟨_, rfl⟩
      rw [← hn]
      obtain ⟨x, hx⟩ : ∃ x, x = IntKind.i64.wrap (n : Int) := ⟨_, rfl⟩
      have hx' : IntKind.i64.wrap (n : Int) = x := hx.symm
      have HX : Hid (x = fld zs 7) := hidn (by rw [hx, hn]; rfl)
      clear hx hn
      go_wp2
      go_roundw
      case rel =>
        refine ⟨8, by omega, by first | rfl | go_num | simp, hidn ?_, hidn ?_, hidn (HB.out.setCell (by simp) _)⟩
        · have hst := (HO.out.stored 7 (.int .i64 x)).1
          rw [HX.out, fv_set zs 7 (by omega)] at hst
          rw [HX.out]
          exact hst
        · exact (setCell_block _ _ _ _ (by simp)).trans H0.out
      case measure => simp [intOf]
    · have hcell := HO.out.cellAt 8 (by omega)
      have hfz := HO.out.frozenAt 8
      have hce := hcell
      rw [fv_at zs 8 (by omega)] at hce
      have HG := hidn (get_some b (off + 64) 8 (cap - 64) ((zs.drop 64).take 8) wr (part_lt HZ.out 64) (part_len HL.out 64 (by omega)) (by omega) (by omega) (fun j hj => part_cell HL.out (fun q hq => (HB.out.cell (block_lt_of_cell (HC.out q hq))).trans (HC.out q hq)) 64 (by omega) j hj))
      have hcap : (72 : Int) ≤ (cap : Int) := by omega
      have hcapn : 72 ≤ cap := by omega
      clear hcell
      go_wp2_with fail
      refine HG.out.mono ?_
      clear HG
      rintro e w1 ⟨rfl, rfl⟩
      obtain ⟨n, hn⟩ : ∃ n, n = getB 0 ((zs.drop 64).take 8) := ⟨_, rfl⟩
      rw [← hn]
      obtain ⟨x, hx⟩ : ∃ x, x = IntKind.i64.wrap (n : Int) := ⟨_, rfl⟩
      have hx' : IntKind.i64.wrap (n : Int) = x := hx.symm
      have HX : Hid (x = fld zs 8) := hidn (by rw [hx, hn]; rfl)
      clear hx hn
      go_wp2
      go_roundw
      case rel =>
        refine ⟨9, by omega, by first | rfl | go_num | simp, hidn ?_, hidn ?_, hidn (HB.out.setCell (by simp) _)⟩
        · have hst := (HO.out.stored 8 (.int .i64 x)).1
          rw [HX.out, fv_set zs 8 (by omega)] at hst
          rw [HX.out]
          exact hst
        · exact (setCell_block _ _ _ _ (by simp)).trans H0.out
      case measure => simp [intOf]
    · have hcell := HO.out.cellAt 9 (by omega)
      have hfz := HO.out.frozenAt 9
      have hce := hcell
      rw [fv_at zs 9 (by omega)] at hce
      have HG := hidn (get_some b (off + 72) 8 (cap - 72) ((zs.drop 72).take 8) wr (part_lt HZ.out 72) (part_len HL.out 72 (by omega)) (by omega) (by omega) (fun j hj => part_cell HL.out (fun q hq => (HB.out.cell (block_lt_of_cell (HC.out q hq))).trans (HC.out q hq)) 72 (by omega) j hj))
      have hcap : (80 : Int) ≤ (cap : Int) := by omega
      have hcapn : 80 ≤ cap := by omega
      clear hcell
      go_wp2_with fail
      refine HG.out.mono ?_
      clear HG
      rintro e w1 ⟨rfl, rfl⟩
      obtain ⟨n, hn⟩ : ∃ n, n = getB 0 ((zs.drop 72).take 8) := ⟨_, rfl⟩
      rw [← hn]
      obtain ⟨x, hx⟩ : ∃ x, x = IntKind.i64.wrap (n : Int) := ⟨_, rfl⟩
      have hx' : IntKind.i64.wrap (n : Int) = x := hx.symm
      have HX : Hid (x = fld zs 9) := hidn (by rw [hx, hn]; rfl)
      clear hx hn
      go_wp2
      go_roundw
      case rel =>
        refine ⟨10, by omega, by first | rfl | go_num | simp, hidn ?_, hidn ?_, hidn (HB.out.setCell (by simp) _)⟩
        · have hst := (HO.out.stored 9 (.int .i64 x)).1
          rw [HX.out, fv_set zs 9 (by omega)] at hst
          rw [HX.out]
          exact hst
        · exact (setCell_block _ _ _ _ (by simp)).trans H0.out
      case measure => simp [intOf]
    · have hfv : fv zs 10 = [.int .i64 x0, .int .i64 x1, .int .i64 x2, .int .i64 x3, .int .i64 x4, .int .i64 x5, .int .i64 x6, .int .i64 x7, .int .i64 x8, .int .i64 x9] := by
        have : fv zs 10 = (fieldsI zs).map (Value.int .i64) := by
          unfold fv fieldsI
          rw [List.map_map]
          apply List.map_congr_left
          intro j hj
          rw [if_pos (List.mem_range.1 hj)]
          rfl
        rw [this, HXS.out]; rfl
      have hO := HO.out
      rw [hfv] at hO
      have hc0 : wr.cell? ⟨w.heap.size + 1, 0, none⟩ = some (.int .i64 x0) := hO.cellAt 0 (by omega)
      have hc1 : wr.cell? ⟨w.heap.size + 1, 1, none⟩ = some (.int .i64 x1) := hO.cellAt 1 (by omega)
      have hc2 : wr.cell? ⟨w.heap.size + 1, 2, none⟩ = some (.int .i64 x2) := hO.cellAt 2 (by omega)
      have hc3 : wr.cell? ⟨w.heap.size + 1, 3, none⟩ = some (.int .i64 x3) := hO.cellAt 3 (by omega)
      have hc4 : wr.cell? ⟨w.heap.size + 1, 4, none⟩ = some (.int .i64 x4) := hO.cellAt 4 (by omega)
      have hc5 : wr.cell? ⟨w.heap.size + 1, 5, none⟩ = some (.int .i64 x5) := hO.cellAt 5 (by omega)
      have hc6 : wr.cell? ⟨w.heap.size + 1, 6, none⟩ = some (.int .i64 x6) := hO.cellAt 6 (by omega)
      have hc7 : wr.cell? ⟨w.heap.size + 1, 7, none⟩ = some (.int .i64 x7) := hO.cellAt 7 (by omega)
      have hc8 : wr.cell? ⟨w.heap.size + 1, 8, none⟩ = some (.int .i64 x8) := hO.cellAt 8 (by omega)
      have hc9 : wr.cell? ⟨w.heap.size + 1, 9, none⟩ = some (.int .i64 x9) := hO.cellAt 9 (by omega)
      clear hO hfv
      simp only [show ((10 : Nat) : Int) = 10 from rfl]
      repeat (first
        | (with_reducible refine wpList_store_row (by rfl) 56 (.tmp 2) (.tmp 26) (by rfl) w.heap.size #[.int .i64 x0, .int .i64 x1, .int .i64 x2, .int .i64 x3, .int .i64 x4, .int .i64 x5, .int .i64 x6, .int .i64 x7, .int .i64 x8, .int .i64 x9] (by kernel_rfl) (by kernel_rfl) 56 #[.int .i64 0, .int .i64 0, .int .i64 0, .int .i64 0, .int .i64 0, .int .i64 0, .int .i64 0, .int .i64 0, .int .i64 0, .int .i64 0] H0.out (by kernel_rfl) (by kernel_rfl) (by kernel_rfl) ?_)
        | go_values | go_skip | go_guarded | go_step | go_upon)
      exact bodyPost_ret (v := .agg #[.int .i64 x0, .int .i64 x1, .int .i64 x2, .int .i64 x3, .int .i64 x4, .int .i64 x5, .int .i64 x6, .int .i64 x7, .int .i64 x8, .int .i64 x9]) (results_cell_row rfl _ _ w.heap.size 56 _ (0, 0) _ rfl (setRow_heap _ _ _ _ _ _ H0.out) Tryd.underlying56 rfl (by kernel_rfl)) rfl ⟨rfl, below_setRow HB.out (Nat.le_refl _) _⟩
end Go.Proofs.YtoopdmfijbbfdaaDoor
