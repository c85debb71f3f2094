/- fsck.readBlock. -/
import Derived.Test.YteammmhlpinhfaaGreatDoorFkC
import Derived.Laws.CopyOwn
namespace Go.Proofs.YteammmhlpinhfaaGreatDoor
open Go.RowKit
set_option linter.unusedVariables false

def fv7 (zs : List Nat) (k : Nat) : List Value := (List.range 7).map fun j => if j < k then Value.int .i64 (mN zs j) else .int .i64 0

theorem fv7_at (zs : List Nat) (k : Nat) (hk : k < 7) : (fv7 zs k)[k]? = some (.int .i64 0) := by
  simp [fv7, List.getElem?_range hk]

theorem fv7_set (zs : List Nat) (k : Nat) (hk : k < 7) : (fv7 zs k).set k (.int .i64 (mN zs k)) = fv7 zs (k + 1) := by
  apply List.ext_getElem?
  intro j
  rw [List.getElem?_set]
  by_cases hj : k = j
  · subst hj
    simp [fv7, hk]
  · simp only [hj, if_false, fv7, List.getElem?_map]
    by_cases h10 : j < 7
    · simp only [List.getElem?_range h10, Option.map_some]
      by_cases h : j < k
      · rw [if_pos h, if_pos (by omega)]
      · rw [if_neg h, if_neg (by omega)]
    · rw [List.getElem?_eq_none (by simp; omega)]
      rfl

theorem fk_at2 (w : World) (a b : Obj) : ((w.alloc a).alloc b).heap[w.heap.size + 1]? = some b := by
  have h := heap_alloc_new (w.alloc a) b
  rwa [World.size_alloc] at h

theorem fk_at1 (w : World) (a b : Obj) : ((w.alloc a).alloc b).heap[w.heap.size]? = some a := by
  rw [Below.heap_alloc _ _ _ (by rw [World.size_alloc]; omega)]
  exact heap_alloc_new w a

theorem fk_below2 (w : World) (a b : Obj) : Below w.heap.size w ((w.alloc a).alloc b) := ((Below.refl _ w).alloc (Nat.le_refl _) _).alloc (by rw [World.size_alloc]; omega) _

theorem fk_plt {zs : List Nat} (h : ∀ x ∈ zs, x < 256) (o : Nat) : ∀ x ∈ (zs.drop o).take 8, x < 256 := fun x hx => h x (List.mem_of_mem_drop (List.mem_of_mem_take hx))
theorem fk_plen {zs : List Nat} {len : Nat} (h : zs.length = len) (o : Nat) (ho : o + 8 ≤ len) : 8 = ((zs.drop o).take 8).length := by simp; omega
theorem fk_pcell {w : World} {b off len : Nat} {zs : List Nat} (hl : zs.length = len) (h : ∀ q, q < len → w.cell? ⟨b, off + q, none⟩ = some (.int .u8 ((zs.getD q 0 : Nat) : Int))) (o : Nat) (ho : o + 8 ≤ len) (j : Nat) (hj : j < 8) : w.cell? ⟨b, off + o + j, none⟩ = some (.int .u8 ((((zs.drop o).take 8).getD j 0 : Nat) : Int)) := by
  rw [Nat.add_assoc, h (o + j) (by omega)]
  simp [List.getD_eq_getElem?_getD, hj]

theorem fk_setCell (w : World) (a : Addr) (v : Value) (g : Nat) (h : g ≠ a.block) : (w.setCell a v).heap[g]? = w.heap[g]? := heap_setCell_other w a g v h

theorem fk_bareAgg (x0 x1 x2 x3 x4 x5 x6 : Int) : Tryz.prog.built 40 [(0, .int .i64 x0), (3, .int .i64 x1), (1, .int .i64 x2), (2, .int .i64 x3), (6, .int .i64 x4), (4, .int .i64 x5), (5, .int .i64 x6)] = some #[.int .i64 x0, .int .i64 x2, .int .i64 x3, .int .i64 x1, .int .i64 x5, .int .i64 x6, .int .i64 x4, .slice none 0 0] := by kernel_rfl

set_option maxRecDepth 100000 in
set_option maxHeartbeats 8000000 in
theorem readBlock_any (w : World) (b off len cap : Nat) (zs : List Nat) (hl : zs.length = len) (h56 : 56 ≤ len) (hz : ∀ x ∈ zs, x < 256) (hcp : len ≤ cap) (hc : ∀ q, q < len → w.cell? ⟨b, off + q, none⟩ = some (.int .u8 ((zs.getD q 0 : Nat) : Int))) :
    Calls Tryz.prog 46 #[.slice (some ⟨b, off, none⟩) len cap] w fun e w' => e = .returned (foB zs).agg ∧ Below w.heap.size w w' := by
  have HL := hidn hl
  have HZ := hidn hz
  have HC := hidn hc
  clear hl hz hc
  go_enter Tryz.func46, Tryz.ntmps46
  go_wp2_with fail
  go_loopw [7] (fun iv wr => ∃ (k : Nat), k ≤ 7 ∧ iv = .int .i64 (k : Int) ∧ Hid (wr.ownsRow w.heap.size 84 1 (.slice (some ⟨w.heap.size + 1, 0, none⟩) 7 7) 7 (fv7 zs k)) ∧ Hid (wr.heap[w.heap.size]? = some (.cells #[.int .i64 0, .int .i64 0, .int .i64 0, .int .i64 0, .int .i64 0, .int .i64 0, .int .i64 0, .slice none 0 0] 40 (0, 0))) ∧ Hid (Below w.heap.size w wr)) (fun iv _ => 7 - (intOf iv).toNat)
  case atStart =>
    refine ⟨0, by omega, rfl, hidn ⟨rfl, .inr ⟨w.heap.size + 1, 7, _, rfl, by omega, fk_at2 _ _ _, by omega, by decide, rfl, rfl⟩⟩, hidn (fk_at1 _ _ _), hidn (fk_below2 _ _ _)⟩
  case round =>
    obtain ⟨k, hk, rfl, HO, H0, HB⟩ := hrel
    have hcase : k = 0 ∨ k = 1 ∨ k = 2 ∨ k = 3 ∨ k = 4 ∨ k = 5 ∨ k = 6 ∨ k = 7 := by omega
    rcases hcase with rfl | rfl | rfl | rfl | rfl | rfl | rfl | rfl
    · have hcell := HO.out.cellAt 0 (by omega)
      have hfz := HO.out.frozenAt 0
      have hce := hcell
      rw [fv7_at zs 0 (by omega)] at hce
      have HG := hidn (get_some b (off + 0) 8 (cap - 0) ((zs.drop 0).take 8) wr (fk_plt HZ.out 0) (fk_plen HL.out 0 (by omega)) (by omega) (by omega) (fun j hj => fk_pcell HL.out (fun q hq => (HB.out.cell (block_lt_of_cell (HC.out q hq))).trans (HC.out q hq)) 0 (by omega) j hj))
      have hcap : (8 : Int) ≤ (cap : Int) := by omega
      have hcapn : 8 ≤ cap := by omega
      clear hcell
      go_wp2_with fail
      refine HG.out.mono ?_
      clear HG
      rintro e w1 ⟨rfl, rfl⟩
      obtain ⟨n, hn⟩ : ∃ n, n = getB 0 ((zs.drop 0).take 8) := ⟨_, rfl⟩
      rw [← hn]
      obtain ⟨x, hx⟩ : ∃ x, x = IntKind.i64.wrap (n : Int) := ⟨_, rfl⟩
      have hx' : IntKind.i64.wrap (n : Int) = x := hx.symm
      have HX : Hid (x = mN zs 0) := hidn (by rw [hx, hn]; rfl)
      clear hx hn
      go_wp2
      go_roundw
      case rel =>
        refine ⟨1, by omega, by first | rfl | go_num | simp, hidn ?_, hidn ?_, hidn (HB.out.setCell (by simp) _)⟩
        · have hst := (HO.out.stored 0 (.int .i64 x)).1
          rw [HX.out, fv7_set zs 0 (by omega)] at hst
          rw [HX.out]
          exact hst
        · exact (fk_setCell _ _ _ _ (by simp)).trans H0.out
      case measure => simp [intOf]
    · have hcell := HO.out.cellAt 1 (by omega)
      have hfz := HO.out.frozenAt 1
      have hce := hcell
      rw [fv7_at zs 1 (by omega)] at hce
      have HG := hidn (get_some b (off + 8) 8 (cap - 8) ((zs.drop 8).take 8) wr (fk_plt HZ.out 8) (fk_plen HL.out 8 (by omega)) (by omega) (by omega) (fun j hj => fk_pcell HL.out (fun q hq => (HB.out.cell (block_lt_of_cell (HC.out q hq))).trans (HC.out q hq)) 8 (by omega) j hj))
      have hcap : (16 : Int) ≤ (cap : Int) := by omega
      have hcapn : 16 ≤ cap := by omega
      clear hcell
      go_wp2_with fail
      refine HG.out.mono ?_
      clear HG
      rintro e w1 ⟨rfl, rfl⟩
      obtain ⟨n, hn⟩ : ∃ n, n = getB 0 ((zs.drop 8).take 8) := ⟨_, rfl⟩
      rw [← hn]
      obtain ⟨x, hx⟩ : ∃ x, x = IntKind.i64.wrap (n : Int) := ⟨_, rfl⟩
      have hx' : IntKind.i64.wrap (n : Int) = x := hx.symm
      have HX : Hid (x = mN zs 1) := hidn (by rw [hx, hn]; rfl)
      clear hx hn
      go_wp2
      go_roundw
      case rel =>
        refine ⟨2, by omega, by first | rfl | go_num | simp, hidn ?_, hidn ?_, hidn (HB.out.setCell (by simp) _)⟩
        · have hst := (HO.out.stored 1 (.int .i64 x)).1
          rw [HX.out, fv7_set zs 1 (by omega)] at hst
          rw [HX.out]
          exact hst
        · exact (fk_setCell _ _ _ _ (by simp)).trans H0.out
      case measure => simp [intOf]
    · have hcell := HO.out.cellAt 2 (by omega)
      have hfz := HO.out.frozenAt 2
      have hce := hcell
      rw [fv7_at zs 2 (by omega)] at hce
      have HG := hidn (get_some b (off + 16) 8 (cap - 16) ((zs.drop 16).take 8) wr (fk_plt HZ.out 16) (fk_plen HL.out 16 (by omega)) (by omega) (by omega) (fun j hj => fk_pcell HL.out (fun q hq => (HB.out.cell (block_lt_of_cell (HC.out q hq))).trans (HC.out q hq)) 16 (by omega) j hj))
      have hcap : (24 : Int) ≤ (cap : Int) := by omega
      have hcapn : 24 ≤ cap := by omega
      clear hcell
      go_wp2_with fail
      refine HG.out.mono ?_
      clear HG
      rintro e w1 ⟨rfl, rfl⟩
      obtain ⟨n, hn⟩ : ∃ n, n = getB 0 ((zs.drop 16).take 8) := ⟨_, rfl⟩
      rw [← hn]
      obtain ⟨x, hx⟩ : ∃ x, x = IntKind.i64.wrap (n : Int) := ⟨_, rfl⟩
      have hx' : IntKind.i64.wrap (n : Int) = x := hx.symm
      have HX : Hid (x = mN zs 2) := hidn (by rw [hx, hn]; rfl)
      clear hx hn
      go_wp2
      go_roundw
      case rel =>
        refine ⟨3, by omega, by first | rfl | go_num | simp, hidn ?_, hidn ?_, hidn (HB.out.setCell (by simp) _)⟩
        · have hst := (HO.out.stored 2 (.int .i64 x)).1
          rw [HX.out, fv7_set zs 2 (by omega)] at hst
          rw [HX.out]
          exact hst
        · exact (fk_setCell _ _ _ _ (by simp)).trans H0.out
      case measure => simp [intOf]
    · have hcell := HO.out.cellAt 3 (by omega)
      have hfz := HO.out.frozenAt 3
      have hce := hcell
      rw [fv7_at zs 3 (by omega)] at hce
      have HG := hidn (get_some b (off + 24) 8 (cap - 24) ((zs.drop 24).take 8) wr (fk_plt HZ.out 24) (fk_plen HL.out 24 (by omega)) (by omega) (by omega) (fun j hj => fk_pcell HL.out (fun q hq => (HB.out.cell (block_lt_of_cell (HC.out q hq))).trans (HC.out q hq)) 24 (by omega) j hj))
      have hcap : (32 : Int) ≤ (cap : Int) := by omega
      have hcapn : 32 ≤ cap := by omega
      clear hcell
      go_wp2_with fail
      refine HG.out.mono ?_
      clear HG
      rintro e w1 ⟨rfl, rfl⟩
      obtain ⟨n, hn⟩ : ∃ n, n = getB 0 ((zs.drop 24).take 8) := ⟨_, rfl⟩
      rw [← hn]
      obtain ⟨x, hx⟩ : ∃ x, x = IntKind.i64.wrap (n : Int) := ⟨_, rfl⟩
      have hx' : IntKind.i64.wrap (n : Int) = x := hx.symm
      have HX : Hid (x = mN zs 3) := hidn (by rw [hx, hn]; rfl)
      clear hx hn
      go_wp2
      go_roundw
      case rel =>
        refine ⟨4, by omega, by first | rfl | go_num | simp, hidn ?_, hidn ?_, hidn (HB.out.setCell (by simp) _)⟩
        · have hst := (HO.out.stored 3 (.int .i64 x)).1
          rw [HX.out, fv7_set zs 3 (by omega)] at hst
          rw [HX.out]
          exact hst
        · exact (fk_setCell _ _ _ _ (by simp)).trans H0.out
      case measure => simp [intOf]
    · have hcell := HO.out.cellAt 4 (by omega)
      have hfz := HO.out.frozenAt 4
      have hce := hcell
      rw [fv7_at zs 4 (by omega)] at hce
      have HG := hidn (get_some b (off + 32) 8 (cap - 32) ((zs.drop 32).take 8) wr (fk_plt HZ.out 32) (fk_plen HL.out 32 (by omega)) (by omega) (by omega) (fun j hj => fk_pcell HL.out (fun q hq => (HB.out.cell (block_lt_of_cell (HC.out q hq))).trans (HC.out q hq)) 32 (by omega) j hj))
      have hcap : (40 : Int) ≤ (cap : Int) := by omega
      have hcapn : 40 ≤ cap := by omega
      clear hcell
      go_wp2_with fail
      refine HG.out.mono ?_
      clear HG
      rintro e w1 ⟨rfl, rfl⟩
      obtain ⟨n, hn⟩ : ∃ n, n = getB 0 ((zs.drop 32).take 8) := ⟨_, rfl⟩
      rw [← hn]
      obtain ⟨x, hx⟩ : ∃ x, x = IntKind.i64.wrap (n : Int) := ⟨_, rfl⟩
      have hx' : IntKind.i64.wrap (n : Int) = x := hx.symm
      have HX : Hid (x = mN zs 4) := hidn (by rw [hx, hn]; rfl)
      clear hx hn
      go_wp2
      go_roundw
      case rel =>
        refine ⟨5, by omega, by first | rfl | go_num | simp, hidn ?_, hidn ?_, hidn (HB.out.setCell (by simp) _)⟩
        · have hst := (HO.out.stored 4 (.int .i64 x)).1
          rw [HX.out, fv7_set zs 4 (by omega)] at hst
          rw [HX.out]
          exact hst
        · exact (fk_setCell _ _ _ _ (by simp)).trans H0.out
      case measure => simp [intOf]
    · have hcell := HO.out.cellAt 5 (by omega)
      have hfz := HO.out.frozenAt 5
      have hce := hcell
      rw [fv7_at zs 5 (by omega)] at hce
      have HG := hidn (get_some b (off + 40) 8 (cap - 40) ((zs.drop 40).take 8) wr (fk_plt HZ.out 40) (fk_plen HL.out 40 (by omega)) (by omega) (by omega) (fun j hj => fk_pcell HL.out (fun q hq => (HB.out.cell (block_lt_of_cell (HC.out q hq))).trans (HC.out q hq)) 40 (by omega) j hj))
      have hcap : (48 : Int) ≤ (cap : Int) := by omega
      have hcapn : 48 ≤ cap := by omega
      clear hcell
      go_wp2_with fail
      refine HG.out.mono ?_
      clear HG
      rintro e w1 ⟨rfl, rfl⟩
      obtain ⟨n, hn⟩ : ∃ n, n = getB 0 ((zs.drop 40).take 8) := ⟨_, rfl⟩
      rw [← hn]
      obtain ⟨x, hx⟩ : ∃ x, x = IntKind.i64.wrap (n : Int) := ⟨_, rfl⟩
      have hx' : IntKind.i64.wrap (n : Int) = x := hx.symm
      have HX : Hid (x = mN zs 5) := hidn (by rw [hx, hn]; rfl)
      clear hx hn
      go_wp2
      go_roundw
      case rel =>
        refine ⟨6, by omega, by first | rfl | go_num | simp, hidn ?_, hidn ?_, hidn (HB.out.setCell (by simp) _)⟩
        · have hst := (HO.out.stored 5 (.int .i64 x)).1
          rw [HX.out, fv7_set zs 5 (by omega)] at hst
          rw [HX.out]
          exact hst
        · exact (fk_setCell _ _ _ _ (by simp)).trans H0.out
      case measure => simp [intOf]
    · have hcell := HO.out.cellAt 6 (by omega)
      have hfz := HO.out.frozenAt 6
      have hce := hcell
      rw [fv7_at zs 6 (by omega)] at hce
      have HG := hidn (get_some b (off + 48) 8 (cap - 48) ((zs.drop 48).take 8) wr (fk_plt HZ.out 48) (fk_plen HL.out 48 (by omega)) (by omega) (by omega) (fun j hj => fk_pcell HL.out (fun q hq => (HB.out.cell (block_lt_of_cell (HC.out q hq))).trans (HC.out q hq)) 48 (by omega) j hj))
      have hcap : (56 : Int) ≤ (cap : Int) := by omega
      have hcapn : 56 ≤ cap := by omega
      clear hcell
      go_wp2_with fail
      refine HG.out.mono ?_
      clear HG
      rintro e w1 ⟨rfl, rfl⟩
      obtain ⟨n, hn⟩ : ∃ n, n = getB 0 ((zs.drop 48).take 8) := ⟨_, rfl⟩
      rw [← hn]
      obtain ⟨x, hx⟩ : ∃ x, x = IntKind.i64.wrap (n : Int) := ⟨_, rfl⟩
      have hx' : IntKind.i64.wrap (n : Int) = x := hx.symm
      have HX : Hid (x = mN zs 6) := hidn (by rw [hx, hn]; rfl)
      clear hx hn
      go_wp2
      go_roundw
      case rel =>
        refine ⟨7, by omega, by first | rfl | go_num | simp, hidn ?_, hidn ?_, hidn (HB.out.setCell (by simp) _)⟩
        · have hst := (HO.out.stored 6 (.int .i64 x)).1
          rw [HX.out, fv7_set zs 6 (by omega)] at hst
          rw [HX.out]
          exact hst
        · exact (fk_setCell _ _ _ _ (by simp)).trans H0.out
      case measure => simp [intOf]
    · have hE : fv7 zs 7 = [.int .i64 (mN zs 0), .int .i64 (mN zs 1), .int .i64 (mN zs 2), .int .i64 (mN zs 3), .int .i64 (mN zs 4), .int .i64 (mN zs 5), .int .i64 (mN zs 6)] := rfl
      have hO := HO.out
      rw [hE] at hO
      obtain ⟨x0, hx0⟩ : ∃ x, mN zs 0 = x := ⟨_, rfl⟩
      obtain ⟨x1, hx1⟩ : ∃ x, mN zs 1 = x := ⟨_, rfl⟩
      obtain ⟨x2, hx2⟩ : ∃ x, mN zs 2 = x := ⟨_, rfl⟩
      obtain ⟨x3, hx3⟩ : ∃ x, mN zs 3 = x := ⟨_, rfl⟩
      obtain ⟨x4, hx4⟩ : ∃ x, mN zs 4 = x := ⟨_, rfl⟩
      obtain ⟨x5, hx5⟩ : ∃ x, mN zs 5 = x := ⟨_, rfl⟩
      obtain ⟨x6, hx6⟩ : ∃ x, mN zs 6 = x := ⟨_, rfl⟩
      have HF : Hid ((foB zs).agg = .agg #[.int .i64 x0, .int .i64 x2, .int .i64 x3, .int .i64 x1, .int .i64 x5, .int .i64 x6, .int .i64 x4, .slice none 0 0]) := hidn (by rw [← hx0, ← hx1, ← hx2, ← hx3, ← hx4, ← hx5, ← hx6]; rfl)
      rw [hx0, hx1, hx2, hx3, hx4, hx5, hx6] at hO
      clear hx0 hx1 hx2 hx3 hx4 hx5 hx6
      have hc0 : wr.cell? ⟨w.heap.size + 1, 0, none⟩ = some (.int .i64 x0) := hO.cellAt 0 (by omega)
      have hc1 : wr.cell? ⟨w.heap.size + 1, 1, none⟩ = some (.int .i64 x1) := hO.cellAt 1 (by omega)
      have hc2 : wr.cell? ⟨w.heap.size + 1, 2, none⟩ = some (.int .i64 x2) := hO.cellAt 2 (by omega)
      have hc3 : wr.cell? ⟨w.heap.size + 1, 3, none⟩ = some (.int .i64 x3) := hO.cellAt 3 (by omega)
      have hc4 : wr.cell? ⟨w.heap.size + 1, 4, none⟩ = some (.int .i64 x4) := hO.cellAt 4 (by omega)
      have hc5 : wr.cell? ⟨w.heap.size + 1, 5, none⟩ = some (.int .i64 x5) := hO.cellAt 5 (by omega)
      have hc6 : wr.cell? ⟨w.heap.size + 1, 6, none⟩ = some (.int .i64 x6) := hO.cellAt 6 (by omega)
      have hbl := fk_bareAgg x0 x1 x2 x3 x4 x5 x6
      clear hO hE
      simp only [show ((7 : Nat) : Int) = 7 from rfl]
      repeat (first
        | (with_reducible refine wpList_store_row (by rfl) 40 (.tmp 2) (.tmp 40) (by rfl) w.heap.size #[.int .i64 x0, .int .i64 x2, .int .i64 x3, .int .i64 x1, .int .i64 x5, .int .i64 x6, .int .i64 x4, .slice none 0 0] (by kernel_rfl) (by kernel_rfl) 40 #[.int .i64 0, .int .i64 0, .int .i64 0, .int .i64 0, .int .i64 0, .int .i64 0, .int .i64 0, .slice none 0 0] H0.out (by kernel_rfl) (by kernel_rfl) (by kernel_rfl) ?_)
        | go_values | go_skip | go_guarded | go_step | go_upon)
      exact bodyPost_ret (v := .agg #[.int .i64 x0, .int .i64 x2, .int .i64 x3, .int .i64 x1, .int .i64 x5, .int .i64 x6, .int .i64 x4, .slice none 0 0]) (results_cell_row rfl _ _ w.heap.size 40 _ (0, 0) _ rfl (setRow_heap _ _ _ _ _ _ H0.out) Tryz.underlying40 rfl (by kernel_rfl)) rfl ⟨by rw [HF.out], below_setRow HB.out (Nat.le_refl _) _⟩

end Go.Proofs.YteammmhlpinhfaaGreatDoor
