/- anchor: Encode. -/
import Derived.Test.YtdppolelakbbiaaGreatDoorAnA
import Derived.Test.YtdppolelakbbiaaGreatDoorMg
import Derived.Laws.ResultCell
namespace Go.Proofs.YtdppolelakbbiaaGreatDoor
open Go.RowKit Go.Maps
set_option linter.unusedVariables false
theorem byInfoA : ∃ (i0 : TypeInfo) (z0 : Value), Tryz.prog.info? 5 = some i0 ∧ i0.zero = some z0 ∧ i0.size = 1 ∧ i0.bytes = 1 ∧ z0.cells.size = 1 := by
 obtain ⟨i0, hi, hz0, hz1, hz2⟩ := info_parts Tryz.info5
 exact ⟨i0, _, hi, hz0, hz1, hz2, rfl⟩
theorem vb_app (a b : List Nat) : vb (a ++ b) = vb a ++ vb b := by simp [vb]
theorem own_belowA {w w' : World} {base e n : Nat} {v : Value} {xs : List Value} (h : w.ownsRow base e 1 v n xs) (hb : Below w.heap.size w w') : w'.ownsRow base e 1 v n xs := by
 obtain ⟨hl, h1⟩ := h
 refine ⟨hl, ?_⟩
 rcases h1 with h1 | ⟨g, cap, cur, hv, hg, hh, r⟩
 ·
  exact .inl h1
 ·
  exact .inr ⟨g, cap, cur, hv, hg, (hb.block g (lQ3.1 hh).1).trans hh, r⟩
theorem wrapU (x : Int) : IntKind.u64.wrap x = (u64 x : Int) := by rw [IntKind.wrap_u64]; unfold u64; omega
set_option maxHeartbeats 1000000 in
theorem words_any (w : World) (b off len cap : Nat) (xs : List Int) (hl : xs.length = len) (hm : len ≤ 10) (hc : ∀ (j : Nat) (x : Int), xs[j]? = some x → w.cell? ⟨b, off + j, none⟩ = some (.int .i64 x)) :
  Calls Tryz.prog 120 #[.slice (some ⟨b, off, none⟩) len cap] w fun e w' => ∃ v, e = .returned v ∧ w'.ownsRow w.heap.size 5 1 v (8 * len) (vb (wordsB xs)) ∧ Below w.heap.size w w' := by
 obtain ⟨i0, z0, hi, hz0, hz1, hz2, hzc⟩ := byInfoA
 have HL := hidn hl
 have HC := hidn hc
 clear hl hc
 go_enter Tryz.func120, Tryz.ntmps120
 go_wp2_with fail
 go_loopw [3, 8] (fun bv iv wr => ∃ k : Nat, k ≤ len ∧ iv = .int .i64 (k : Int) ∧ Hid (wr.ownsRow w.heap.size 5 1 bv (8 * k) (vb (wordsB (xs.take k)))) ∧ Hid (Below w.heap.size w wr)) (fun _ iv _ => len - (intOf iv).toNat)
 case atStart => exact ⟨0, Nat.zero_le _, rfl, hidn (World.ownsRow_nil _ _ _ _), hidn (Below.refl _ _)⟩
 case round =>
  obtain ⟨k, hk, rfl, HO, HB⟩ := hrel
  by_cases hlt : k < len
  ·
   have hlt2 : (k : Int) < (len : Int) := by omega
   obtain ⟨x, hx⟩ : ∃ x, xs[k]? = some x := ⟨_, lQ6 (by rw [HL.out]; exact hlt)⟩
   have hcx := HC.out k x hx
   have hcx2 := (HB.out.cell (block_lt_of_cell hcx)).trans hcx
   have HX := hidn hx
   obtain ⟨n, hn⟩ : ∃ n, n = u64 x := ⟨_, rfl⟩
   have hw1 : IntKind.u64.wrap x = (n : Int) := by rw [wrapU, hn]
   have hn64 : n < 18446744073709551616 := by rw [hn]; exact u64_lt x
   have HN := hidn hn
   obtain ⟨va, vc, e9⟩ : ∃ va vc, u3 = Value.slice va (8 * k) vc := by
    rcases HO.out.2 with ⟨h1, h2⟩ | ⟨g, cp, cur, h1, _⟩
    ·
     exact ⟨none, 0, by rw [h1, h2]⟩
    ·
     exact ⟨_, _, h1⟩
   clear hx hcx hn
   go_wp2_with fail
   refine (put_any n 8 8 _ hn64 (by omega)).mono ?_
   rintro e w1 ⟨rfl, hown1, hb1⟩
   have HB1 := hidn (HB.out.trans (hb1.mono HB.out.size))
   have hO1 := own_belowA HO.out hb1
   obtain ⟨v3, w3, hrun, hown3, hgr3⟩ := appAny w1 w.heap.size 28 28 5 i0 z0 1 1 Tryz.underlying28 hi hz0 hz1 hz2 hzc (by decide) u3 (8 * k) (vb (wordsB (xs.take k))) hO1 HB1.out.size (some ⟨wr.heap.size, 0, none⟩) 8 8 (vb (putB n 8)) (by rw [length_vb, putB_length]) (fun e => by cases e) (fun x hx j u hu => by cases hx; exact src_of_own hown1 j u hu) (one_vb _) (by unfold maxLen; omega) (by omega)
   have HB3 : Hid (Below w.heap.size w w3) := hidn (HB1.out.grown hgr3 HB1.out.size (fun k hk => (hO1.lt k hk).1))
   have HO3 : Hid (w3.ownsRow w.heap.size 5 1 v3 (8 * (k + 1)) (vb (wordsB (xs.take (k + 1))))) := hidn (by
    rw [List.take_add_one, HX.out, Option.toList_some, wordsB_snoc, vb_app, ← HN.out, Nat.mul_add]
    exact hown3)
   have HRUN := hidn hrun
   subst e9
   clear hrun hown3 hgr3 hO1 hown1 hb1 HO
   go_wp2_with (at_builtin; refine wpList_app_runA rfl _ _ 28 28 rfl rfl _ _ _ rfl rfl HRUN.out ?_; clear HRUN)
   go_roundw
   case rel => exact ⟨k + 1, hlt, by first | rfl | go_num | simp, HO3, HB3⟩
   case measure => simp [intOf]; omega
  ·
   have hlt2 : ¬ (k : Int) < (len : Int) := by omega
   have hkl : k = len := by omega
   subst hkl
   have HO2 := HO.out
   rw [List.take_of_length_le (by rw [HL.out]; omega)] at HO2
   have HO4 := hidn HO2
   clear HO2 HO
   go_wp2
   go_ret
   exact ⟨_, rfl, HO4.out, HB.out⟩
end Go.Proofs.YtdppolelakbbiaaGreatDoor

namespace Go.Proofs.YtdppolelakbbiaaGreatDoor
open Go.RowKit Go.Maps
set_option linter.unusedVariables false
theorem alloc_at2 (w : World) (a b : Obj) : ((w.alloc a).alloc b).heap[w.heap.size + 1]? = some b := by
 have h := heap_alloc_new (w.alloc a) b
 rwa [World.size_alloc] at h
theorem alloc_at1 (w : World) (a b : Obj) : ((w.alloc a).alloc b).heap[w.heap.size]? = some a := by
 rw [Below.heap_alloc _ _ _ (by rw [World.size_alloc]; omega)]
 exact heap_alloc_new w a
theorem own_monoA {w : World} {base base' e n : Nat} {v : Value} {xs : List Value} (h : w.ownsRow base e 1 v n xs) (hb : base' ≤ base) : w.ownsRow base' e 1 v n xs := by
 obtain ⟨hl, h1⟩ := h
 refine ⟨hl, ?_⟩
 rcases h1 with h1 | ⟨g, cap, cur, hv, hg, r⟩
 ·
  exact .inl h1
 ·
  exact .inr ⟨g, cap, cur, hv, by omega, r⟩
theorem ten_cells {w : World} {g : Nat} {t : TypeId} {r : Nat × Nat} {y0 y1 y2 y3 y4 y5 y6 y7 y8 y9 : Int} (h : w.heap[g]? = some (.cells (tQ y0 y1 y2 y3 y4 y5 y6 y7 y8 y9) t r)) : w.cell? ⟨g, 0, none⟩ = some (.int .i64 y0) ∧ w.cell? ⟨g, 1, none⟩ = some (.int .i64 y1) ∧ w.cell? ⟨g, 2, none⟩ = some (.int .i64 y2) ∧ w.cell? ⟨g, 3, none⟩ = some (.int .i64 y3) ∧ w.cell? ⟨g, 4, none⟩ = some (.int .i64 y4) ∧ w.cell? ⟨g, 5, none⟩ = some (.int .i64 y5) ∧ w.cell? ⟨g, 6, none⟩ = some (.int .i64 y6) ∧ w.cell? ⟨g, 7, none⟩ = some (.int .i64 y7) ∧ w.cell? ⟨g, 8, none⟩ = some (.int .i64 y8) ∧ w.cell? ⟨g, 9, none⟩ = some (.int .i64 y9) := by
 refine ⟨?_, ?_, ?_, ?_, ?_, ?_, ?_, ?_, ?_, ?_⟩ <;> (rw [cell_of_row _ _ _ _ _ _ h]; rfl)
set_option maxHeartbeats 1000000 in
theorem fieldsOf_any (w : World) (y0 y1 y2 y3 y4 y5 y6 y7 y8 y9 : Int) :
  Calls Tryz.prog 119 #[.agg (tQ y0 y1 y2 y3 y4 y5 y6 y7 y8 y9)] w fun e w' => e = .returned (.agg (tQ y0 y1 y2 y3 y4 y5 y6 y7 y8 y9)) ∧ Below w.heap.size w w' := by
 go_enter Tryz.func119, Tryz.ntmps119
 go_wp2
 exact bodyPost_ret (v := .agg (tQ y0 y1 y2 y3 y4 y5 y6 y7 y8 y9)) (results_cell_row rfl _ _ (w.heap.size + 1) 163 _ (0, 0) _ rfl (alloc_at2 _ _ _) Tryz.underlying163 rfl (by kernel_rfl)) rfl ⟨rfl, below2 _ _ _⟩
set_option maxHeartbeats 1000000 in
theorem encode_no (w : World) (y0 y1 y2 y3 y4 y5 y6 y7 y8 y9 : Int) (h : ancB y0 y1 y2 y3 y4 y7 y8 y9 = false) :
  Calls Tryz.prog 77 #[.agg (tQ y0 y1 y2 y3 y4 y5 y6 y7 y8 y9)] w fun e w' => e = .returned (.tuple #[.slice none 0 0, .int .i64 1]) ∧ Below w.heap.size w w' := by
 have HC := hidn (can_any)
 go_enter Tryz.func77, Tryz.ntmps77
 go_wp2_with fail
 refine (HC.out _ y0 y1 y2 y3 y4 y5 y6 y7 y8 y9).mono ?_
 rw [h]
 rintro e w1 ⟨rfl, hb1⟩
 have HB1 := hidn ((below1 w _).trans (hb1.mono (below1 w _).size))
 clear hb1
 go_wp2
 go_ret2
 exact ⟨rfl, HB1.out⟩
set_option maxHeartbeats 2000000 in
theorem encode_yes (w : World) (y0 y1 y2 y3 y4 y5 y6 y7 y8 y9 : Int) (h : ancB y0 y1 y2 y3 y4 y7 y8 y9 = true) :
  Calls Tryz.prog 77 #[.agg (tQ y0 y1 y2 y3 y4 y5 y6 y7 y8 y9)] w fun e w' => ∃ v, e = .returned (.tuple #[v, .int .i64 0]) ∧ w'.ownsRow w.heap.size 5 1 v 80 (vb (wordsB [y0, y1, y2, y3, y4, y5, y6, y7, y8, y9])) ∧ Below w.heap.size w w' := by
 have HC := hidn (can_any)
 go_enter Tryz.func77, Tryz.ntmps77
 go_wp2_with fail
 refine (HC.out _ y0 y1 y2 y3 y4 y5 y6 y7 y8 y9).mono ?_
 rw [h]
 rintro e w1 ⟨rfl, hb1⟩
 have HB1 := hidn ((below1 w _).trans (hb1.mono (below1 w _).size))
 obtain ⟨hc0, hc1, hc2, hc3, hc4, hc5, hc6, hc7, hc8, hc9⟩ := ten_cells ((hb1.block w.heap.size (by rw [World.size_alloc]; omega)).trans (heap_alloc_new w _))
 clear hb1
 go_wp2_with fail
 refine (fieldsOf_any _ y0 y1 y2 y3 y4 y5 y6 y7 y8 y9).mono ?_
 rintro e w2 ⟨rfl, hb2⟩
 have HB2 := hidn (HB1.out.trans (hb2.mono HB1.out.size))
 clear hb2 hc0 hc1 hc2 hc3 hc4 hc5 hc6 hc7 hc8 hc9
 go_wp2_with fail
 refine (words_any _ _ 0 10 10 [y0, y1, y2, y3, y4, y5, y6, y7, y8, y9] rfl (by omega) ?_).mono ?_
 ·
  exact ints_at _ _ (by first | rfl | simp [World.size_alloc]) [y0, y1, y2, y3, y4, y5, y6, y7, y8, y9] _ _
 rintro e w3 ⟨v3, rfl, hown, hb3⟩
 have HO := hidn hown
 have HB3 := hidn hb3
 clear hown hb3
 go_wp2
 go_ret2
 have hb4 := (HB2.out.alloc HB2.out.size _).trans (HB3.out.mono (HB2.out.alloc HB2.out.size _).size)
 exact ⟨_, rfl, own_monoA HO.out (HB2.out.alloc HB2.out.size _).size, hb4⟩
end Go.Proofs.YtdppolelakbbiaaGreatDoor

namespace Go.Proofs.YtdppolelakbbiaaGreatDoor
open Go.RowKit Go.Maps
set_option linter.unusedVariables false
def fld (zs : List Nat) (j : Nat) : Int := IntKind.i64.wrap ((getB 0 ((zs.drop (j * 8)).take 8) : Nat) : Int)
def fieldsI (zs : List Nat) : List Int := (List.range 10).map (fld zs)
def fv (zs : List Nat) (k : Nat) : List Value := (List.range 10).map fun j => if j < k then Value.int .i64 (fld zs j) else .int .i64 0
theorem fv_at (zs : List Nat) (k : Nat) (hk : k < 10) : (fv zs k)[k]? = some (.int .i64 0) := by
 simp [fv, List.getElem?_range hk]
theorem fv_set (zs : List Nat) (k : Nat) (hk : k < 10) : (fv zs k).set k (.int .i64 (fld zs k)) = fv zs (k + 1) := by
 apply List.ext_getElem?
 intro j
 rw [List.getElem?_set]
 by_cases hj : k = j
 ·
  subst hj
  simp [fv, hk]
 ·
  simp only [hj, if_false, fv, List.getElem?_map]
  by_cases h10 : j < 10
  ·
   simp only [List.getElem?_range h10, Option.map_some]
   by_cases h : j < k
   ·
    rw [if_pos h, if_pos (by omega)]
   ·
    rw [if_neg h, if_neg (by omega)]
  ·
   rw [List.getElem?_eq_none (by simp; omega)]
   rfl
theorem part_lt {zs : List Nat} (h : ∀ x ∈ zs, x < 256) (o : Nat) : ∀ x ∈ (zs.drop o).take 8, x < 256 := fun x hx => h x (List.mem_of_mem_drop (List.mem_of_mem_take hx))
theorem part_len {zs : List Nat} (h : zs.length = 80) (o : Nat) (ho : o ≤ 72) : 8 = ((zs.drop o).take 8).length := by simp; omega
theorem part_cell {w : World} {b off : Nat} {zs : List Nat} (hl : zs.length = 80) (h : ∀ q, q < 80 → w.cell? ⟨b, off + q, none⟩ = some (.int .u8 ((zs.getD q 0 : Nat) : Int))) (o : Nat) (ho : o ≤ 72) (j : Nat) (hj : j < 8) : w.cell? ⟨b, off + o + j, none⟩ = some (.int .u8 ((((zs.drop o).take 8).getD j 0 : Nat) : Int)) := by
 rw [Nat.add_assoc, h (o + j) (by omega)]
 simp [List.getD_eq_getElem?_getD, hj]
theorem setCell_block (w : World) (a : Addr) (v : Value) (g : Nat) (h : g ≠ a.block) : (w.setCell a v).heap[g]? = w.heap[g]? := heap_setCell_other w a g v h
set_option maxRecDepth 100000 in
set_option maxHeartbeats 8000000 in
theorem ancRead_any (w : World) (b off cap : Nat) (zs : List Nat) (hl : zs.length = 80) (hz : ∀ x ∈ zs, x < 256) (hcp : 80 ≤ cap) (hc : ∀ q, q < 80 → w.cell? ⟨b, off + q, none⟩ = some (.int .u8 ((zs.getD q 0 : Nat) : Int))) (x0 x1 x2 x3 x4 x5 x6 x7 x8 x9 : Int) (hx : fieldsI zs = [x0, x1, x2, x3, x4, x5, x6, x7, x8, x9]) :
  Calls Tryz.prog 123 #[.slice (some ⟨b, off, none⟩) 80 cap] w fun e w' => e = .returned (.agg (tQ x0 x1 x2 x3 x4 x5 x6 x7 x8 x9)) ∧ Below w.heap.size w w' := by
 have HL := hidn hl
 have HZ := hidn hz
 have HC := hidn hc
 have HXS := hidn hx
 clear hl hz hc hx
 go_enter Tryz.func123, Tryz.ntmps123
 go_wp2_with fail
 go_loopw [7] (fun iv wr => ∃ (k : Nat), k ≤ 10 ∧ iv = .int .i64 (k : Int) ∧ Hid (wr.ownsRow w.heap.size 163 1 (.slice (some ⟨w.heap.size + 1, 0, none⟩) 10 10) 10 (fv zs k)) ∧ Hid (wr.heap[w.heap.size]? = some (.cells (tQ 0 0 0 0 0 0 0 0 0 0) 163 (0, 0))) ∧ Hid (Below w.heap.size w wr)) (fun iv _ => 10 - (intOf iv).toNat)
 case atStart =>
  refine ⟨0, by omega, rfl, hidn ⟨rfl, .inr ⟨w.heap.size + 1, 10, _, rfl, by omega, alloc_at2 _ _ _, by omega, by decide, rfl, rfl⟩⟩, hidn (alloc_at1 _ _ _), hidn (below2 _ _ _)⟩
 case round =>
  obtain ⟨k, hk, rfl, HO, H0, HB⟩ := hrel
  have hcase : k = 0 ∨ k = 1 ∨ k = 2 ∨ k = 3 ∨ k = 4 ∨ k = 5 ∨ k = 6 ∨ k = 7 ∨ k = 8 ∨ k = 9 ∨ k = 10 := by omega
  rcases hcase with rfl | rfl | rfl | rfl | rfl | rfl | rfl | rfl | rfl | rfl | rfl
  ·
   have hcell := HO.out.cellAt 0 (by omega)
   have hfz := HO.out.frozenAt 0
   have hce := hcell
   rw [fv_at zs 0 (by omega)] at hce
   have HG := hidn (get_some b (off + 0) 8 (cap - 0) ((zs.drop 0).take 8) wr (part_lt HZ.out 0) (part_len HL.out 0 (by omega)) (by omega) (by omega) (fun j hj => part_cell HL.out (fun q hq => (HB.out.cell (block_lt_of_cell (HC.out q hq))).trans (HC.out q hq)) 0 (by omega) j hj))
   have hcap : (8 : Int) ≤ (cap : Int) := by omega
   have hcapn : 8 ≤ cap := by omega
   clear hcell
   go_wp2_with fail
   refine HG.out.mono ?_
   clear HG
   rintro e w1 ⟨rfl, rfl⟩
   obtain ⟨n, hn⟩ : ∃ n, n = getB 0 ((zs.drop 0).take 8) := ⟨_, rfl⟩
   rw [← hn]
   obtain ⟨x, hx⟩ : ∃ x, x = IntKind.i64.wrap (n : Int) := ⟨_, rfl⟩
   have hx' : IntKind.i64.wrap (n : Int) = x := hx.symm
   have HX : Hid (x = fld zs 0) := hidn (by rw [hx, hn]; rfl)
   clear hx hn
   go_wp2
   go_roundw
   case rel =>
    refine ⟨1, by omega, by first | rfl | go_num | simp, hidn ?_, hidn ?_, hidn (HB.out.setCell (by simp) _)⟩
    ·
     have hst := (HO.out.stored 0 (.int .i64 x)).1
     rw [HX.out, fv_set zs 0 (by omega)] at hst
     rw [HX.out]
     exact hst
    ·
     exact (setCell_block _ _ _ _ (by simp)).trans H0.out
   case measure => simp [intOf]
  ·
   have hcell := HO.out.cellAt 1 (by omega)
   have hfz := HO.out.frozenAt 1
   have hce := hcell
   rw [fv_at zs 1 (by omega)] at hce
   have HG := hidn (get_some b (off + 8) 8 (cap - 8) ((zs.drop 8).take 8) wr (part_lt HZ.out 8) (part_len HL.out 8 (by omega)) (by omega) (by omega) (fun j hj => part_cell HL.out (fun q hq => (HB.out.cell (block_lt_of_cell (HC.out q hq))).trans (HC.out q hq)) 8 (by omega) j hj))
   have hcap : (16 : Int) ≤ (cap : Int) := by omega
   have hcapn : 16 ≤ cap := by omega
   clear hcell
   go_wp2_with fail
   refine HG.out.mono ?_
   clear HG
   rintro e w1 ⟨rfl, rfl⟩
   obtain ⟨n, hn⟩ : ∃ n, n = getB 0 ((zs.drop 8).take 8) := ⟨_, rfl⟩
   rw [← hn]
   obtain ⟨x, hx⟩ : ∃ x, x = IntKind.i64.wrap (n : Int) := ⟨_, rfl⟩
   have hx' : IntKind.i64.wrap (n : Int) = x := hx.symm
   have HX : Hid (x = fld zs 1) := hidn (by rw [hx, hn]; rfl)
   clear hx hn
   go_wp2
   go_roundw
   case rel =>
    refine ⟨2, by omega, by first | rfl | go_num | simp, hidn ?_, hidn ?_, hidn (HB.out.setCell (by simp) _)⟩
    ·
     have hst := (HO.out.stored 1 (.int .i64 x)).1
     rw [HX.out, fv_set zs 1 (by omega)] at hst
     rw [HX.out]
     exact hst
    ·
     exact (setCell_block _ _ _ _ (by simp)).trans H0.out
   case measure => simp [intOf]
  ·
   have hcell := HO.out.cellAt 2 (by omega)
   have hfz := HO.out.frozenAt 2
   have hce := hcell
   rw [fv_at zs 2 (by omega)] at hce
   have HG := hidn (get_some b (off + 16) 8 (cap - 16) ((zs.drop 16).take 8) wr (part_lt HZ.out 16) (part_len HL.out 16 (by omega)) (by omega) (by omega) (fun j hj => part_cell HL.out (fun q hq => (HB.out.cell (block_lt_of_cell (HC.out q hq))).trans (HC.out q hq)) 16 (by omega) j hj))
   have hcap : (24 : Int) ≤ (cap : Int) := by omega
   have hcapn : 24 ≤ cap := by omega
   clear hcell
   go_wp2_with fail
   refine HG.out.mono ?_
   clear HG
   rintro e w1 ⟨rfl, rfl⟩
   obtain ⟨n, hn⟩ : ∃ n, n = getB 0 ((zs.drop 16).take 8) := ⟨_, rfl⟩
   rw [← hn]
   obtain ⟨x, hx⟩ : ∃ x, x = IntKind.i64.wrap (n : Int) := ⟨_, rfl⟩
   have hx' : IntKind.i64.wrap (n : Int) = x := hx.symm
   have HX : Hid (x = fld zs 2) := hidn (by rw [hx, hn]; rfl)
   clear hx hn
   go_wp2
   go_roundw
   case rel =>
    refine ⟨3, by omega, by first | rfl | go_num | simp, hidn ?_, hidn ?_, hidn (HB.out.setCell (by simp) _)⟩
    ·
     have hst := (HO.out.stored 2 (.int .i64 x)).1
     rw [HX.out, fv_set zs 2 (by omega)] at hst
     rw [HX.out]
     exact hst
    ·
     exact (setCell_block _ _ _ _ (by simp)).trans H0.out
   case measure => simp [intOf]
  ·
   have hcell := HO.out.cellAt 3 (by omega)
   have hfz := HO.out.frozenAt 3
   have hce := hcell
   rw [fv_at zs 3 (by omega)] at hce
   have HG := hidn (get_some b (off + 24) 8 (cap - 24) ((zs.drop 24).take 8) wr (part_lt HZ.out 24) (part_len HL.out 24 (by omega)) (by omega) (by omega) (fun j hj => part_cell HL.out (fun q hq => (HB.out.cell (block_lt_of_cell (HC.out q hq))).trans (HC.out q hq)) 24 (by omega) j hj))
   have hcap : (32 : Int) ≤ (cap : Int) := by omega
   have hcapn : 32 ≤ cap := by omega
   clear hcell
   go_wp2_with fail
   refine HG.out.mono ?_
   clear HG
   rintro e w1 ⟨rfl, rfl⟩
   obtain ⟨n, hn⟩ : ∃ n, n = getB 0 ((zs.drop 24).take 8) := ⟨_, rfl⟩
   rw [← hn]
   obtain ⟨x, hx⟩ : ∃ x, x = IntKind.i64.wrap (n : Int) := ⟨_, rfl⟩
   have hx' : IntKind.i64.wrap (n : Int) = x := hx.symm
   have HX : Hid (x = fld zs 3) := hidn (by rw [hx, hn]; rfl)
   clear hx hn
   go_wp2
   go_roundw
   case rel =>
    refine ⟨4, by omega, by first | rfl | go_num | simp, hidn ?_, hidn ?_, hidn (HB.out.setCell (by simp) _)⟩
    ·
     have hst := (HO.out.stored 3 (.int .i64 x)).1
     rw [HX.out, fv_set zs 3 (by omega)] at hst
     rw [HX.out]
     exact hst
    ·
     exact (setCell_block _ _ _ _ (by simp)).trans H0.out
   case measure => simp [intOf]
  ·
   have hcell := HO.out.cellAt 4 (by omega)
   have hfz := HO.out.frozenAt 4
   have hce := hcell
   rw [fv_at zs 4 (by omega)] at hce
   have HG := hidn (get_some b (off + 32) 8 (cap - 32) ((zs.drop 32).take 8) wr (part_lt HZ.out 32) (part_len HL.out 32 (by omega)) (by omega) (by omega) (fun j hj => part_cell HL.out (fun q hq => (HB.out.cell (block_lt_of_cell (HC.out q hq))).trans (HC.out q hq)) 32 (by omega) j hj))
   have hcap : (40 : Int) ≤ (cap : Int) := by omega
   have hcapn : 40 ≤ cap := by omega
   clear hcell
   go_wp2_with fail
   refine HG.out.mono ?_
   clear HG
   rintro e w1 ⟨rfl, rfl⟩
   obtain ⟨n, hn⟩ : ∃ n, n = getB 0 ((zs.drop 32).take 8) := ⟨_, rfl⟩
   rw [← hn]
   obtain ⟨x, hx⟩ : ∃ x, x = IntKind.i64.wrap (n : Int) := ⟨_, rfl⟩
   have hx' : IntKind.i64.wrap (n : Int) = x := hx.symm
   have HX : Hid (x = fld zs 4) := hidn (by rw [hx, hn]; rfl)
   clear hx hn
   go_wp2
   go_roundw
   case rel =>
    refine ⟨5, by omega, by first | rfl | go_num | simp, hidn ?_, hidn ?_, hidn (HB.out.setCell (by simp) _)⟩
    ·
     have hst := (HO.out.stored 4 (.int .i64 x)).1
     rw [HX.out, fv_set zs 4 (by omega)] at hst
     rw [HX.out]
     exact hst
    ·
     exact (setCell_block _ _ _ _ (by simp)).trans H0.out
   case measure => simp [intOf]
  ·
   have hcell := HO.out.cellAt 5 (by omega)
   have hfz := HO.out.frozenAt 5
   have hce := hcell
   rw [fv_at zs 5 (by omega)] at hce
   have HG := hidn (get_some b (off + 40) 8 (cap - 40) ((zs.drop 40).take 8) wr (part_lt HZ.out 40) (part_len HL.out 40 (by omega)) (by omega) (by omega) (fun j hj => part_cell HL.out (fun q hq => (HB.out.cell (block_lt_of_cell (HC.out q hq))).trans (HC.out q hq)) 40 (by omega) j hj))
   have hcap : (48 : Int) ≤ (cap : Int) := by omega
   have hcapn : 48 ≤ cap := by omega
   clear hcell
   go_wp2_with fail
   refine HG.out.mono ?_
   clear HG
   rintro e w1 ⟨rfl, rfl⟩
   obtain ⟨n, hn⟩ : ∃ n, n = getB 0 ((zs.drop 40).take 8) := ⟨_, rfl⟩
   rw [← hn]
   obtain ⟨x, hx⟩ : ∃ x, x = IntKind.i64.wrap (n : Int) := ⟨_, rfl⟩
   have hx' : IntKind.i64.wrap (n : Int) = x := hx.symm
   have HX : Hid (x = fld zs 5) := hidn (by rw [hx, hn]; rfl)
   clear hx hn
   go_wp2
   go_roundw
   case rel =>
    refine ⟨6, by omega, by first | rfl | go_num | simp, hidn ?_, hidn ?_, hidn (HB.out.setCell (by simp) _)⟩
    ·
     have hst := (HO.out.stored 5 (.int .i64 x)).1
     rw [HX.out, fv_set zs 5 (by omega)] at hst
     rw [HX.out]
     exact hst
    ·
     exact (setCell_block _ _ _ _ (by simp)).trans H0.out
   case measure => simp [intOf]
  ·
   have hcell := HO.out.cellAt 6 (by omega)
   have hfz := HO.out.frozenAt 6
   have hce := hcell
   rw [fv_at zs 6 (by omega)] at hce
   have HG := hidn (get_some b (off + 48) 8 (cap - 48) ((zs.drop 48).take 8) wr (part_lt HZ.out 48) (part_len HL.out 48 (by omega)) (by omega) (by omega) (fun j hj => part_cell HL.out (fun q hq => (HB.out.cell (block_lt_of_cell (HC.out q hq))).trans (HC.out q hq)) 48 (by omega) j hj))
   have hcap : (56 : Int) ≤ (cap : Int) := by omega
   have hcapn : 56 ≤ cap := by omega
   clear hcell
   go_wp2_with fail
   refine HG.out.mono ?_
   clear HG
   rintro e w1 ⟨rfl, rfl⟩
   obtain ⟨n, hn⟩ : ∃ n, n = getB 0 ((zs.drop 48).take 8) := ⟨_, rfl⟩
   rw [← hn]
   obtain ⟨x, hx⟩ : ∃ x, x = IntKind.i64.wrap (n : Int) := ⟨_, rfl⟩
   have hx' : IntKind.i64.wrap (n : Int) = x := hx.symm
   have HX : Hid (x = fld zs 6) := hidn (by rw [hx, hn]; rfl)
   clear hx hn
   go_wp2
   go_roundw
   case rel =>
    refine ⟨7, by omega, by first | rfl | go_num | simp, hidn ?_, hidn ?_, hidn (HB.out.setCell (by simp) _)⟩
    ·
     have hst := (HO.out.stored 6 (.int .i64 x)).1
     rw [HX.out, fv_set zs 6 (by omega)] at hst
     rw [HX.out]
     exact hst
    ·
     exact (setCell_block _ _ _ _ (by simp)).trans H0.out
   case measure => simp [intOf]
  ·
   have hcell := HO.out.cellAt 7 (by omega)
   have hfz := HO.out.frozenAt 7
   have hce := hcell
   rw [fv_at zs 7 (by omega)] at hce
   have HG := hidn (get_some b (off + 56) 8 (cap - 56) ((zs.drop 56).take 8) wr (part_lt HZ.out 56) (part_len HL.out 56 (by omega)) (by omega) (by omega) (fun j hj => part_cell HL.out (fun q hq => (HB.out.cell (block_lt_of_cell (HC.out q hq))).trans (HC.out q hq)) 56 (by omega) j hj))
   have hcap : (64 : Int) ≤ (cap : Int) := by omega
   have hcapn : 64 ≤ cap := by omega
   clear hcell
   go_wp2_with fail
   refine HG.out.mono ?_
   clear HG
   rintro e w1 ⟨rfl, rfl⟩
   obtain ⟨n, hn⟩ : ∃ n, n = getB 0 ((zs.drop 56).take 8) := ⟨_, rfl⟩
   rw [← hn]
   obtain ⟨x, hx⟩ : ∃ x, x = IntKind.i64.wrap (n : Int) := ⟨_, rfl⟩
   have hx' : IntKind.i64.wrap (n : Int) = x := hx.symm
   have HX : Hid (x = fld zs 7) := hidn (by rw [hx, hn]; rfl)
   clear hx hn
   go_wp2
   go_roundw
   case rel =>
    refine ⟨8, by omega, by first | rfl | go_num | simp, hidn ?_, hidn ?_, hidn (HB.out.setCell (by simp) _)⟩
    ·
     have hst := (HO.out.stored 7 (.int .i64 x)).1
     rw [HX.out, fv_set zs 7 (by omega)] at hst
     rw [HX.out]
     exact hst
    ·
     exact (setCell_block _ _ _ _ (by simp)).trans H0.out
   case measure => simp [intOf]
  ·
   have hcell := HO.out.cellAt 8 (by omega)
   have hfz := HO.out.frozenAt 8
   have hce := hcell
   rw [fv_at zs 8 (by omega)] at hce
   have HG := hidn (get_some b (off + 64) 8 (cap - 64) ((zs.drop 64).take 8) wr (part_lt HZ.out 64) (part_len HL.out 64 (by omega)) (by omega) (by omega) (fun j hj => part_cell HL.out (fun q hq => (HB.out.cell (block_lt_of_cell (HC.out q hq))).trans (HC.out q hq)) 64 (by omega) j hj))
   have hcap : (72 : Int) ≤ (cap : Int) := by omega
   have hcapn : 72 ≤ cap := by omega
   clear hcell
   go_wp2_with fail
   refine HG.out.mono ?_
   clear HG
   rintro e w1 ⟨rfl, rfl⟩
   obtain ⟨n, hn⟩ : ∃ n, n = getB 0 ((zs.drop 64).take 8) := ⟨_, rfl⟩
   rw [← hn]
   obtain ⟨x, hx⟩ : ∃ x, x = IntKind.i64.wrap (n : Int) := ⟨_, rfl⟩
   have hx' : IntKind.i64.wrap (n : Int) = x := hx.symm
   have HX : Hid (x = fld zs 8) := hidn (by rw [hx, hn]; rfl)
   clear hx hn
   go_wp2
   go_roundw
   case rel =>
    refine ⟨9, by omega, by first | rfl | go_num | simp, hidn ?_, hidn ?_, hidn (HB.out.setCell (by simp) _)⟩
    ·
     have hst := (HO.out.stored 8 (.int .i64 x)).1
     rw [HX.out, fv_set zs 8 (by omega)] at hst
     rw [HX.out]
     exact hst
    ·
     exact (setCell_block _ _ _ _ (by simp)).trans H0.out
   case measure => simp [intOf]
  ·
   have hcell := HO.out.cellAt 9 (by omega)
   have hfz := HO.out.frozenAt 9
   have hce := hcell
   rw [fv_at zs 9 (by omega)] at hce
   have HG := hidn (get_some b (off + 72) 8 (cap - 72) ((zs.drop 72).take 8) wr (part_lt HZ.out 72) (part_len HL.out 72 (by omega)) (by omega) (by omega) (fun j hj => part_cell HL.out (fun q hq => (HB.out.cell (block_lt_of_cell (HC.out q hq))).trans (HC.out q hq)) 72 (by omega) j hj))
   have hcap : (80 : Int) ≤ (cap : Int) := by omega
   have hcapn : 80 ≤ cap := by omega
   clear hcell
   go_wp2_with fail
   refine HG.out.mono ?_
   clear HG
   rintro e w1 ⟨rfl, rfl⟩
   obtain ⟨n, hn⟩ : ∃ n, n = getB 0 ((zs.drop 72).take 8) := ⟨_, rfl⟩
   rw [← hn]
   obtain ⟨x, hx⟩ : ∃ x, x = IntKind.i64.wrap (n : Int) := ⟨_, rfl⟩
   have hx' : IntKind.i64.wrap (n : Int) = x := hx.symm
   have HX : Hid (x = fld zs 9) := hidn (by rw [hx, hn]; rfl)
   clear hx hn
   go_wp2
   go_roundw
   case rel =>
    refine ⟨10, by omega, by first | rfl | go_num | simp, hidn ?_, hidn ?_, hidn (HB.out.setCell (by simp) _)⟩
    ·
     have hst := (HO.out.stored 9 (.int .i64 x)).1
     rw [HX.out, fv_set zs 9 (by omega)] at hst
     rw [HX.out]
     exact hst
    ·
     exact (setCell_block _ _ _ _ (by simp)).trans H0.out
   case measure => simp [intOf]
  ·
   have hfv : fv zs 10 = [.int .i64 x0, .int .i64 x1, .int .i64 x2, .int .i64 x3, .int .i64 x4, .int .i64 x5, .int .i64 x6, .int .i64 x7, .int .i64 x8, .int .i64 x9] := by
    have : fv zs 10 = (fieldsI zs).map (Value.int .i64) := by
     unfold fv fieldsI
     rw [List.map_map]
     apply List.map_congr_left
     intro j hj
     rw [if_pos (List.mem_range.1 hj)]
     rfl
    rw [this, HXS.out]; rfl
   have hO := HO.out
   rw [hfv] at hO
   have hc0 : wr.cell? ⟨w.heap.size + 1, 0, none⟩ = some (.int .i64 x0) := hO.cellAt 0 (by omega)
   have hc1 : wr.cell? ⟨w.heap.size + 1, 1, none⟩ = some (.int .i64 x1) := hO.cellAt 1 (by omega)
   have hc2 : wr.cell? ⟨w.heap.size + 1, 2, none⟩ = some (.int .i64 x2) := hO.cellAt 2 (by omega)
   have hc3 : wr.cell? ⟨w.heap.size + 1, 3, none⟩ = some (.int .i64 x3) := hO.cellAt 3 (by omega)
   have hc4 : wr.cell? ⟨w.heap.size + 1, 4, none⟩ = some (.int .i64 x4) := hO.cellAt 4 (by omega)
   have hc5 : wr.cell? ⟨w.heap.size + 1, 5, none⟩ = some (.int .i64 x5) := hO.cellAt 5 (by omega)
   have hc6 : wr.cell? ⟨w.heap.size + 1, 6, none⟩ = some (.int .i64 x6) := hO.cellAt 6 (by omega)
   have hc7 : wr.cell? ⟨w.heap.size + 1, 7, none⟩ = some (.int .i64 x7) := hO.cellAt 7 (by omega)
   have hc8 : wr.cell? ⟨w.heap.size + 1, 8, none⟩ = some (.int .i64 x8) := hO.cellAt 8 (by omega)
   have hc9 : wr.cell? ⟨w.heap.size + 1, 9, none⟩ = some (.int .i64 x9) := hO.cellAt 9 (by omega)
   clear hO hfv
   simp only [show ((10 : Nat) : Int) = 10 from rfl]
   repeat (first
    | (with_reducible refine wpList_store_row (by rfl) 163 (.tmp 2) (.tmp 26) (by rfl) w.heap.size (tQ x0 x1 x2 x3 x4 x5 x6 x7 x8 x9) (by kernel_rfl) (by kernel_rfl) 163 (tQ 0 0 0 0 0 0 0 0 0 0) H0.out (by kernel_rfl) (by kernel_rfl) (by kernel_rfl) ?_)
    | go_values | go_skip | go_guarded | go_step | go_upon)
   exact bodyPost_ret (v := .agg (tQ x0 x1 x2 x3 x4 x5 x6 x7 x8 x9)) (results_cell_row rfl _ _ w.heap.size 163 _ (0, 0) _ rfl (setRow_heap _ _ _ _ _ _ H0.out) Tryz.underlying163 rfl (by kernel_rfl)) rfl ⟨rfl, below_setRow HB.out (Nat.le_refl _) _⟩
end Go.Proofs.YtdppolelakbbiaaGreatDoor

namespace Go.Proofs.YtdppolelakbbiaaGreatDoor
open Go.RowKit Go.Maps
set_option linter.unusedVariables false
theorem results_cell_row_tmp {P : Program} {fn : Func} {p u : Tmp} {ty : TypeId} (h : fn.results = #[.cell p ty, .tmp u]) (tmps : Array Value) (w : World) (g : Nat) (t : TypeId) (cs : Array Value) (fr : Nat × Nat) (d : TypeDesc)
  (hp : tmps.getD p undef = .pointer (some ⟨g, 0, none⟩)) (hg : w.heap[g]? = some (.cells cs t fr))
  (hu : P.underlying ty = some d) (hd : (match d with | .struct _ | .array _ _ => true | _ => false) = true) (hi : (P.info? ty).map (·.size) = some cs.size) (x : Value) (hx : tmps.getD u undef = x) :
  (results fn tmps).run P w = .ok (.tuple #[.agg cs, x]) w := by
 rw [results_cell_tmp h, hp, hx]
 simp [asAddr, run_loadVar_row w g t ty cs fr d hg hu hd hi]
set_option maxHeartbeats 1000000 in
theorem fAnchor_any (w : World) (x0 x1 x2 x3 x4 x5 x6 x7 x8 x9 : Int) :
  Calls Tryz.prog 124 #[.agg (tQ x0 x1 x2 x3 x4 x5 x6 x7 x8 x9)] w fun e w' => e = .returned (.agg (tQ x0 x1 x2 x3 x4 x5 x6 x7 x8 x9)) ∧ Below w.heap.size w w' := by
 go_enter Tryz.func124, Tryz.ntmps124
 go_wp2
 exact bodyPost_ret (v := .agg (tQ x0 x1 x2 x3 x4 x5 x6 x7 x8 x9)) (results_cell_row rfl _ _ (w.heap.size + 1) 58 _ (0, 0) _ rfl (alloc_at2 _ _ _) Tryz.underlying58 rfl (by kernel_rfl)) rfl ⟨rfl, below2 _ _ _⟩
set_option maxHeartbeats 1000000 in
theorem decode_len (w : World) (a : Option Addr) (len cap : Nat) (hl : len ≠ 80) (hm : len ≤ maxLen) :
  Calls Tryz.prog 79 #[.slice a len cap] w fun e w' => e = .returned (.tuple #[.agg (tQ 0 0 0 0 0 0 0 0 0 0), .int .i64 5]) ∧ Below w.heap.size w w' := by
 unfold maxLen at hm
 have h1 : ((len : Int) != 80) = true := by simp; omega
 go_enter Tryz.func79, Tryz.ntmps79
 go_wp2
 exact bodyPost_ret (v := .tuple #[.agg (tQ 0 0 0 0 0 0 0 0 0 0), .int .i64 5]) (results_cell_row_tmp rfl _ _ w.heap.size 58 (tQ 0 0 0 0 0 0 0 0 0 0) (0, 0) _ rfl (heap_alloc_new _ _) Tryz.underlying58 rfl (by kernel_rfl) _ rfl) rfl ⟨rfl, below1 _ _⟩
set_option maxHeartbeats 2000000 in
theorem decode_yes (w : World) (b off cap : Nat) (zs : List Nat) (hl : zs.length = 80) (hz : ∀ x ∈ zs, x < 256) (hcp : 80 ≤ cap) (hc : ∀ q, q < 80 → w.cell? ⟨b, off + q, none⟩ = some (.int .u8 ((zs.getD q 0 : Nat) : Int))) (x0 x1 x2 x3 x4 x5 x6 x7 x8 x9 : Int) (hx : fieldsI zs = [x0, x1, x2, x3, x4, x5, x6, x7, x8, x9]) (hcan : ancB x0 x1 x2 x3 x4 x7 x8 x9 = true) :
  Calls Tryz.prog 79 #[.slice (some ⟨b, off, none⟩) 80 cap] w fun e w' => e = .returned (.tuple #[.agg (tQ x0 x1 x2 x3 x4 x5 x6 x7 x8 x9), .int .i64 0]) ∧ Below w.heap.size w w' := by
 have HC := hidn can_any
 have HR := hidn (fun (wx : World) (hb : Below w.heap.size w wx) => ancRead_any wx b off cap zs hl hz hcp (fun q hq => (hb.cell (block_lt_of_cell (hc q hq))).trans (hc q hq)) x0 x1 x2 x3 x4 x5 x6 x7 x8 x9 hx)
 clear hl hz hc hx
 go_enter Tryz.func79, Tryz.ntmps79
 go_wp2_with fail
 refine (HR.out _ (below1 _ _)).mono ?_
 rintro e w1 ⟨rfl, hb1⟩
 have HB1 := hidn ((below1 w _).trans (hb1.mono (below1 w _).size))
 have hz1 := (hb1.block w.heap.size (by rw [World.size_alloc]; omega)).trans (heap_alloc_new w _)
 have hs1 : w.heap.size + 1 ≤ w1.heap.size := by have := hb1.size; rw [World.size_alloc] at this; exact this
 clear hb1
 go_wp2_with fail
 refine (fAnchor_any _ x0 x1 x2 x3 x4 x5 x6 x7 x8 x9).mono ?_
 rintro e w2 ⟨rfl, hb2⟩
 have HB2 := hidn (HB1.out.trans (hb2.mono HB1.out.size))
 have hz2 := (hb2.block w.heap.size (by omega)).trans hz1
 have hs2 : w.heap.size + 1 ≤ w2.heap.size := by have := hb2.size; omega
 clear hb2 hz1 hs1
 go_wp2_with fail
 refine (HC.out _ x0 x1 x2 x3 x4 x5 x6 x7 x8 x9).mono ?_
 rw [hcan]
 rintro e w3 ⟨rfl, hb3⟩
 have hb23 := HB2.out.alloc HB2.out.size (.cells (tQ x0 x1 x2 x3 x4 x5 x6 x7 x8 x9) 58)
 have HB3 := hidn (hb23.trans (hb3.mono hb23.size))
 have HZ3 : Hid (w3.heap[w.heap.size]? = _) := hidn ((hb3.block w.heap.size (by rw [World.size_alloc]; omega)).trans ((Below.heap_alloc _ _ _ (by omega)).trans hz2))
 obtain ⟨hc0, hc1, hc2, hc3, hc4, hc5, hc6, hc7, hc8, hc9⟩ := ten_cells ((hb3.block w2.heap.size (by rw [World.size_alloc]; omega)).trans (heap_alloc_new w2 _))
 clear hb3 hb23 hz2 hs2
 simp only []
 go_at_K
 repeat (first
  | (with_reducible refine wpList_store_row (by rfl) 58 (.tmp 2) (.tmp 16) (by rfl) w.heap.size (tQ x0 x1 x2 x3 x4 x5 x6 x7 x8 x9) (by kernel_rfl) (by kernel_rfl) 58 (tQ 0 0 0 0 0 0 0 0 0 0) HZ3.out (by kernel_rfl) (by kernel_rfl) (by kernel_rfl) ?_)
  | go_values | go_skip | go_guarded | go_step | go_upon)
 exact bodyPost_ret (v := .tuple #[.agg (tQ x0 x1 x2 x3 x4 x5 x6 x7 x8 x9), .int .i64 0]) (results_cell_row_tmp rfl _ _ w.heap.size 58 (tQ x0 x1 x2 x3 x4 x5 x6 x7 x8 x9) (0, 0) _ rfl (setRow_heap _ _ _ _ _ _ HZ3.out) Tryz.underlying58 rfl (by kernel_rfl) _ rfl) rfl ⟨rfl, below_setRow HB3.out (Nat.le_refl _) _⟩
set_option maxHeartbeats 2000000 in
theorem decode_no (w : World) (b off cap : Nat) (zs : List Nat) (hl : zs.length = 80) (hz : ∀ x ∈ zs, x < 256) (hcp : 80 ≤ cap) (hc : ∀ q, q < 80 → w.cell? ⟨b, off + q, none⟩ = some (.int .u8 ((zs.getD q 0 : Nat) : Int))) (x0 x1 x2 x3 x4 x5 x6 x7 x8 x9 : Int) (hx : fieldsI zs = [x0, x1, x2, x3, x4, x5, x6, x7, x8, x9]) (hcan : ancB x0 x1 x2 x3 x4 x7 x8 x9 = false) :
  Calls Tryz.prog 79 #[.slice (some ⟨b, off, none⟩) 80 cap] w fun e w' => e = .returned (.tuple #[.agg (tQ 0 0 0 0 0 0 0 0 0 0), .int .i64 5]) ∧ Below w.heap.size w w' := by
 have HC := hidn can_any
 have HR := hidn (fun (wx : World) (hb : Below w.heap.size w wx) => ancRead_any wx b off cap zs hl hz hcp (fun q hq => (hb.cell (block_lt_of_cell (hc q hq))).trans (hc q hq)) x0 x1 x2 x3 x4 x5 x6 x7 x8 x9 hx)
 clear hl hz hc hx
 go_enter Tryz.func79, Tryz.ntmps79
 go_wp2_with fail
 refine (HR.out _ (below1 _ _)).mono ?_
 rintro e w1 ⟨rfl, hb1⟩
 have HB1 := hidn ((below1 w _).trans (hb1.mono (below1 w _).size))
 have hz1 := (hb1.block w.heap.size (by rw [World.size_alloc]; omega)).trans (heap_alloc_new w _)
 have hs1 : w.heap.size + 1 ≤ w1.heap.size := by have := hb1.size; rw [World.size_alloc] at this; exact this
 clear hb1
 go_wp2_with fail
 refine (fAnchor_any _ x0 x1 x2 x3 x4 x5 x6 x7 x8 x9).mono ?_
 rintro e w2 ⟨rfl, hb2⟩
 have HB2 := hidn (HB1.out.trans (hb2.mono HB1.out.size))
 have hz2 := (hb2.block w.heap.size (by omega)).trans hz1
 have hs2 : w.heap.size + 1 ≤ w2.heap.size := by have := hb2.size; omega
 clear hb2 hz1 hs1
 go_wp2_with fail
 refine (HC.out _ x0 x1 x2 x3 x4 x5 x6 x7 x8 x9).mono ?_
 rw [hcan]
 rintro e w3 ⟨rfl, hb3⟩
 have hb23 := HB2.out.alloc HB2.out.size (.cells (tQ x0 x1 x2 x3 x4 x5 x6 x7 x8 x9) 58)
 have HB3 := hidn (hb23.trans (hb3.mono hb23.size))
 have HZ3 : Hid (w3.heap[w.heap.size]? = _) := hidn ((hb3.block w.heap.size (by rw [World.size_alloc]; omega)).trans ((Below.heap_alloc _ _ _ (by omega)).trans hz2))
 clear hb3 hb23 hz2 hs2
 simp only []
 go_at_K
 repeat (first
  | (with_reducible refine wpList_store_row (by rfl) 58 (.tmp 2) (.tmp 15) (by rfl) w.heap.size (tQ 0 0 0 0 0 0 0 0 0 0) (by kernel_rfl) (by kernel_rfl) 58 (tQ 0 0 0 0 0 0 0 0 0 0) HZ3.out (by kernel_rfl) (by kernel_rfl) (by kernel_rfl) ?_)
  | go_values | go_skip | go_guarded | go_step | go_upon)
 exact bodyPost_ret (v := .tuple #[.agg (tQ 0 0 0 0 0 0 0 0 0 0), .int .i64 5]) (results_cell_row_tmp rfl _ _ w.heap.size 58 (tQ 0 0 0 0 0 0 0 0 0 0) (0, 0) _ rfl (setRow_heap _ _ _ _ _ _ HZ3.out) Tryz.underlying58 rfl (by kernel_rfl) _ rfl) rfl ⟨rfl, below_setRow HB3.out (Nat.le_refl _) _⟩
end Go.Proofs.YtdppolelakbbiaaGreatDoor
