/- The document's Decode of an anchor, at 80 bytes. -/
import Derived.Test.YtdppolelakbbiaaGreatDoorAnJ
namespace Go.Proofs.YtdppolelakbbiaaGreatDoor
open Go.RowKit Go.Maps
set_option linter.unusedVariables false
theorem infoIntA : (Tryz.prog.info? 3).map (fun i => (i.zero, i.size, i.bytes)) = some (some (.int .i64 0), 1, 8) := by kernel_rfl
def lenV : Value → Nat
 | .slice _ n _ => n
 | _ => 0
def fvT (zs : List Nat) (k : Nat) : List Value := (List.range k).map fun j => Value.int .i64 (fld zs j)
theorem fvT_succ (zs : List Nat) (k : Nat) (hk : k < 10) : fvT zs (k + 1) = fvT zs k ++ [.int .i64 (fld zs k)] := by simp [fvT, List.range_succ]
theorem fvT_ten (zs : List Nat) : fvT zs 10 = (fieldsI zs).map (Value.int .i64) := by
 unfold fvT fieldsI
 rw [List.map_map]
 rfl
set_option maxRecDepth 100000 in
set_option maxHeartbeats 8000000 in
theorem refDecode_yes (w : World) (b off cap : Nat) (zs : List Nat) (hl : zs.length = 80) (hz : ∀ x ∈ zs, x < 256) (hcp : 80 ≤ cap) (hc : ∀ q, q < 80 → w.cell? ⟨b, off + q, none⟩ = some (.int .u8 ((zs.getD q 0 : Nat) : Int))) (x0 x1 x2 x3 x4 x5 x6 x7 x8 x9 : Int) (hx : fieldsI zs = [x0, x1, x2, x3, x4, x5, x6, x7, x8, x9]) (hcan : ancB x0 x1 x2 x3 x4 x7 x8 x9 = true) :
  Calls Tryz.prog 80 #[.slice (some ⟨b, off, none⟩) 80 cap] w fun e w' => e = .returned (.tuple #[.agg (tQ x0 x1 x2 x3 x4 x5 x6 x7 x8 x9), .int .i64 0]) ∧ Below w.heap.size w w' := by
 obtain ⟨i0, hi, hz0, hz1, hz2⟩ := info_parts infoIntA
 have HL := hidn hl
 have HZ := hidn hz
 have HXS := hidn hx
 have HCan := hidn refCan_any
 have HCN := hidn hcan
 have HC := hidn (fun q hq => ((below1 w (.cells (tQ 0 0 0 0 0 0 0 0 0 0) 58)).cell (block_lt_of_cell (hc q hq))).trans (hc q hq))
 have HB0 := hidn (below1 w (.cells (tQ 0 0 0 0 0 0 0 0 0 0) 58))
 have HZ0 := hidn (heap_alloc_new w (.cells (tQ 0 0 0 0 0 0 0 0 0 0) 58))
 have hs0 : (w.alloc (.cells (tQ 0 0 0 0 0 0 0 0 0 0) 58)).heap.size = w.heap.size + 1 := World.size_alloc _ _
 clear hl hz hc hx hcan
 go_enter Tryz.func80, Tryz.ntmps80
 go_wp2_with fail
 generalize w.alloc (.cells (tQ 0 0 0 0 0 0 0 0 0 0) 58) = W0 at *
 go_loopw [0, 4] (fun bv lv wr => ∃ k : Nat, ((k = 0 ∧ bv = .slice (some ⟨b, off + 0, none⟩) 80 (cap - 0)) ∨ (k = 1 ∧ bv = .slice (some ⟨b, off + 8, none⟩) 72 (cap - 8)) ∨ (k = 2 ∧ bv = .slice (some ⟨b, off + 16, none⟩) 64 (cap - 16)) ∨ (k = 3 ∧ bv = .slice (some ⟨b, off + 24, none⟩) 56 (cap - 24)) ∨ (k = 4 ∧ bv = .slice (some ⟨b, off + 32, none⟩) 48 (cap - 32)) ∨ (k = 5 ∧ bv = .slice (some ⟨b, off + 40, none⟩) 40 (cap - 40)) ∨ (k = 6 ∧ bv = .slice (some ⟨b, off + 48, none⟩) 32 (cap - 48)) ∨ (k = 7 ∧ bv = .slice (some ⟨b, off + 56, none⟩) 24 (cap - 56)) ∨ (k = 8 ∧ bv = .slice (some ⟨b, off + 64, none⟩) 16 (cap - 64)) ∨ (k = 9 ∧ bv = .slice (some ⟨b, off + 72, none⟩) 8 (cap - 72)) ∨ (k = 10 ∧ ∃ o, bv = .slice (some ⟨b, o, none⟩) 0 (cap - 80))) ∧ Hid (wr.ownsRow W0.heap.size 3 1 lv k (fvT zs k)) ∧ Hid (Below W0.heap.size W0 wr)) (fun bv _ _ => lenV bv)
 case atStart => exact ⟨0, Or.inl ⟨rfl, rfl⟩, hidn (World.ownsRow_nil _ _ _ _), hidn (Below.refl _ _)⟩
 case round =>
  obtain ⟨k, hcase, HO, HB⟩ := hrel
  rcases hcase with ⟨rfl, rfl⟩ | ⟨rfl, rfl⟩ | ⟨rfl, rfl⟩ | ⟨rfl, rfl⟩ | ⟨rfl, rfl⟩ | ⟨rfl, rfl⟩ | ⟨rfl, rfl⟩ | ⟨rfl, rfl⟩ | ⟨rfl, rfl⟩ | ⟨rfl, rfl⟩ | ⟨rfl, o2, rfl⟩
  ·
   have HG := hidn (int_0 wr b (off + 0) (cap - 0) (off + 8) (cap - 8) ((zs.drop 0).take 8) (part_len HL.out 0 (by omega)).symm (part_lt HZ.out 0) (by omega) (by omega) (by omega) (fun j hj => part_cell HL.out (fun q hq => (HB.out.cell (block_lt_of_cell (HC.out q hq))).trans (HC.out q hq)) 0 (by omega) j hj))
   go_wp2_with fail
   refine HG.out.mono ?_
   clear HG
   rintro e w2 ⟨rfl, hb2⟩
   obtain ⟨x, hx⟩ : ∃ x, x = IntKind.i64.wrap ((getB 0 ((zs.drop 0).take 8) : Nat) : Int) := ⟨_, rfl⟩
   rw [← hx]
   have HX : Hid (x = fld zs 0) := hidn (by rw [hx]; rfl)
   clear hx
   have hO2 := own_belowA HO.out hb2
   have HB2 := hidn (HB.out.trans (hb2.mono HB.out.size))
   have hbA := below1 w2 (.cells #[.int .i64 x] 3)
   have hO3 := own_belowA hO2 hbA
   have hb3 := HB2.out.trans (hbA.mono HB2.out.size)
   obtain ⟨v3, w3, hrun, hown3, hgr3⟩ := appAny (w2.alloc (.cells #[.int .i64 x] 3)) W0.heap.size 166 166 3 i0 _ 1 8 Tryz.underlying166 hi hz0 hz1 hz2 rfl (by decide) u4 0 (fvT zs 0) hO3 hb3.size (some ⟨w2.heap.size, 0, none⟩) 1 1 [.int .i64 x] rfl (fun e => by cases e) (fun y hy j u hu => by
    cases hy
    match j, hu with
    | 0, hu => cases hu; rw [add_none]; exact cell_of_row _ _ _ _ _ _ (heap_alloc_new _ _)) (fun u hu => by simp at hu; subst hu; rfl) (by unfold maxLen; omega) (by omega)
   have HB3 : Hid (Below W0.heap.size W0 w3) := hidn (hb3.grown hgr3 hb3.size (fun k hk => (hO3.lt k hk).1))
   have HO3 : Hid (w3.ownsRow W0.heap.size 3 1 v3 1 (fvT zs 1)) := hidn (by rw [fvT_succ zs 0 (by omega), ← HX.out]; exact hown3)
   have HRUN := hidn hrun
   clear hrun hown3 hgr3 hO2 hO3 hb2 hb3 hbA HO
   go_wp2_with (at_builtin; refine wpList_app_runA rfl _ _ 166 166 rfl rfl _ _ _ rfl rfl HRUN.out ?_; clear HRUN)
   go_roundw
   case rel => exact ⟨1, Or.inr (Or.inl ⟨rfl, rfl⟩), HO3, HB3⟩
   case measure => simp [lenV]
  ·
   have HG := hidn (int_1 wr b (off + 8) (cap - 8) (off + 16) (cap - 16) ((zs.drop 8).take 8) (part_len HL.out 8 (by omega)).symm (part_lt HZ.out 8) (by omega) (by omega) (by omega) (fun j hj => part_cell HL.out (fun q hq => (HB.out.cell (block_lt_of_cell (HC.out q hq))).trans (HC.out q hq)) 8 (by omega) j hj))
   go_wp2_with fail
   refine HG.out.mono ?_
   clear HG
   rintro e w2 ⟨rfl, hb2⟩
   obtain ⟨x, hx⟩ : ∃ x, x = IntKind.i64.wrap ((getB 0 ((zs.drop 8).take 8) : Nat) : Int) := ⟨_, rfl⟩
   rw [← hx]
   have HX : Hid (x = fld zs 1) := hidn (by rw [hx]; rfl)
   clear hx
   have hO2 := own_belowA HO.out hb2
   have HB2 := hidn (HB.out.trans (hb2.mono HB.out.size))
   have hbA := below1 w2 (.cells #[.int .i64 x] 3)
   have hO3 := own_belowA hO2 hbA
   have hb3 := HB2.out.trans (hbA.mono HB2.out.size)
   obtain ⟨v3, w3, hrun, hown3, hgr3⟩ := appAny (w2.alloc (.cells #[.int .i64 x] 3)) W0.heap.size 166 166 3 i0 _ 1 8 Tryz.underlying166 hi hz0 hz1 hz2 rfl (by decide) u4 1 (fvT zs 1) hO3 hb3.size (some ⟨w2.heap.size, 0, none⟩) 1 1 [.int .i64 x] rfl (fun e => by cases e) (fun y hy j u hu => by
    cases hy
    match j, hu with
    | 0, hu => cases hu; rw [add_none]; exact cell_of_row _ _ _ _ _ _ (heap_alloc_new _ _)) (fun u hu => by simp at hu; subst hu; rfl) (by unfold maxLen; omega) (by omega)
   have HB3 : Hid (Below W0.heap.size W0 w3) := hidn (hb3.grown hgr3 hb3.size (fun k hk => (hO3.lt k hk).1))
   have HO3 : Hid (w3.ownsRow W0.heap.size 3 1 v3 2 (fvT zs 2)) := hidn (by rw [fvT_succ zs 1 (by omega), ← HX.out]; exact hown3)
   have HRUN := hidn hrun
   clear hrun hown3 hgr3 hO2 hO3 hb2 hb3 hbA HO
   go_wp2_with (at_builtin; refine wpList_app_runA rfl _ _ 166 166 rfl rfl _ _ _ rfl rfl HRUN.out ?_; clear HRUN)
   go_roundw
   case rel => exact ⟨2, Or.inr (Or.inr (Or.inl ⟨rfl, rfl⟩)), HO3, HB3⟩
   case measure => simp [lenV]
  ·
   have HG := hidn (int_2 wr b (off + 16) (cap - 16) (off + 24) (cap - 24) ((zs.drop 16).take 8) (part_len HL.out 16 (by omega)).symm (part_lt HZ.out 16) (by omega) (by omega) (by omega) (fun j hj => part_cell HL.out (fun q hq => (HB.out.cell (block_lt_of_cell (HC.out q hq))).trans (HC.out q hq)) 16 (by omega) j hj))
   go_wp2_with fail
   refine HG.out.mono ?_
   clear HG
   rintro e w2 ⟨rfl, hb2⟩
   obtain ⟨x, hx⟩ : ∃ x, x = IntKind.i64.wrap ((getB 0 ((zs.drop 16).take 8) : Nat) : Int) := ⟨_, rfl⟩
   rw [← hx]
   have HX : Hid (x = fld zs 2) := hidn (by rw [hx]; rfl)
   clear hx
   have hO2 := own_belowA HO.out hb2
   have HB2 := hidn (HB.out.trans (hb2.mono HB.out.size))
   have hbA := below1 w2 (.cells #[.int .i64 x] 3)
   have hO3 := own_belowA hO2 hbA
   have hb3 := HB2.out.trans (hbA.mono HB2.out.size)
   obtain ⟨v3, w3, hrun, hown3, hgr3⟩ := appAny (w2.alloc (.cells #[.int .i64 x] 3)) W0.heap.size 166 166 3 i0 _ 1 8 Tryz.underlying166 hi hz0 hz1 hz2 rfl (by decide) u4 2 (fvT zs 2) hO3 hb3.size (some ⟨w2.heap.size, 0, none⟩) 1 1 [.int .i64 x] rfl (fun e => by cases e) (fun y hy j u hu => by
    cases hy
    match j, hu with
    | 0, hu => cases hu; rw [add_none]; exact cell_of_row _ _ _ _ _ _ (heap_alloc_new _ _)) (fun u hu => by simp at hu; subst hu; rfl) (by unfold maxLen; omega) (by omega)
   have HB3 : Hid (Below W0.heap.size W0 w3) := hidn (hb3.grown hgr3 hb3.size (fun k hk => (hO3.lt k hk).1))
   have HO3 : Hid (w3.ownsRow W0.heap.size 3 1 v3 3 (fvT zs 3)) := hidn (by rw [fvT_succ zs 2 (by omega), ← HX.out]; exact hown3)
   have HRUN := hidn hrun
   clear hrun hown3 hgr3 hO2 hO3 hb2 hb3 hbA HO
   go_wp2_with (at_builtin; refine wpList_app_runA rfl _ _ 166 166 rfl rfl _ _ _ rfl rfl HRUN.out ?_; clear HRUN)
   go_roundw
   case rel => exact ⟨3, Or.inr (Or.inr (Or.inr (Or.inl ⟨rfl, rfl⟩))), HO3, HB3⟩
   case measure => simp [lenV]
  ·
   have HG := hidn (int_3 wr b (off + 24) (cap - 24) (off + 32) (cap - 32) ((zs.drop 24).take 8) (part_len HL.out 24 (by omega)).symm (part_lt HZ.out 24) (by omega) (by omega) (by omega) (fun j hj => part_cell HL.out (fun q hq => (HB.out.cell (block_lt_of_cell (HC.out q hq))).trans (HC.out q hq)) 24 (by omega) j hj))
   go_wp2_with fail
   refine HG.out.mono ?_
   clear HG
   rintro e w2 ⟨rfl, hb2⟩
   obtain ⟨x, hx⟩ : ∃ x, x = IntKind.i64.wrap ((getB 0 ((zs.drop 24).take 8) : Nat) : Int) := ⟨_, rfl⟩
   rw [← hx]
   have HX : Hid (x = fld zs 3) := hidn (by rw [hx]; rfl)
   clear hx
   have hO2 := own_belowA HO.out hb2
   have HB2 := hidn (HB.out.trans (hb2.mono HB.out.size))
   have hbA := below1 w2 (.cells #[.int .i64 x] 3)
   have hO3 := own_belowA hO2 hbA
   have hb3 := HB2.out.trans (hbA.mono HB2.out.size)
   obtain ⟨v3, w3, hrun, hown3, hgr3⟩ := appAny (w2.alloc (.cells #[.int .i64 x] 3)) W0.heap.size 166 166 3 i0 _ 1 8 Tryz.underlying166 hi hz0 hz1 hz2 rfl (by decide) u4 3 (fvT zs 3) hO3 hb3.size (some ⟨w2.heap.size, 0, none⟩) 1 1 [.int .i64 x] rfl (fun e => by cases e) (fun y hy j u hu => by
    cases hy
    match j, hu with
    | 0, hu => cases hu; rw [add_none]; exact cell_of_row _ _ _ _ _ _ (heap_alloc_new _ _)) (fun u hu => by simp at hu; subst hu; rfl) (by unfold maxLen; omega) (by omega)
   have HB3 : Hid (Below W0.heap.size W0 w3) := hidn (hb3.grown hgr3 hb3.size (fun k hk => (hO3.lt k hk).1))
   have HO3 : Hid (w3.ownsRow W0.heap.size 3 1 v3 4 (fvT zs 4)) := hidn (by rw [fvT_succ zs 3 (by omega), ← HX.out]; exact hown3)
   have HRUN := hidn hrun
   clear hrun hown3 hgr3 hO2 hO3 hb2 hb3 hbA HO
   go_wp2_with (at_builtin; refine wpList_app_runA rfl _ _ 166 166 rfl rfl _ _ _ rfl rfl HRUN.out ?_; clear HRUN)
   go_roundw
   case rel => exact ⟨4, Or.inr (Or.inr (Or.inr (Or.inr (Or.inl ⟨rfl, rfl⟩)))), HO3, HB3⟩
   case measure => simp [lenV]
  ·
   have HG := hidn (int_4 wr b (off + 32) (cap - 32) (off + 40) (cap - 40) ((zs.drop 32).take 8) (part_len HL.out 32 (by omega)).symm (part_lt HZ.out 32) (by omega) (by omega) (by omega) (fun j hj => part_cell HL.out (fun q hq => (HB.out.cell (block_lt_of_cell (HC.out q hq))).trans (HC.out q hq)) 32 (by omega) j hj))
   go_wp2_with fail
   refine HG.out.mono ?_
   clear HG
   rintro e w2 ⟨rfl, hb2⟩
   obtain ⟨x, hx⟩ : ∃ x, x = IntKind.i64.wrap ((getB 0 ((zs.drop 32).take 8) : Nat) : Int) := ⟨_, rfl⟩
   rw [← hx]
   have HX : Hid (x = fld zs 4) := hidn (by rw [hx]; rfl)
   clear hx
   have hO2 := own_belowA HO.out hb2
   have HB2 := hidn (HB.out.trans (hb2.mono HB.out.size))
   have hbA := below1 w2 (.cells #[.int .i64 x] 3)
   have hO3 := own_belowA hO2 hbA
   have hb3 := HB2.out.trans (hbA.mono HB2.out.size)
   obtain ⟨v3, w3, hrun, hown3, hgr3⟩ := appAny (w2.alloc (.cells #[.int .i64 x] 3)) W0.heap.size 166 166 3 i0 _ 1 8 Tryz.underlying166 hi hz0 hz1 hz2 rfl (by decide) u4 4 (fvT zs 4) hO3 hb3.size (some ⟨w2.heap.size, 0, none⟩) 1 1 [.int .i64 x] rfl (fun e => by cases e) (fun y hy j u hu => by
    cases hy
    match j, hu with
    | 0, hu => cases hu; rw [add_none]; exact cell_of_row _ _ _ _ _ _ (heap_alloc_new _ _)) (fun u hu => by simp at hu; subst hu; rfl) (by unfold maxLen; omega) (by omega)
   have HB3 : Hid (Below W0.heap.size W0 w3) := hidn (hb3.grown hgr3 hb3.size (fun k hk => (hO3.lt k hk).1))
   have HO3 : Hid (w3.ownsRow W0.heap.size 3 1 v3 5 (fvT zs 5)) := hidn (by rw [fvT_succ zs 4 (by omega), ← HX.out]; exact hown3)
   have HRUN := hidn hrun
   clear hrun hown3 hgr3 hO2 hO3 hb2 hb3 hbA HO
   go_wp2_with (at_builtin; refine wpList_app_runA rfl _ _ 166 166 rfl rfl _ _ _ rfl rfl HRUN.out ?_; clear HRUN)
   go_roundw
   case rel => exact ⟨5, Or.inr (Or.inr (Or.inr (Or.inr (Or.inr (Or.inl ⟨rfl, rfl⟩))))), HO3, HB3⟩
   case measure => simp [lenV]
  ·
   have HG := hidn (int_5 wr b (off + 40) (cap - 40) (off + 48) (cap - 48) ((zs.drop 40).take 8) (part_len HL.out 40 (by omega)).symm (part_lt HZ.out 40) (by omega) (by omega) (by omega) (fun j hj => part_cell HL.out (fun q hq => (HB.out.cell (block_lt_of_cell (HC.out q hq))).trans (HC.out q hq)) 40 (by omega) j hj))
   go_wp2_with fail
   refine HG.out.mono ?_
   clear HG
   rintro e w2 ⟨rfl, hb2⟩
   obtain ⟨x, hx⟩ : ∃ x, x = IntKind.i64.wrap ((getB 0 ((zs.drop 40).take 8) : Nat) : Int) := ⟨_, rfl⟩
   rw [← hx]
   have HX : Hid (x = fld zs 5) := hidn (by rw [hx]; rfl)
   clear hx
   have hO2 := own_belowA HO.out hb2
   have HB2 := hidn (HB.out.trans (hb2.mono HB.out.size))
   have hbA := below1 w2 (.cells #[.int .i64 x] 3)
   have hO3 := own_belowA hO2 hbA
   have hb3 := HB2.out.trans (hbA.mono HB2.out.size)
   obtain ⟨v3, w3, hrun, hown3, hgr3⟩ := appAny (w2.alloc (.cells #[.int .i64 x] 3)) W0.heap.size 166 166 3 i0 _ 1 8 Tryz.underlying166 hi hz0 hz1 hz2 rfl (by decide) u4 5 (fvT zs 5) hO3 hb3.size (some ⟨w2.heap.size, 0, none⟩) 1 1 [.int .i64 x] rfl (fun e => by cases e) (fun y hy j u hu => by
    cases hy
    match j, hu with
    | 0, hu => cases hu; rw [add_none]; exact cell_of_row _ _ _ _ _ _ (heap_alloc_new _ _)) (fun u hu => by simp at hu; subst hu; rfl) (by unfold maxLen; omega) (by omega)
   have HB3 : Hid (Below W0.heap.size W0 w3) := hidn (hb3.grown hgr3 hb3.size (fun k hk => (hO3.lt k hk).1))
   have HO3 : Hid (w3.ownsRow W0.heap.size 3 1 v3 6 (fvT zs 6)) := hidn (by rw [fvT_succ zs 5 (by omega), ← HX.out]; exact hown3)
   have HRUN := hidn hrun
   clear hrun hown3 hgr3 hO2 hO3 hb2 hb3 hbA HO
   go_wp2_with (at_builtin; refine wpList_app_runA rfl _ _ 166 166 rfl rfl _ _ _ rfl rfl HRUN.out ?_; clear HRUN)
   go_roundw
   case rel => exact ⟨6, Or.inr (Or.inr (Or.inr (Or.inr (Or.inr (Or.inr (Or.inl ⟨rfl, rfl⟩)))))), HO3, HB3⟩
   case measure => simp [lenV]
  ·
   have HG := hidn (int_6 wr b (off + 48) (cap - 48) (off + 56) (cap - 56) ((zs.drop 48).take 8) (part_len HL.out 48 (by omega)).symm (part_lt HZ.out 48) (by omega) (by omega) (by omega) (fun j hj => part_cell HL.out (fun q hq => (HB.out.cell (block_lt_of_cell (HC.out q hq))).trans (HC.out q hq)) 48 (by omega) j hj))
   go_wp2_with fail
   refine HG.out.mono ?_
   clear HG
   rintro e w2 ⟨rfl, hb2⟩
   obtain ⟨x, hx⟩ : ∃ x, x = IntKind.i64.wrap ((getB 0 ((zs.drop 48).take 8) : Nat) : Int) := ⟨_, rfl⟩
   rw [← hx]
   have HX : Hid (x = fld zs 6) := hidn (by rw [hx]; rfl)
   clear hx
   have hO2 := own_belowA HO.out hb2
   have HB2 := hidn (HB.out.trans (hb2.mono HB.out.size))
   have hbA := below1 w2 (.cells #[.int .i64 x] 3)
   have hO3 := own_belowA hO2 hbA
   have hb3 := HB2.out.trans (hbA.mono HB2.out.size)
   obtain ⟨v3, w3, hrun, hown3, hgr3⟩ := appAny (w2.alloc (.cells #[.int .i64 x] 3)) W0.heap.size 166 166 3 i0 _ 1 8 Tryz.underlying166 hi hz0 hz1 hz2 rfl (by decide) u4 6 (fvT zs 6) hO3 hb3.size (some ⟨w2.heap.size, 0, none⟩) 1 1 [.int .i64 x] rfl (fun e => by cases e) (fun y hy j u hu => by
    cases hy
    match j, hu with
    | 0, hu => cases hu; rw [add_none]; exact cell_of_row _ _ _ _ _ _ (heap_alloc_new _ _)) (fun u hu => by simp at hu; subst hu; rfl) (by unfold maxLen; omega) (by omega)
   have HB3 : Hid (Below W0.heap.size W0 w3) := hidn (hb3.grown hgr3 hb3.size (fun k hk => (hO3.lt k hk).1))
   have HO3 : Hid (w3.ownsRow W0.heap.size 3 1 v3 7 (fvT zs 7)) := hidn (by rw [fvT_succ zs 6 (by omega), ← HX.out]; exact hown3)
   have HRUN := hidn hrun
   clear hrun hown3 hgr3 hO2 hO3 hb2 hb3 hbA HO
   go_wp2_with (at_builtin; refine wpList_app_runA rfl _ _ 166 166 rfl rfl _ _ _ rfl rfl HRUN.out ?_; clear HRUN)
   go_roundw
   case rel => exact ⟨7, Or.inr (Or.inr (Or.inr (Or.inr (Or.inr (Or.inr (Or.inr (Or.inl ⟨rfl, rfl⟩))))))), HO3, HB3⟩
   case measure => simp [lenV]
  ·
   have HG := hidn (int_7 wr b (off + 56) (cap - 56) (off + 64) (cap - 64) ((zs.drop 56).take 8) (part_len HL.out 56 (by omega)).symm (part_lt HZ.out 56) (by omega) (by omega) (by omega) (fun j hj => part_cell HL.out (fun q hq => (HB.out.cell (block_lt_of_cell (HC.out q hq))).trans (HC.out q hq)) 56 (by omega) j hj))
   go_wp2_with fail
   refine HG.out.mono ?_
   clear HG
   rintro e w2 ⟨rfl, hb2⟩
   obtain ⟨x, hx⟩ : ∃ x, x = IntKind.i64.wrap ((getB 0 ((zs.drop 56).take 8) : Nat) : Int) := ⟨_, rfl⟩
   rw [← hx]
   have HX : Hid (x = fld zs 7) := hidn (by rw [hx]; rfl)
   clear hx
   have hO2 := own_belowA HO.out hb2
   have HB2 := hidn (HB.out.trans (hb2.mono HB.out.size))
   have hbA := below1 w2 (.cells #[.int .i64 x] 3)
   have hO3 := own_belowA hO2 hbA
   have hb3 := HB2.out.trans (hbA.mono HB2.out.size)
   obtain ⟨v3, w3, hrun, hown3, hgr3⟩ := appAny (w2.alloc (.cells #[.int .i64 x] 3)) W0.heap.size 166 166 3 i0 _ 1 8 Tryz.underlying166 hi hz0 hz1 hz2 rfl (by decide) u4 7 (fvT zs 7) hO3 hb3.size (some ⟨w2.heap.size, 0, none⟩) 1 1 [.int .i64 x] rfl (fun e => by cases e) (fun y hy j u hu => by
    cases hy
    match j, hu with
    | 0, hu => cases hu; rw [add_none]; exact cell_of_row _ _ _ _ _ _ (heap_alloc_new _ _)) (fun u hu => by simp at hu; subst hu; rfl) (by unfold maxLen; omega) (by omega)
   have HB3 : Hid (Below W0.heap.size W0 w3) := hidn (hb3.grown hgr3 hb3.size (fun k hk => (hO3.lt k hk).1))
   have HO3 : Hid (w3.ownsRow W0.heap.size 3 1 v3 8 (fvT zs 8)) := hidn (by rw [fvT_succ zs 7 (by omega), ← HX.out]; exact hown3)
   have HRUN := hidn hrun
   clear hrun hown3 hgr3 hO2 hO3 hb2 hb3 hbA HO
   go_wp2_with (at_builtin; refine wpList_app_runA rfl _ _ 166 166 rfl rfl _ _ _ rfl rfl HRUN.out ?_; clear HRUN)
   go_roundw
   case rel => exact ⟨8, Or.inr (Or.inr (Or.inr (Or.inr (Or.inr (Or.inr (Or.inr (Or.inr (Or.inl ⟨rfl, rfl⟩)))))))), HO3, HB3⟩
   case measure => simp [lenV]
  ·
   have HG := hidn (int_8 wr b (off + 64) (cap - 64) (off + 72) (cap - 72) ((zs.drop 64).take 8) (part_len HL.out 64 (by omega)).symm (part_lt HZ.out 64) (by omega) (by omega) (by omega) (fun j hj => part_cell HL.out (fun q hq => (HB.out.cell (block_lt_of_cell (HC.out q hq))).trans (HC.out q hq)) 64 (by omega) j hj))
   go_wp2_with fail
   refine HG.out.mono ?_
   clear HG
   rintro e w2 ⟨rfl, hb2⟩
   obtain ⟨x, hx⟩ : ∃ x, x = IntKind.i64.wrap ((getB 0 ((zs.drop 64).take 8) : Nat) : Int) := ⟨_, rfl⟩
   rw [← hx]
   have HX : Hid (x = fld zs 8) := hidn (by rw [hx]; rfl)
   clear hx
   have hO2 := own_belowA HO.out hb2
   have HB2 := hidn (HB.out.trans (hb2.mono HB.out.size))
   have hbA := below1 w2 (.cells #[.int .i64 x] 3)
   have hO3 := own_belowA hO2 hbA
   have hb3 := HB2.out.trans (hbA.mono HB2.out.size)
   obtain ⟨v3, w3, hrun, hown3, hgr3⟩ := appAny (w2.alloc (.cells #[.int .i64 x] 3)) W0.heap.size 166 166 3 i0 _ 1 8 Tryz.underlying166 hi hz0 hz1 hz2 rfl (by decide) u4 8 (fvT zs 8) hO3 hb3.size (some ⟨w2.heap.size, 0, none⟩) 1 1 [.int .i64 x] rfl (fun e => by cases e) (fun y hy j u hu => by
    cases hy
    match j, hu with
    | 0, hu => cases hu; rw [add_none]; exact cell_of_row _ _ _ _ _ _ (heap_alloc_new _ _)) (fun u hu => by simp at hu; subst hu; rfl) (by unfold maxLen; omega) (by omega)
   have HB3 : Hid (Below W0.heap.size W0 w3) := hidn (hb3.grown hgr3 hb3.size (fun k hk => (hO3.lt k hk).1))
   have HO3 : Hid (w3.ownsRow W0.heap.size 3 1 v3 9 (fvT zs 9)) := hidn (by rw [fvT_succ zs 8 (by omega), ← HX.out]; exact hown3)
   have HRUN := hidn hrun
   clear hrun hown3 hgr3 hO2 hO3 hb2 hb3 hbA HO
   go_wp2_with (at_builtin; refine wpList_app_runA rfl _ _ 166 166 rfl rfl _ _ _ rfl rfl HRUN.out ?_; clear HRUN)
   go_roundw
   case rel => exact ⟨9, Or.inr (Or.inr (Or.inr (Or.inr (Or.inr (Or.inr (Or.inr (Or.inr (Or.inr (Or.inl ⟨rfl, rfl⟩))))))))), HO3, HB3⟩
   case measure => simp [lenV]
  ·
   have HG := hidn (int_9 wr b (off + 72) (cap - 72) ((zs.drop 72).take 8) (part_len HL.out 72 (by omega)).symm (part_lt HZ.out 72) (by omega) (fun j hj => part_cell HL.out (fun q hq => (HB.out.cell (block_lt_of_cell (HC.out q hq))).trans (HC.out q hq)) 72 (by omega) j hj))
   go_wp2_with fail
   refine HG.out.mono ?_
   clear HG
   rintro e w2 ⟨o2, rfl, hb2⟩
   obtain ⟨x, hx⟩ : ∃ x, x = IntKind.i64.wrap ((getB 0 ((zs.drop 72).take 8) : Nat) : Int) := ⟨_, rfl⟩
   rw [← hx]
   have HX : Hid (x = fld zs 9) := hidn (by rw [hx]; rfl)
   clear hx
   have hO2 := own_belowA HO.out hb2
   have HB2 := hidn (HB.out.trans (hb2.mono HB.out.size))
   have hbA := below1 w2 (.cells #[.int .i64 x] 3)
   have hO3 := own_belowA hO2 hbA
   have hb3 := HB2.out.trans (hbA.mono HB2.out.size)
   obtain ⟨v3, w3, hrun, hown3, hgr3⟩ := appAny (w2.alloc (.cells #[.int .i64 x] 3)) W0.heap.size 166 166 3 i0 _ 1 8 Tryz.underlying166 hi hz0 hz1 hz2 rfl (by decide) u4 9 (fvT zs 9) hO3 hb3.size (some ⟨w2.heap.size, 0, none⟩) 1 1 [.int .i64 x] rfl (fun e => by cases e) (fun y hy j u hu => by
    cases hy
    match j, hu with
    | 0, hu => cases hu; rw [add_none]; exact cell_of_row _ _ _ _ _ _ (heap_alloc_new _ _)) (fun u hu => by simp at hu; subst hu; rfl) (by unfold maxLen; omega) (by omega)
   have HB3 : Hid (Below W0.heap.size W0 w3) := hidn (hb3.grown hgr3 hb3.size (fun k hk => (hO3.lt k hk).1))
   have HO3 : Hid (w3.ownsRow W0.heap.size 3 1 v3 10 (fvT zs 10)) := hidn (by rw [fvT_succ zs 9 (by omega), ← HX.out]; exact hown3)
   have HRUN := hidn hrun
   clear hrun hown3 hgr3 hO2 hO3 hb2 hb3 hbA HO
   go_wp2_with (at_builtin; refine wpList_app_runA rfl _ _ 166 166 rfl rfl _ _ _ rfl rfl HRUN.out ?_; clear HRUN)
   go_roundw
   case rel => exact ⟨10, Or.inr (Or.inr (Or.inr (Or.inr (Or.inr (Or.inr (Or.inr (Or.inr (Or.inr (Or.inr (⟨rfl, _, rfl⟩)))))))))), HO3, HB3⟩
   case measure => simp [lenV]
  ·
   have hfv : fvT zs 10 = [.int .i64 x0, .int .i64 x1, .int .i64 x2, .int .i64 x3, .int .i64 x4, .int .i64 x5, .int .i64 x6, .int .i64 x7, .int .i64 x8, .int .i64 x9] := by rw [fvT_ten, HXS.out]; rfl
   have hO := HO.out
   rw [hfv] at hO
   obtain ⟨g, lc, e9⟩ : ∃ g lc, u4 = Value.slice (some ⟨g, 0, none⟩) 10 lc := by
    rcases hO.2 with ⟨_, h0⟩ | ⟨g, lc, cur, hv, _⟩
    ·
     cases h0
    ·
     exact ⟨g, lc, hv⟩
   subst e9
   have kc0 : wr.cell? ⟨g, 0, none⟩ = some (.int .i64 x0) := hO.cellAt 0 (by omega)
   have kc1 : wr.cell? ⟨g, 1, none⟩ = some (.int .i64 x1) := hO.cellAt 1 (by omega)
   have kc2 : wr.cell? ⟨g, 2, none⟩ = some (.int .i64 x2) := hO.cellAt 2 (by omega)
   have kc3 : wr.cell? ⟨g, 3, none⟩ = some (.int .i64 x3) := hO.cellAt 3 (by omega)
   have kc4 : wr.cell? ⟨g, 4, none⟩ = some (.int .i64 x4) := hO.cellAt 4 (by omega)
   have kc5 : wr.cell? ⟨g, 5, none⟩ = some (.int .i64 x5) := hO.cellAt 5 (by omega)
   have kc6 : wr.cell? ⟨g, 6, none⟩ = some (.int .i64 x6) := hO.cellAt 6 (by omega)
   have kc7 : wr.cell? ⟨g, 7, none⟩ = some (.int .i64 x7) := hO.cellAt 7 (by omega)
   have kc8 : wr.cell? ⟨g, 8, none⟩ = some (.int .i64 x8) := hO.cellAt 8 (by omega)
   have kc9 : wr.cell? ⟨g, 9, none⟩ = some (.int .i64 x9) := hO.cellAt 9 (by omega)
   have HZ2 := hidn ((HB.out.block w.heap.size (by omega)).trans HZ0.out)
   have HB2 := hidn (HB0.out.trans (HB.out.mono HB0.out.size))
   have hs2 : w.heap.size + 1 ≤ wr.heap.size := by have := HB.out.size; omega
   clear hO hfv HO HB HB0 HZ0
   have HB2 := hidn (HB2.out.drew)
   have HZ2 : Hid (wr.drew.heap[w.heap.size]? = some (.cells (tQ 0 0 0 0 0 0 0 0 0 0) 58 (0, 0))) := hidn HZ2.out
   have keepS : ∀ o : Obj, (fun w' : World => w'.cell? ⟨g, 0, none⟩ = some (.int .i64 x0) ∧ w'.cell? ⟨g, 1, none⟩ = some (.int .i64 x1) ∧ w'.cell? ⟨g, 2, none⟩ = some (.int .i64 x2) ∧ w'.cell? ⟨g, 3, none⟩ = some (.int .i64 x3) ∧ w'.cell? ⟨g, 4, none⟩ = some (.int .i64 x4) ∧ w'.cell? ⟨g, 5, none⟩ = some (.int .i64 x5) ∧ w'.cell? ⟨g, 6, none⟩ = some (.int .i64 x6) ∧ w'.cell? ⟨g, 7, none⟩ = some (.int .i64 x7) ∧ w'.cell? ⟨g, 8, none⟩ = some (.int .i64 x8) ∧ w'.cell? ⟨g, 9, none⟩ = some (.int .i64 x9)) (wr.drew.alloc o) := fun o => ⟨Lib.cell?_alloc_some o (show wr.drew.cell? ⟨g, 0, none⟩ = _ from kc0), Lib.cell?_alloc_some o (show wr.drew.cell? ⟨g, 1, none⟩ = _ from kc1), Lib.cell?_alloc_some o (show wr.drew.cell? ⟨g, 2, none⟩ = _ from kc2), Lib.cell?_alloc_some o (show wr.drew.cell? ⟨g, 3, none⟩ = _ from kc3), Lib.cell?_alloc_some o (show wr.drew.cell? ⟨g, 4, none⟩ = _ from kc4), Lib.cell?_alloc_some o (show wr.drew.cell? ⟨g, 5, none⟩ = _ from kc5), Lib.cell?_alloc_some o (show wr.drew.cell? ⟨g, 6, none⟩ = _ from kc6), Lib.cell?_alloc_some o (show wr.drew.cell? ⟨g, 7, none⟩ = _ from kc7), Lib.cell?_alloc_some o (show wr.drew.cell? ⟨g, 8, none⟩ = _ from kc8), Lib.cell?_alloc_some o (show wr.drew.cell? ⟨g, 9, none⟩ = _ from kc9)⟩
   go_wp2_with fail
   refine wp_region_noPanic ?_
   refine wp_region_held_drew (S := fun w' => w'.cell? ⟨g, 0, none⟩ = some (.int .i64 x0) ∧ w'.cell? ⟨g, 1, none⟩ = some (.int .i64 x1) ∧ w'.cell? ⟨g, 2, none⟩ = some (.int .i64 x2) ∧ w'.cell? ⟨g, 3, none⟩ = some (.int .i64 x3) ∧ w'.cell? ⟨g, 4, none⟩ = some (.int .i64 x4) ∧ w'.cell? ⟨g, 5, none⟩ = some (.int .i64 x5) ∧ w'.cell? ⟨g, 6, none⟩ = some (.int .i64 x6) ∧ w'.cell? ⟨g, 7, none⟩ = some (.int .i64 x7) ∧ w'.cell? ⟨g, 8, none⟩ = some (.int .i64 x8) ∧ w'.cell? ⟨g, 9, none⟩ = some (.int .i64 x9)) (by kernel_rfl) (⟨kc0, kc1, kc2, kc3, kc4, kc5, kc6, kc7, kc8, kc9⟩) (fun hHeld => ?_)
   refine dtk (i := 0) (v := .slice (some ⟨g, 0, none⟩) 10 lc) (some 27) rfl rfl (by kernel_rfl) (by kernel_rfl) (fun wq hw => by go_simp) hHeld ?_
   simp only [Act.put, sQ1, sQ2, sQ3]
   refine dtk (i := 1) (v := .pointer (some ⟨g, 0, none⟩)) (some 28) rfl rfl (by kernel_rfl) (by kernel_rfl) (fun wq hw => by go_simp) hHeld ?_
   simp only [Act.put, sQ1, sQ2, sQ3]
   refine dtk (i := 2) (v := .int .i64 x0) (some 29) rfl rfl (by kernel_rfl) (by kernel_rfl) (fun wq hw => by have q9 := hw.1; go_simp) hHeld ?_
   simp only [Act.put, sQ1, sQ2, sQ3]
   refine dtk (i := 3) (v := .slice (some ⟨g, 0, none⟩) 10 lc) (some 30) rfl rfl (by kernel_rfl) (by kernel_rfl) (fun wq hw => by go_simp) hHeld ?_
   simp only [Act.put, sQ1, sQ2, sQ3]
   refine dtk (i := 4) (v := .pointer (some ⟨g, 1, none⟩)) (some 31) rfl rfl (by kernel_rfl) (by kernel_rfl) (fun wq hw => by go_simp) hHeld ?_
   simp only [Act.put, sQ1, sQ2, sQ3]
   refine dtk (i := 5) (v := .int .i64 x1) (some 32) rfl rfl (by kernel_rfl) (by kernel_rfl) (fun wq hw => by have q9 := hw.2.1; go_simp) hHeld ?_
   simp only [Act.put, sQ1, sQ2, sQ3]
   refine dtk (i := 6) (v := .slice (some ⟨g, 0, none⟩) 10 lc) (some 33) rfl rfl (by kernel_rfl) (by kernel_rfl) (fun wq hw => by go_simp) hHeld ?_
   simp only [Act.put, sQ1, sQ2, sQ3]
   refine dtk (i := 7) (v := .pointer (some ⟨g, 2, none⟩)) (some 34) rfl rfl (by kernel_rfl) (by kernel_rfl) (fun wq hw => by go_simp) hHeld ?_
   simp only [Act.put, sQ1, sQ2, sQ3]
   refine dtk (i := 8) (v := .int .i64 x2) (some 35) rfl rfl (by kernel_rfl) (by kernel_rfl) (fun wq hw => by have q9 := hw.2.2.1; go_simp) hHeld ?_
   simp only [Act.put, sQ1, sQ2, sQ3]
   refine dtk (i := 9) (v := .slice (some ⟨g, 0, none⟩) 10 lc) (some 36) rfl rfl (by kernel_rfl) (by kernel_rfl) (fun wq hw => by go_simp) hHeld ?_
   simp only [Act.put, sQ1, sQ2, sQ3]
   refine dtk (i := 10) (v := .pointer (some ⟨g, 3, none⟩)) (some 37) rfl rfl (by kernel_rfl) (by kernel_rfl) (fun wq hw => by go_simp) hHeld ?_
   simp only [Act.put, sQ1, sQ2, sQ3]
   refine dtk (i := 11) (v := .int .i64 x3) (some 38) rfl rfl (by kernel_rfl) (by kernel_rfl) (fun wq hw => by have q9 := hw.2.2.2.1; go_simp) hHeld ?_
   simp only [Act.put, sQ1, sQ2, sQ3]
   refine dtk (i := 12) (v := .slice (some ⟨g, 0, none⟩) 10 lc) (some 39) rfl rfl (by kernel_rfl) (by kernel_rfl) (fun wq hw => by go_simp) hHeld ?_
   simp only [Act.put, sQ1, sQ2, sQ3]
   refine dtk (i := 13) (v := .pointer (some ⟨g, 4, none⟩)) (some 40) rfl rfl (by kernel_rfl) (by kernel_rfl) (fun wq hw => by go_simp) hHeld ?_
   simp only [Act.put, sQ1, sQ2, sQ3]
   refine dtk (i := 14) (v := .int .i64 x4) (some 41) rfl rfl (by kernel_rfl) (by kernel_rfl) (fun wq hw => by have q9 := hw.2.2.2.2.1; go_simp) hHeld ?_
   simp only [Act.put, sQ1, sQ2, sQ3]
   refine dtk (i := 15) (v := .slice (some ⟨g, 0, none⟩) 10 lc) (some 42) rfl rfl (by kernel_rfl) (by kernel_rfl) (fun wq hw => by go_simp) hHeld ?_
   simp only [Act.put, sQ1, sQ2, sQ3]
   refine dtk (i := 16) (v := .pointer (some ⟨g, 5, none⟩)) (some 43) rfl rfl (by kernel_rfl) (by kernel_rfl) (fun wq hw => by go_simp) hHeld ?_
   simp only [Act.put, sQ1, sQ2, sQ3]
   refine dtk (i := 17) (v := .int .i64 x5) (some 44) rfl rfl (by kernel_rfl) (by kernel_rfl) (fun wq hw => by have q9 := hw.2.2.2.2.2.1; go_simp) hHeld ?_
   simp only [Act.put, sQ1, sQ2, sQ3]
   refine dtk (i := 18) (v := .slice (some ⟨g, 0, none⟩) 10 lc) (some 45) rfl rfl (by kernel_rfl) (by kernel_rfl) (fun wq hw => by go_simp) hHeld ?_
   simp only [Act.put, sQ1, sQ2, sQ3]
   refine dtk (i := 19) (v := .pointer (some ⟨g, 6, none⟩)) (some 46) rfl rfl (by kernel_rfl) (by kernel_rfl) (fun wq hw => by go_simp) hHeld ?_
   simp only [Act.put, sQ1, sQ2, sQ3]
   refine dtk (i := 20) (v := .int .i64 x6) (some 47) rfl rfl (by kernel_rfl) (by kernel_rfl) (fun wq hw => by have q9 := hw.2.2.2.2.2.2.1; go_simp) hHeld ?_
   simp only [Act.put, sQ1, sQ2, sQ3]
   refine dtk (i := 21) (v := .slice (some ⟨g, 0, none⟩) 10 lc) (some 48) rfl rfl (by kernel_rfl) (by kernel_rfl) (fun wq hw => by go_simp) hHeld ?_
   simp only [Act.put, sQ1, sQ2, sQ3]
   refine dtk (i := 22) (v := .pointer (some ⟨g, 7, none⟩)) (some 49) rfl rfl (by kernel_rfl) (by kernel_rfl) (fun wq hw => by go_simp) hHeld ?_
   simp only [Act.put, sQ1, sQ2, sQ3]
   refine dtk (i := 23) (v := .int .i64 x7) (some 50) rfl rfl (by kernel_rfl) (by kernel_rfl) (fun wq hw => by have q9 := hw.2.2.2.2.2.2.2.1; go_simp) hHeld ?_
   simp only [Act.put, sQ1, sQ2, sQ3]
   refine dtk (i := 24) (v := .slice (some ⟨g, 0, none⟩) 10 lc) (some 51) rfl rfl (by kernel_rfl) (by kernel_rfl) (fun wq hw => by go_simp) hHeld ?_
   simp only [Act.put, sQ1, sQ2, sQ3]
   refine dtk (i := 25) (v := .pointer (some ⟨g, 8, none⟩)) (some 52) rfl rfl (by kernel_rfl) (by kernel_rfl) (fun wq hw => by go_simp) hHeld ?_
   simp only [Act.put, sQ1, sQ2, sQ3]
   refine dtk (i := 26) (v := .int .i64 x8) (some 53) rfl rfl (by kernel_rfl) (by kernel_rfl) (fun wq hw => by have q9 := hw.2.2.2.2.2.2.2.2.1; go_simp) hHeld ?_
   simp only [Act.put, sQ1, sQ2, sQ3]
   refine dtk (i := 27) (v := .slice (some ⟨g, 0, none⟩) 10 lc) (some 54) rfl rfl (by kernel_rfl) (by kernel_rfl) (fun wq hw => by go_simp) hHeld ?_
   simp only [Act.put, sQ1, sQ2, sQ3]
   refine dtk (i := 28) (v := .pointer (some ⟨g, 9, none⟩)) (some 55) rfl rfl (by kernel_rfl) (by kernel_rfl) (fun wq hw => by go_simp) hHeld ?_
   simp only [Act.put, sQ1, sQ2, sQ3]
   refine dtk (i := 29) (v := .int .i64 x9) (some 56) rfl rfl (by kernel_rfl) (by kernel_rfl) (fun wq hw => by have q9 := hw.2.2.2.2.2.2.2.2.2; go_simp) hHeld ?_
   simp only [Act.put, sQ1, sQ2, sQ3]
   refine dtk (i := 30) (v := .agg (tQ x0 x1 x2 x3 x4 x5 x6 x7 x8 x9)) (some 57) rfl rfl (by kernel_rfl) (by kernel_rfl) (fun wq hw => by go_simp) hHeld ?_
   simp only [Act.put, sQ1, sQ2, sQ3]
   refine wpAnyH_ready (rs := [31]) (by kernel_rfl) (by simp) ?_
   refine rdy_val (i := 31) rfl rfl (some 8) rfl (.pointer (some ⟨wr.heap.size, 0, none⟩)) (wr.drew.alloc (.cells (tQ 0 0 0 0 0 0 0 0 0 0) 58)) (by go_simp) (keepS _) (fun hHeld => ?_) rdy_nil
   simp only [Act.put, sQ1, sQ2, sQ3]
   refine wpAnyH_ready (rs := [32]) (by kernel_rfl) (by simp) ?_
   refine rdy_unit (i := 32) rfl rfl none rfl (wr.drew.alloc (.cells (tQ x0 x1 x2 x3 x4 x5 x6 x7 x8 x9) 58)) (by go_simp) (keepS _) (fun hHeld => ?_) rdy_nil
   simp only [Act.put]
   refine wpAnyH_done (by kernel_rfl) ?_ _
   refine NoPanic.normal ?_
   clear hHeld
   clear keepS
   go_wp2_with fail
   refine (HCan.out _ x0 x1 x2 x3 x4 x5 x6 x7 x8 x9).mono ?_
   rw [HCN.out]
   rintro e w3 ⟨rfl, hb3⟩
   have hb23 := HB2.out.alloc HB2.out.size (.cells (tQ x0 x1 x2 x3 x4 x5 x6 x7 x8 x9) 58)
   have HB3 := hidn (hb23.trans (hb3.mono hb23.size))
   have HZ3 := hidn ((hb3.block w.heap.size (by show w.heap.size < (wr.alloc _).heap.size; rw [World.size_alloc]; omega)).trans ((Below.heap_alloc wr.drew _ _ (show w.heap.size < wr.heap.size by omega)).trans HZ2.out))
   clear kc0 kc1 kc2 kc3 kc4 kc5 kc6 kc7 kc8 kc9
   obtain ⟨hc0, hc1, hc2, hc3, hc4, hc5, hc6, hc7, hc8, hc9⟩ := ten_cells (g := wr.heap.size) ((hb3.block wr.heap.size (by show wr.heap.size < (wr.alloc _).heap.size; rw [World.size_alloc]; omega)).trans (heap_alloc_new wr.drew _))
   clear hb3 hb23 hs2 HZ2
   simp only []
   go_at_K
   repeat (first
    | (with_reducible refine wpList_store_row (by rfl) 58 (.tmp 2) (.tmp 62) (by rfl) w.heap.size (tQ x0 x1 x2 x3 x4 x5 x6 x7 x8 x9) (by kernel_rfl) (by kernel_rfl) 58 (tQ 0 0 0 0 0 0 0 0 0 0) HZ3.out (by kernel_rfl) (by kernel_rfl) (by kernel_rfl) ?_)
    | go_values | go_skip | go_guarded | go_step | go_upon)
   exact bodyPost_ret (v := .tuple #[.agg (tQ x0 x1 x2 x3 x4 x5 x6 x7 x8 x9), .int .i64 0]) (results_cell_row_tmp rfl _ _ w.heap.size 58 (tQ x0 x1 x2 x3 x4 x5 x6 x7 x8 x9) (0, 0) _ rfl (setRow_heap _ _ _ _ _ _ HZ3.out) Tryz.underlying58 rfl (by kernel_rfl) _ rfl) rfl ⟨rfl, below_setRow HB3.out (Nat.le_refl _) _⟩
set_option maxRecDepth 100000 in
set_option maxHeartbeats 8000000 in
theorem refDecode_no (w : World) (b off cap : Nat) (zs : List Nat) (hl : zs.length = 80) (hz : ∀ x ∈ zs, x < 256) (hcp : 80 ≤ cap) (hc : ∀ q, q < 80 → w.cell? ⟨b, off + q, none⟩ = some (.int .u8 ((zs.getD q 0 : Nat) : Int))) (x0 x1 x2 x3 x4 x5 x6 x7 x8 x9 : Int) (hx : fieldsI zs = [x0, x1, x2, x3, x4, x5, x6, x7, x8, x9]) (hcan : ancB x0 x1 x2 x3 x4 x7 x8 x9 = false) :
  Calls Tryz.prog 80 #[.slice (some ⟨b, off, none⟩) 80 cap] w fun e w' => e = .returned (.tuple #[.agg (tQ 0 0 0 0 0 0 0 0 0 0), .int .i64 5]) ∧ Below w.heap.size w w' := by
 obtain ⟨i0, hi, hz0, hz1, hz2⟩ := info_parts infoIntA
 have HL := hidn hl
 have HZ := hidn hz
 have HXS := hidn hx
 have HCan := hidn refCan_any
 have HCN := hidn hcan
 have HC := hidn (fun q hq => ((below1 w (.cells (tQ 0 0 0 0 0 0 0 0 0 0) 58)).cell (block_lt_of_cell (hc q hq))).trans (hc q hq))
 have HB0 := hidn (below1 w (.cells (tQ 0 0 0 0 0 0 0 0 0 0) 58))
 have HZ0 := hidn (heap_alloc_new w (.cells (tQ 0 0 0 0 0 0 0 0 0 0) 58))
 have hs0 : (w.alloc (.cells (tQ 0 0 0 0 0 0 0 0 0 0) 58)).heap.size = w.heap.size + 1 := World.size_alloc _ _
 clear hl hz hc hx hcan
 go_enter Tryz.func80, Tryz.ntmps80
 go_wp2_with fail
 generalize w.alloc (.cells (tQ 0 0 0 0 0 0 0 0 0 0) 58) = W0 at *
 go_loopw [0, 4] (fun bv lv wr => ∃ k : Nat, ((k = 0 ∧ bv = .slice (some ⟨b, off + 0, none⟩) 80 (cap - 0)) ∨ (k = 1 ∧ bv = .slice (some ⟨b, off + 8, none⟩) 72 (cap - 8)) ∨ (k = 2 ∧ bv = .slice (some ⟨b, off + 16, none⟩) 64 (cap - 16)) ∨ (k = 3 ∧ bv = .slice (some ⟨b, off + 24, none⟩) 56 (cap - 24)) ∨ (k = 4 ∧ bv = .slice (some ⟨b, off + 32, none⟩) 48 (cap - 32)) ∨ (k = 5 ∧ bv = .slice (some ⟨b, off + 40, none⟩) 40 (cap - 40)) ∨ (k = 6 ∧ bv = .slice (some ⟨b, off + 48, none⟩) 32 (cap - 48)) ∨ (k = 7 ∧ bv = .slice (some ⟨b, off + 56, none⟩) 24 (cap - 56)) ∨ (k = 8 ∧ bv = .slice (some ⟨b, off + 64, none⟩) 16 (cap - 64)) ∨ (k = 9 ∧ bv = .slice (some ⟨b, off + 72, none⟩) 8 (cap - 72)) ∨ (k = 10 ∧ ∃ o, bv = .slice (some ⟨b, o, none⟩) 0 (cap - 80))) ∧ Hid (wr.ownsRow W0.heap.size 3 1 lv k (fvT zs k)) ∧ Hid (Below W0.heap.size W0 wr)) (fun bv _ _ => lenV bv)
 case atStart => exact ⟨0, Or.inl ⟨rfl, rfl⟩, hidn (World.ownsRow_nil _ _ _ _), hidn (Below.refl _ _)⟩
 case round =>
  obtain ⟨k, hcase, HO, HB⟩ := hrel
  rcases hcase with ⟨rfl, rfl⟩ | ⟨rfl, rfl⟩ | ⟨rfl, rfl⟩ | ⟨rfl, rfl⟩ | ⟨rfl, rfl⟩ | ⟨rfl, rfl⟩ | ⟨rfl, rfl⟩ | ⟨rfl, rfl⟩ | ⟨rfl, rfl⟩ | ⟨rfl, rfl⟩ | ⟨rfl, o2, rfl⟩
  ·
   have HG := hidn (int_0 wr b (off + 0) (cap - 0) (off + 8) (cap - 8) ((zs.drop 0).take 8) (part_len HL.out 0 (by omega)).symm (part_lt HZ.out 0) (by omega) (by omega) (by omega) (fun j hj => part_cell HL.out (fun q hq => (HB.out.cell (block_lt_of_cell (HC.out q hq))).trans (HC.out q hq)) 0 (by omega) j hj))
   go_wp2_with fail
   refine HG.out.mono ?_
   clear HG
   rintro e w2 ⟨rfl, hb2⟩
   obtain ⟨x, hx⟩ : ∃ x, x = IntKind.i64.wrap ((getB 0 ((zs.drop 0).take 8) : Nat) : Int) := ⟨_, rfl⟩
   rw [← hx]
   have HX : Hid (x = fld zs 0) := hidn (by rw [hx]; rfl)
   clear hx
   have hO2 := own_belowA HO.out hb2
   have HB2 := hidn (HB.out.trans (hb2.mono HB.out.size))
   have hbA := below1 w2 (.cells #[.int .i64 x] 3)
   have hO3 := own_belowA hO2 hbA
   have hb3 := HB2.out.trans (hbA.mono HB2.out.size)
   obtain ⟨v3, w3, hrun, hown3, hgr3⟩ := appAny (w2.alloc (.cells #[.int .i64 x] 3)) W0.heap.size 166 166 3 i0 _ 1 8 Tryz.underlying166 hi hz0 hz1 hz2 rfl (by decide) u4 0 (fvT zs 0) hO3 hb3.size (some ⟨w2.heap.size, 0, none⟩) 1 1 [.int .i64 x] rfl (fun e => by cases e) (fun y hy j u hu => by
    cases hy
    match j, hu with
    | 0, hu => cases hu; rw [add_none]; exact cell_of_row _ _ _ _ _ _ (heap_alloc_new _ _)) (fun u hu => by simp at hu; subst hu; rfl) (by unfold maxLen; omega) (by omega)
   have HB3 : Hid (Below W0.heap.size W0 w3) := hidn (hb3.grown hgr3 hb3.size (fun k hk => (hO3.lt k hk).1))
   have HO3 : Hid (w3.ownsRow W0.heap.size 3 1 v3 1 (fvT zs 1)) := hidn (by rw [fvT_succ zs 0 (by omega), ← HX.out]; exact hown3)
   have HRUN := hidn hrun
   clear hrun hown3 hgr3 hO2 hO3 hb2 hb3 hbA HO
   go_wp2_with (at_builtin; refine wpList_app_runA rfl _ _ 166 166 rfl rfl _ _ _ rfl rfl HRUN.out ?_; clear HRUN)
   go_roundw
   case rel => exact ⟨1, Or.inr (Or.inl ⟨rfl, rfl⟩), HO3, HB3⟩
   case measure => simp [lenV]
  ·
   have HG := hidn (int_1 wr b (off + 8) (cap - 8) (off + 16) (cap - 16) ((zs.drop 8).take 8) (part_len HL.out 8 (by omega)).symm (part_lt HZ.out 8) (by omega) (by omega) (by omega) (fun j hj => part_cell HL.out (fun q hq => (HB.out.cell (block_lt_of_cell (HC.out q hq))).trans (HC.out q hq)) 8 (by omega) j hj))
   go_wp2_with fail
   refine HG.out.mono ?_
   clear HG
   rintro e w2 ⟨rfl, hb2⟩
   obtain ⟨x, hx⟩ : ∃ x, x = IntKind.i64.wrap ((getB 0 ((zs.drop 8).take 8) : Nat) : Int) := ⟨_, rfl⟩
   rw [← hx]
   have HX : Hid (x = fld zs 1) := hidn (by rw [hx]; rfl)
   clear hx
   have hO2 := own_belowA HO.out hb2
   have HB2 := hidn (HB.out.trans (hb2.mono HB.out.size))
   have hbA := below1 w2 (.cells #[.int .i64 x] 3)
   have hO3 := own_belowA hO2 hbA
   have hb3 := HB2.out.trans (hbA.mono HB2.out.size)
   obtain ⟨v3, w3, hrun, hown3, hgr3⟩ := appAny (w2.alloc (.cells #[.int .i64 x] 3)) W0.heap.size 166 166 3 i0 _ 1 8 Tryz.underlying166 hi hz0 hz1 hz2 rfl (by decide) u4 1 (fvT zs 1) hO3 hb3.size (some ⟨w2.heap.size, 0, none⟩) 1 1 [.int .i64 x] rfl (fun e => by cases e) (fun y hy j u hu => by
    cases hy
    match j, hu with
    | 0, hu => cases hu; rw [add_none]; exact cell_of_row _ _ _ _ _ _ (heap_alloc_new _ _)) (fun u hu => by simp at hu; subst hu; rfl) (by unfold maxLen; omega) (by omega)
   have HB3 : Hid (Below W0.heap.size W0 w3) := hidn (hb3.grown hgr3 hb3.size (fun k hk => (hO3.lt k hk).1))
   have HO3 : Hid (w3.ownsRow W0.heap.size 3 1 v3 2 (fvT zs 2)) := hidn (by rw [fvT_succ zs 1 (by omega), ← HX.out]; exact hown3)
   have HRUN := hidn hrun
   clear hrun hown3 hgr3 hO2 hO3 hb2 hb3 hbA HO
   go_wp2_with (at_builtin; refine wpList_app_runA rfl _ _ 166 166 rfl rfl _ _ _ rfl rfl HRUN.out ?_; clear HRUN)
   go_roundw
   case rel => exact ⟨2, Or.inr (Or.inr (Or.inl ⟨rfl, rfl⟩)), HO3, HB3⟩
   case measure => simp [lenV]
  ·
   have HG := hidn (int_2 wr b (off + 16) (cap - 16) (off + 24) (cap - 24) ((zs.drop 16).take 8) (part_len HL.out 16 (by omega)).symm (part_lt HZ.out 16) (by omega) (by omega) (by omega) (fun j hj => part_cell HL.out (fun q hq => (HB.out.cell (block_lt_of_cell (HC.out q hq))).trans (HC.out q hq)) 16 (by omega) j hj))
   go_wp2_with fail
   refine HG.out.mono ?_
   clear HG
   rintro e w2 ⟨rfl, hb2⟩
   obtain ⟨x, hx⟩ : ∃ x, x = IntKind.i64.wrap ((getB 0 ((zs.drop 16).take 8) : Nat) : Int) := ⟨_, rfl⟩
   rw [← hx]
   have HX : Hid (x = fld zs 2) := hidn (by rw [hx]; rfl)
   clear hx
   have hO2 := own_belowA HO.out hb2
   have HB2 := hidn (HB.out.trans (hb2.mono HB.out.size))
   have hbA := below1 w2 (.cells #[.int .i64 x] 3)
   have hO3 := own_belowA hO2 hbA
   have hb3 := HB2.out.trans (hbA.mono HB2.out.size)
   obtain ⟨v3, w3, hrun, hown3, hgr3⟩ := appAny (w2.alloc (.cells #[.int .i64 x] 3)) W0.heap.size 166 166 3 i0 _ 1 8 Tryz.underlying166 hi hz0 hz1 hz2 rfl (by decide) u4 2 (fvT zs 2) hO3 hb3.size (some ⟨w2.heap.size, 0, none⟩) 1 1 [.int .i64 x] rfl (fun e => by cases e) (fun y hy j u hu => by
    cases hy
    match j, hu with
    | 0, hu => cases hu; rw [add_none]; exact cell_of_row _ _ _ _ _ _ (heap_alloc_new _ _)) (fun u hu => by simp at hu; subst hu; rfl) (by unfold maxLen; omega) (by omega)
   have HB3 : Hid (Below W0.heap.size W0 w3) := hidn (hb3.grown hgr3 hb3.size (fun k hk => (hO3.lt k hk).1))
   have HO3 : Hid (w3.ownsRow W0.heap.size 3 1 v3 3 (fvT zs 3)) := hidn (by rw [fvT_succ zs 2 (by omega), ← HX.out]; exact hown3)
   have HRUN := hidn hrun
   clear hrun hown3 hgr3 hO2 hO3 hb2 hb3 hbA HO
   go_wp2_with (at_builtin; refine wpList_app_runA rfl _ _ 166 166 rfl rfl _ _ _ rfl rfl HRUN.out ?_; clear HRUN)
   go_roundw
   case rel => exact ⟨3, Or.inr (Or.inr (Or.inr (Or.inl ⟨rfl, rfl⟩))), HO3, HB3⟩
   case measure => simp [lenV]
  ·
   have HG := hidn (int_3 wr b (off + 24) (cap - 24) (off + 32) (cap - 32) ((zs.drop 24).take 8) (part_len HL.out 24 (by omega)).symm (part_lt HZ.out 24) (by omega) (by omega) (by omega) (fun j hj => part_cell HL.out (fun q hq => (HB.out.cell (block_lt_of_cell (HC.out q hq))).trans (HC.out q hq)) 24 (by omega) j hj))
   go_wp2_with fail
   refine HG.out.mono ?_
   clear HG
   rintro e w2 ⟨rfl, hb2⟩
   obtain ⟨x, hx⟩ : ∃ x, x = IntKind.i64.wrap ((getB 0 ((zs.drop 24).take 8) : Nat) : Int) := ⟨_, rfl⟩
   rw [← hx]
   have HX : Hid (x = fld zs 3) := hidn (by rw [hx]; rfl)
   clear hx
   have hO2 := own_belowA HO.out hb2
   have HB2 := hidn (HB.out.trans (hb2.mono HB.out.size))
   have hbA := below1 w2 (.cells #[.int .i64 x] 3)
   have hO3 := own_belowA hO2 hbA
   have hb3 := HB2.out.trans (hbA.mono HB2.out.size)
   obtain ⟨v3, w3, hrun, hown3, hgr3⟩ := appAny (w2.alloc (.cells #[.int .i64 x] 3)) W0.heap.size 166 166 3 i0 _ 1 8 Tryz.underlying166 hi hz0 hz1 hz2 rfl (by decide) u4 3 (fvT zs 3) hO3 hb3.size (some ⟨w2.heap.size, 0, none⟩) 1 1 [.int .i64 x] rfl (fun e => by cases e) (fun y hy j u hu => by
    cases hy
    match j, hu with
    | 0, hu => cases hu; rw [add_none]; exact cell_of_row _ _ _ _ _ _ (heap_alloc_new _ _)) (fun u hu => by simp at hu; subst hu; rfl) (by unfold maxLen; omega) (by omega)
   have HB3 : Hid (Below W0.heap.size W0 w3) := hidn (hb3.grown hgr3 hb3.size (fun k hk => (hO3.lt k hk).1))
   have HO3 : Hid (w3.ownsRow W0.heap.size 3 1 v3 4 (fvT zs 4)) := hidn (by rw [fvT_succ zs 3 (by omega), ← HX.out]; exact hown3)
   have HRUN := hidn hrun
   clear hrun hown3 hgr3 hO2 hO3 hb2 hb3 hbA HO
   go_wp2_with (at_builtin; refine wpList_app_runA rfl _ _ 166 166 rfl rfl _ _ _ rfl rfl HRUN.out ?_; clear HRUN)
   go_roundw
   case rel => exact ⟨4, Or.inr (Or.inr (Or.inr (Or.inr (Or.inl ⟨rfl, rfl⟩)))), HO3, HB3⟩
   case measure => simp [lenV]
  ·
   have HG := hidn (int_4 wr b (off + 32) (cap - 32) (off + 40) (cap - 40) ((zs.drop 32).take 8) (part_len HL.out 32 (by omega)).symm (part_lt HZ.out 32) (by omega) (by omega) (by omega) (fun j hj => part_cell HL.out (fun q hq => (HB.out.cell (block_lt_of_cell (HC.out q hq))).trans (HC.out q hq)) 32 (by omega) j hj))
   go_wp2_with fail
   refine HG.out.mono ?_
   clear HG
   rintro e w2 ⟨rfl, hb2⟩
   obtain ⟨x, hx⟩ : ∃ x, x = IntKind.i64.wrap ((getB 0 ((zs.drop 32).take 8) : Nat) : Int) := ⟨_, rfl⟩
   rw [← hx]
   have HX : Hid (x = fld zs 4) := hidn (by rw [hx]; rfl)
   clear hx
   have hO2 := own_belowA HO.out hb2
   have HB2 := hidn (HB.out.trans (hb2.mono HB.out.size))
   have hbA := below1 w2 (.cells #[.int .i64 x] 3)
   have hO3 := own_belowA hO2 hbA
   have hb3 := HB2.out.trans (hbA.mono HB2.out.size)
   obtain ⟨v3, w3, hrun, hown3, hgr3⟩ := appAny (w2.alloc (.cells #[.int .i64 x] 3)) W0.heap.size 166 166 3 i0 _ 1 8 Tryz.underlying166 hi hz0 hz1 hz2 rfl (by decide) u4 4 (fvT zs 4) hO3 hb3.size (some ⟨w2.heap.size, 0, none⟩) 1 1 [.int .i64 x] rfl (fun e => by cases e) (fun y hy j u hu => by
    cases hy
    match j, hu with
    | 0, hu => cases hu; rw [add_none]; exact cell_of_row _ _ _ _ _ _ (heap_alloc_new _ _)) (fun u hu => by simp at hu; subst hu; rfl) (by unfold maxLen; omega) (by omega)
   have HB3 : Hid (Below W0.heap.size W0 w3) := hidn (hb3.grown hgr3 hb3.size (fun k hk => (hO3.lt k hk).1))
   have HO3 : Hid (w3.ownsRow W0.heap.size 3 1 v3 5 (fvT zs 5)) := hidn (by rw [fvT_succ zs 4 (by omega), ← HX.out]; exact hown3)
   have HRUN := hidn hrun
   clear hrun hown3 hgr3 hO2 hO3 hb2 hb3 hbA HO
   go_wp2_with (at_builtin; refine wpList_app_runA rfl _ _ 166 166 rfl rfl _ _ _ rfl rfl HRUN.out ?_; clear HRUN)
   go_roundw
   case rel => exact ⟨5, Or.inr (Or.inr (Or.inr (Or.inr (Or.inr (Or.inl ⟨rfl, rfl⟩))))), HO3, HB3⟩
   case measure => simp [lenV]
  ·
   have HG := hidn (int_5 wr b (off + 40) (cap - 40) (off + 48) (cap - 48) ((zs.drop 40).take 8) (part_len HL.out 40 (by omega)).symm (part_lt HZ.out 40) (by omega) (by omega) (by omega) (fun j hj => part_cell HL.out (fun q hq => (HB.out.cell (block_lt_of_cell (HC.out q hq))).trans (HC.out q hq)) 40 (by omega) j hj))
   go_wp2_with fail
   refine HG.out.mono ?_
   clear HG
   rintro e w2 ⟨rfl, hb2⟩
   obtain ⟨x, hx⟩ : ∃ x, x = IntKind.i64.wrap ((getB 0 ((zs.drop 40).take 8) : Nat) : Int) := ⟨_, rfl⟩
   rw [← hx]
   have HX : Hid (x = fld zs 5) := hidn (by rw [hx]; rfl)
   clear hx
   have hO2 := own_belowA HO.out hb2
   have HB2 := hidn (HB.out.trans (hb2.mono HB.out.size))
   have hbA := below1 w2 (.cells #[.int .i64 x] 3)
   have hO3 := own_belowA hO2 hbA
   have hb3 := HB2.out.trans (hbA.mono HB2.out.size)
   obtain ⟨v3, w3, hrun, hown3, hgr3⟩ := appAny (w2.alloc (.cells #[.int .i64 x] 3)) W0.heap.size 166 166 3 i0 _ 1 8 Tryz.underlying166 hi hz0 hz1 hz2 rfl (by decide) u4 5 (fvT zs 5) hO3 hb3.size (some ⟨w2.heap.size, 0, none⟩) 1 1 [.int .i64 x] rfl (fun e => by cases e) (fun y hy j u hu => by
    cases hy
    match j, hu with
    | 0, hu => cases hu; rw [add_none]; exact cell_of_row _ _ _ _ _ _ (heap_alloc_new _ _)) (fun u hu => by simp at hu; subst hu; rfl) (by unfold maxLen; omega) (by omega)
   have HB3 : Hid (Below W0.heap.size W0 w3) := hidn (hb3.grown hgr3 hb3.size (fun k hk => (hO3.lt k hk).1))
   have HO3 : Hid (w3.ownsRow W0.heap.size 3 1 v3 6 (fvT zs 6)) := hidn (by rw [fvT_succ zs 5 (by omega), ← HX.out]; exact hown3)
   have HRUN := hidn hrun
   clear hrun hown3 hgr3 hO2 hO3 hb2 hb3 hbA HO
   go_wp2_with (at_builtin; refine wpList_app_runA rfl _ _ 166 166 rfl rfl _ _ _ rfl rfl HRUN.out ?_; clear HRUN)
   go_roundw
   case rel => exact ⟨6, Or.inr (Or.inr (Or.inr (Or.inr (Or.inr (Or.inr (Or.inl ⟨rfl, rfl⟩)))))), HO3, HB3⟩
   case measure => simp [lenV]
  ·
   have HG := hidn (int_6 wr b (off + 48) (cap - 48) (off + 56) (cap - 56) ((zs.drop 48).take 8) (part_len HL.out 48 (by omega)).symm (part_lt HZ.out 48) (by omega) (by omega) (by omega) (fun j hj => part_cell HL.out (fun q hq => (HB.out.cell (block_lt_of_cell (HC.out q hq))).trans (HC.out q hq)) 48 (by omega) j hj))
   go_wp2_with fail
   refine HG.out.mono ?_
   clear HG
   rintro e w2 ⟨rfl, hb2⟩
   obtain ⟨x, hx⟩ : ∃ x, x = IntKind.i64.wrap ((getB 0 ((zs.drop 48).take 8) : Nat) : Int) := ⟨_, rfl⟩
   rw [← hx]
   have HX : Hid (x = fld zs 6) := hidn (by rw [hx]; rfl)
   clear hx
   have hO2 := own_belowA HO.out hb2
   have HB2 := hidn (HB.out.trans (hb2.mono HB.out.size))
   have hbA := below1 w2 (.cells #[.int .i64 x] 3)
   have hO3 := own_belowA hO2 hbA
   have hb3 := HB2.out.trans (hbA.mono HB2.out.size)
   obtain ⟨v3, w3, hrun, hown3, hgr3⟩ := appAny (w2.alloc (.cells #[.int .i64 x] 3)) W0.heap.size 166 166 3 i0 _ 1 8 Tryz.underlying166 hi hz0 hz1 hz2 rfl (by decide) u4 6 (fvT zs 6) hO3 hb3.size (some ⟨w2.heap.size, 0, none⟩) 1 1 [.int .i64 x] rfl (fun e => by cases e) (fun y hy j u hu => by
    cases hy
    match j, hu with
    | 0, hu => cases hu; rw [add_none]; exact cell_of_row _ _ _ _ _ _ (heap_alloc_new _ _)) (fun u hu => by simp at hu; subst hu; rfl) (by unfold maxLen; omega) (by omega)
   have HB3 : Hid (Below W0.heap.size W0 w3) := hidn (hb3.grown hgr3 hb3.size (fun k hk => (hO3.lt k hk).1))
   have HO3 : Hid (w3.ownsRow W0.heap.size 3 1 v3 7 (fvT zs 7)) := hidn (by rw [fvT_succ zs 6 (by omega), ← HX.out]; exact hown3)
   have HRUN := hidn hrun
   clear hrun hown3 hgr3 hO2 hO3 hb2 hb3 hbA HO
   go_wp2_with (at_builtin; refine wpList_app_runA rfl _ _ 166 166 rfl rfl _ _ _ rfl rfl HRUN.out ?_; clear HRUN)
   go_roundw
   case rel => exact ⟨7, Or.inr (Or.inr (Or.inr (Or.inr (Or.inr (Or.inr (Or.inr (Or.inl ⟨rfl, rfl⟩))))))), HO3, HB3⟩
   case measure => simp [lenV]
  ·
   have HG := hidn (int_7 wr b (off + 56) (cap - 56) (off + 64) (cap - 64) ((zs.drop 56).take 8) (part_len HL.out 56 (by omega)).symm (part_lt HZ.out 56) (by omega) (by omega) (by omega) (fun j hj => part_cell HL.out (fun q hq => (HB.out.cell (block_lt_of_cell (HC.out q hq))).trans (HC.out q hq)) 56 (by omega) j hj))
   go_wp2_with fail
   refine HG.out.mono ?_
   clear HG
   rintro e w2 ⟨rfl, hb2⟩
   obtain ⟨x, hx⟩ : ∃ x, x = IntKind.i64.wrap ((getB 0 ((zs.drop 56).take 8) : Nat) : Int) := ⟨_, rfl⟩
   rw [← hx]
   have HX : Hid (x = fld zs 7) := hidn (by rw [hx]; rfl)
   clear hx
   have hO2 := own_belowA HO.out hb2
   have HB2 := hidn (HB.out.trans (hb2.mono HB.out.size))
   have hbA := below1 w2 (.cells #[.int .i64 x] 3)
   have hO3 := own_belowA hO2 hbA
   have hb3 := HB2.out.trans (hbA.mono HB2.out.size)
   obtain ⟨v3, w3, hrun, hown3, hgr3⟩ := appAny (w2.alloc (.cells #[.int .i64 x] 3)) W0.heap.size 166 166 3 i0 _ 1 8 Tryz.underlying166 hi hz0 hz1 hz2 rfl (by decide) u4 7 (fvT zs 7) hO3 hb3.size (some ⟨w2.heap.size, 0, none⟩) 1 1 [.int .i64 x] rfl (fun e => by cases e) (fun y hy j u hu => by
    cases hy
    match j, hu with
    | 0, hu => cases hu; rw [add_none]; exact cell_of_row _ _ _ _ _ _ (heap_alloc_new _ _)) (fun u hu => by simp at hu; subst hu; rfl) (by unfold maxLen; omega) (by omega)
   have HB3 : Hid (Below W0.heap.size W0 w3) := hidn (hb3.grown hgr3 hb3.size (fun k hk => (hO3.lt k hk).1))
   have HO3 : Hid (w3.ownsRow W0.heap.size 3 1 v3 8 (fvT zs 8)) := hidn (by rw [fvT_succ zs 7 (by omega), ← HX.out]; exact hown3)
   have HRUN := hidn hrun
   clear hrun hown3 hgr3 hO2 hO3 hb2 hb3 hbA HO
   go_wp2_with (at_builtin; refine wpList_app_runA rfl _ _ 166 166 rfl rfl _ _ _ rfl rfl HRUN.out ?_; clear HRUN)
   go_roundw
   case rel => exact ⟨8, Or.inr (Or.inr (Or.inr (Or.inr (Or.inr (Or.inr (Or.inr (Or.inr (Or.inl ⟨rfl, rfl⟩)))))))), HO3, HB3⟩
   case measure => simp [lenV]
  ·
   have HG := hidn (int_8 wr b (off + 64) (cap - 64) (off + 72) (cap - 72) ((zs.drop 64).take 8) (part_len HL.out 64 (by omega)).symm (part_lt HZ.out 64) (by omega) (by omega) (by omega) (fun j hj => part_cell HL.out (fun q hq => (HB.out.cell (block_lt_of_cell (HC.out q hq))).trans (HC.out q hq)) 64 (by omega) j hj))
   go_wp2_with fail
   refine HG.out.mono ?_
   clear HG
   rintro e w2 ⟨rfl, hb2⟩
   obtain ⟨x, hx⟩ : ∃ x, x = IntKind.i64.wrap ((getB 0 ((zs.drop 64).take 8) : Nat) : Int) := ⟨_, rfl⟩
   rw [← hx]
   have HX : Hid (x = fld zs 8) := hidn (by rw [hx]; rfl)
   clear hx
   have hO2 := own_belowA HO.out hb2
   have HB2 := hidn (HB.out.trans (hb2.mono HB.out.size))
   have hbA := below1 w2 (.cells #[.int .i64 x] 3)
   have hO3 := own_belowA hO2 hbA
   have hb3 := HB2.out.trans (hbA.mono HB2.out.size)
   obtain ⟨v3, w3, hrun, hown3, hgr3⟩ := appAny (w2.alloc (.cells #[.int .i64 x] 3)) W0.heap.size 166 166 3 i0 _ 1 8 Tryz.underlying166 hi hz0 hz1 hz2 rfl (by decide) u4 8 (fvT zs 8) hO3 hb3.size (some ⟨w2.heap.size, 0, none⟩) 1 1 [.int .i64 x] rfl (fun e => by cases e) (fun y hy j u hu => by
    cases hy
    match j, hu with
    | 0, hu => cases hu; rw [add_none]; exact cell_of_row _ _ _ _ _ _ (heap_alloc_new _ _)) (fun u hu => by simp at hu; subst hu; rfl) (by unfold maxLen; omega) (by omega)
   have HB3 : Hid (Below W0.heap.size W0 w3) := hidn (hb3.grown hgr3 hb3.size (fun k hk => (hO3.lt k hk).1))
   have HO3 : Hid (w3.ownsRow W0.heap.size 3 1 v3 9 (fvT zs 9)) := hidn (by rw [fvT_succ zs 8 (by omega), ← HX.out]; exact hown3)
   have HRUN := hidn hrun
   clear hrun hown3 hgr3 hO2 hO3 hb2 hb3 hbA HO
   go_wp2_with (at_builtin; refine wpList_app_runA rfl _ _ 166 166 rfl rfl _ _ _ rfl rfl HRUN.out ?_; clear HRUN)
   go_roundw
   case rel => exact ⟨9, Or.inr (Or.inr (Or.inr (Or.inr (Or.inr (Or.inr (Or.inr (Or.inr (Or.inr (Or.inl ⟨rfl, rfl⟩))))))))), HO3, HB3⟩
   case measure => simp [lenV]
  ·
   have HG := hidn (int_9 wr b (off + 72) (cap - 72) ((zs.drop 72).take 8) (part_len HL.out 72 (by omega)).symm (part_lt HZ.out 72) (by omega) (fun j hj => part_cell HL.out (fun q hq => (HB.out.cell (block_lt_of_cell (HC.out q hq))).trans (HC.out q hq)) 72 (by omega) j hj))
   go_wp2_with fail
   refine HG.out.mono ?_
   clear HG
   rintro e w2 ⟨o2, rfl, hb2⟩
   obtain ⟨x, hx⟩ : ∃ x, x = IntKind.i64.wrap ((getB 0 ((zs.drop 72).take 8) : Nat) : Int) := ⟨_, rfl⟩
   rw [← hx]
   have HX : Hid (x = fld zs 9) := hidn (by rw [hx]; rfl)
   clear hx
   have hO2 := own_belowA HO.out hb2
   have HB2 := hidn (HB.out.trans (hb2.mono HB.out.size))
   have hbA := below1 w2 (.cells #[.int .i64 x] 3)
   have hO3 := own_belowA hO2 hbA
   have hb3 := HB2.out.trans (hbA.mono HB2.out.size)
   obtain ⟨v3, w3, hrun, hown3, hgr3⟩ := appAny (w2.alloc (.cells #[.int .i64 x] 3)) W0.heap.size 166 166 3 i0 _ 1 8 Tryz.underlying166 hi hz0 hz1 hz2 rfl (by decide) u4 9 (fvT zs 9) hO3 hb3.size (some ⟨w2.heap.size, 0, none⟩) 1 1 [.int .i64 x] rfl (fun e => by cases e) (fun y hy j u hu => by
    cases hy
    match j, hu with
    | 0, hu => cases hu; rw [add_none]; exact cell_of_row _ _ _ _ _ _ (heap_alloc_new _ _)) (fun u hu => by simp at hu; subst hu; rfl) (by unfold maxLen; omega) (by omega)
   have HB3 : Hid (Below W0.heap.size W0 w3) := hidn (hb3.grown hgr3 hb3.size (fun k hk => (hO3.lt k hk).1))
   have HO3 : Hid (w3.ownsRow W0.heap.size 3 1 v3 10 (fvT zs 10)) := hidn (by rw [fvT_succ zs 9 (by omega), ← HX.out]; exact hown3)
   have HRUN := hidn hrun
   clear hrun hown3 hgr3 hO2 hO3 hb2 hb3 hbA HO
   go_wp2_with (at_builtin; refine wpList_app_runA rfl _ _ 166 166 rfl rfl _ _ _ rfl rfl HRUN.out ?_; clear HRUN)
   go_roundw
   case rel => exact ⟨10, Or.inr (Or.inr (Or.inr (Or.inr (Or.inr (Or.inr (Or.inr (Or.inr (Or.inr (Or.inr (⟨rfl, _, rfl⟩)))))))))), HO3, HB3⟩
   case measure => simp [lenV]
  ·
   have hfv : fvT zs 10 = [.int .i64 x0, .int .i64 x1, .int .i64 x2, .int .i64 x3, .int .i64 x4, .int .i64 x5, .int .i64 x6, .int .i64 x7, .int .i64 x8, .int .i64 x9] := by rw [fvT_ten, HXS.out]; rfl
   have hO := HO.out
   rw [hfv] at hO
   obtain ⟨g, lc, e9⟩ : ∃ g lc, u4 = Value.slice (some ⟨g, 0, none⟩) 10 lc := by
    rcases hO.2 with ⟨_, h0⟩ | ⟨g, lc, cur, hv, _⟩
    ·
     cases h0
    ·
     exact ⟨g, lc, hv⟩
   subst e9
   have kc0 : wr.cell? ⟨g, 0, none⟩ = some (.int .i64 x0) := hO.cellAt 0 (by omega)
   have kc1 : wr.cell? ⟨g, 1, none⟩ = some (.int .i64 x1) := hO.cellAt 1 (by omega)
   have kc2 : wr.cell? ⟨g, 2, none⟩ = some (.int .i64 x2) := hO.cellAt 2 (by omega)
   have kc3 : wr.cell? ⟨g, 3, none⟩ = some (.int .i64 x3) := hO.cellAt 3 (by omega)
   have kc4 : wr.cell? ⟨g, 4, none⟩ = some (.int .i64 x4) := hO.cellAt 4 (by omega)
   have kc5 : wr.cell? ⟨g, 5, none⟩ = some (.int .i64 x5) := hO.cellAt 5 (by omega)
   have kc6 : wr.cell? ⟨g, 6, none⟩ = some (.int .i64 x6) := hO.cellAt 6 (by omega)
   have kc7 : wr.cell? ⟨g, 7, none⟩ = some (.int .i64 x7) := hO.cellAt 7 (by omega)
   have kc8 : wr.cell? ⟨g, 8, none⟩ = some (.int .i64 x8) := hO.cellAt 8 (by omega)
   have kc9 : wr.cell? ⟨g, 9, none⟩ = some (.int .i64 x9) := hO.cellAt 9 (by omega)
   have HZ2 := hidn ((HB.out.block w.heap.size (by omega)).trans HZ0.out)
   have HB2 := hidn (HB0.out.trans (HB.out.mono HB0.out.size))
   have hs2 : w.heap.size + 1 ≤ wr.heap.size := by have := HB.out.size; omega
   clear hO hfv HO HB HB0 HZ0
   have HB2 := hidn (HB2.out.drew)
   have HZ2 : Hid (wr.drew.heap[w.heap.size]? = some (.cells (tQ 0 0 0 0 0 0 0 0 0 0) 58 (0, 0))) := hidn HZ2.out
   have keepS : ∀ o : Obj, (fun w' : World => w'.cell? ⟨g, 0, none⟩ = some (.int .i64 x0) ∧ w'.cell? ⟨g, 1, none⟩ = some (.int .i64 x1) ∧ w'.cell? ⟨g, 2, none⟩ = some (.int .i64 x2) ∧ w'.cell? ⟨g, 3, none⟩ = some (.int .i64 x3) ∧ w'.cell? ⟨g, 4, none⟩ = some (.int .i64 x4) ∧ w'.cell? ⟨g, 5, none⟩ = some (.int .i64 x5) ∧ w'.cell? ⟨g, 6, none⟩ = some (.int .i64 x6) ∧ w'.cell? ⟨g, 7, none⟩ = some (.int .i64 x7) ∧ w'.cell? ⟨g, 8, none⟩ = some (.int .i64 x8) ∧ w'.cell? ⟨g, 9, none⟩ = some (.int .i64 x9)) (wr.drew.alloc o) := fun o => ⟨Lib.cell?_alloc_some o (show wr.drew.cell? ⟨g, 0, none⟩ = _ from kc0), Lib.cell?_alloc_some o (show wr.drew.cell? ⟨g, 1, none⟩ = _ from kc1), Lib.cell?_alloc_some o (show wr.drew.cell? ⟨g, 2, none⟩ = _ from kc2), Lib.cell?_alloc_some o (show wr.drew.cell? ⟨g, 3, none⟩ = _ from kc3), Lib.cell?_alloc_some o (show wr.drew.cell? ⟨g, 4, none⟩ = _ from kc4), Lib.cell?_alloc_some o (show wr.drew.cell? ⟨g, 5, none⟩ = _ from kc5), Lib.cell?_alloc_some o (show wr.drew.cell? ⟨g, 6, none⟩ = _ from kc6), Lib.cell?_alloc_some o (show wr.drew.cell? ⟨g, 7, none⟩ = _ from kc7), Lib.cell?_alloc_some o (show wr.drew.cell? ⟨g, 8, none⟩ = _ from kc8), Lib.cell?_alloc_some o (show wr.drew.cell? ⟨g, 9, none⟩ = _ from kc9)⟩
   go_wp2_with fail
   refine wp_region_noPanic ?_
   refine wp_region_held_drew (S := fun w' => w'.cell? ⟨g, 0, none⟩ = some (.int .i64 x0) ∧ w'.cell? ⟨g, 1, none⟩ = some (.int .i64 x1) ∧ w'.cell? ⟨g, 2, none⟩ = some (.int .i64 x2) ∧ w'.cell? ⟨g, 3, none⟩ = some (.int .i64 x3) ∧ w'.cell? ⟨g, 4, none⟩ = some (.int .i64 x4) ∧ w'.cell? ⟨g, 5, none⟩ = some (.int .i64 x5) ∧ w'.cell? ⟨g, 6, none⟩ = some (.int .i64 x6) ∧ w'.cell? ⟨g, 7, none⟩ = some (.int .i64 x7) ∧ w'.cell? ⟨g, 8, none⟩ = some (.int .i64 x8) ∧ w'.cell? ⟨g, 9, none⟩ = some (.int .i64 x9)) (by kernel_rfl) (⟨kc0, kc1, kc2, kc3, kc4, kc5, kc6, kc7, kc8, kc9⟩) (fun hHeld => ?_)
   refine dtk (i := 0) (v := .slice (some ⟨g, 0, none⟩) 10 lc) (some 27) rfl rfl (by kernel_rfl) (by kernel_rfl) (fun wq hw => by go_simp) hHeld ?_
   simp only [Act.put, sQ1, sQ2, sQ3]
   refine dtk (i := 1) (v := .pointer (some ⟨g, 0, none⟩)) (some 28) rfl rfl (by kernel_rfl) (by kernel_rfl) (fun wq hw => by go_simp) hHeld ?_
   simp only [Act.put, sQ1, sQ2, sQ3]
   refine dtk (i := 2) (v := .int .i64 x0) (some 29) rfl rfl (by kernel_rfl) (by kernel_rfl) (fun wq hw => by have q9 := hw.1; go_simp) hHeld ?_
   simp only [Act.put, sQ1, sQ2, sQ3]
   refine dtk (i := 3) (v := .slice (some ⟨g, 0, none⟩) 10 lc) (some 30) rfl rfl (by kernel_rfl) (by kernel_rfl) (fun wq hw => by go_simp) hHeld ?_
   simp only [Act.put, sQ1, sQ2, sQ3]
   refine dtk (i := 4) (v := .pointer (some ⟨g, 1, none⟩)) (some 31) rfl rfl (by kernel_rfl) (by kernel_rfl) (fun wq hw => by go_simp) hHeld ?_
   simp only [Act.put, sQ1, sQ2, sQ3]
   refine dtk (i := 5) (v := .int .i64 x1) (some 32) rfl rfl (by kernel_rfl) (by kernel_rfl) (fun wq hw => by have q9 := hw.2.1; go_simp) hHeld ?_
   simp only [Act.put, sQ1, sQ2, sQ3]
   refine dtk (i := 6) (v := .slice (some ⟨g, 0, none⟩) 10 lc) (some 33) rfl rfl (by kernel_rfl) (by kernel_rfl) (fun wq hw => by go_simp) hHeld ?_
   simp only [Act.put, sQ1, sQ2, sQ3]
   refine dtk (i := 7) (v := .pointer (some ⟨g, 2, none⟩)) (some 34) rfl rfl (by kernel_rfl) (by kernel_rfl) (fun wq hw => by go_simp) hHeld ?_
   simp only [Act.put, sQ1, sQ2, sQ3]
   refine dtk (i := 8) (v := .int .i64 x2) (some 35) rfl rfl (by kernel_rfl) (by kernel_rfl) (fun wq hw => by have q9 := hw.2.2.1; go_simp) hHeld ?_
   simp only [Act.put, sQ1, sQ2, sQ3]
   refine dtk (i := 9) (v := .slice (some ⟨g, 0, none⟩) 10 lc) (some 36) rfl rfl (by kernel_rfl) (by kernel_rfl) (fun wq hw => by go_simp) hHeld ?_
   simp only [Act.put, sQ1, sQ2, sQ3]
   refine dtk (i := 10) (v := .pointer (some ⟨g, 3, none⟩)) (some 37) rfl rfl (by kernel_rfl) (by kernel_rfl) (fun wq hw => by go_simp) hHeld ?_
   simp only [Act.put, sQ1, sQ2, sQ3]
   refine dtk (i := 11) (v := .int .i64 x3) (some 38) rfl rfl (by kernel_rfl) (by kernel_rfl) (fun wq hw => by have q9 := hw.2.2.2.1; go_simp) hHeld ?_
   simp only [Act.put, sQ1, sQ2, sQ3]
   refine dtk (i := 12) (v := .slice (some ⟨g, 0, none⟩) 10 lc) (some 39) rfl rfl (by kernel_rfl) (by kernel_rfl) (fun wq hw => by go_simp) hHeld ?_
   simp only [Act.put, sQ1, sQ2, sQ3]
   refine dtk (i := 13) (v := .pointer (some ⟨g, 4, none⟩)) (some 40) rfl rfl (by kernel_rfl) (by kernel_rfl) (fun wq hw => by go_simp) hHeld ?_
   simp only [Act.put, sQ1, sQ2, sQ3]
   refine dtk (i := 14) (v := .int .i64 x4) (some 41) rfl rfl (by kernel_rfl) (by kernel_rfl) (fun wq hw => by have q9 := hw.2.2.2.2.1; go_simp) hHeld ?_
   simp only [Act.put, sQ1, sQ2, sQ3]
   refine dtk (i := 15) (v := .slice (some ⟨g, 0, none⟩) 10 lc) (some 42) rfl rfl (by kernel_rfl) (by kernel_rfl) (fun wq hw => by go_simp) hHeld ?_
   simp only [Act.put, sQ1, sQ2, sQ3]
   refine dtk (i := 16) (v := .pointer (some ⟨g, 5, none⟩)) (some 43) rfl rfl (by kernel_rfl) (by kernel_rfl) (fun wq hw => by go_simp) hHeld ?_
   simp only [Act.put, sQ1, sQ2, sQ3]
   refine dtk (i := 17) (v := .int .i64 x5) (some 44) rfl rfl (by kernel_rfl) (by kernel_rfl) (fun wq hw => by have q9 := hw.2.2.2.2.2.1; go_simp) hHeld ?_
   simp only [Act.put, sQ1, sQ2, sQ3]
   refine dtk (i := 18) (v := .slice (some ⟨g, 0, none⟩) 10 lc) (some 45) rfl rfl (by kernel_rfl) (by kernel_rfl) (fun wq hw => by go_simp) hHeld ?_
   simp only [Act.put, sQ1, sQ2, sQ3]
   refine dtk (i := 19) (v := .pointer (some ⟨g, 6, none⟩)) (some 46) rfl rfl (by kernel_rfl) (by kernel_rfl) (fun wq hw => by go_simp) hHeld ?_
   simp only [Act.put, sQ1, sQ2, sQ3]
   refine dtk (i := 20) (v := .int .i64 x6) (some 47) rfl rfl (by kernel_rfl) (by kernel_rfl) (fun wq hw => by have q9 := hw.2.2.2.2.2.2.1; go_simp) hHeld ?_
   simp only [Act.put, sQ1, sQ2, sQ3]
   refine dtk (i := 21) (v := .slice (some ⟨g, 0, none⟩) 10 lc) (some 48) rfl rfl (by kernel_rfl) (by kernel_rfl) (fun wq hw => by go_simp) hHeld ?_
   simp only [Act.put, sQ1, sQ2, sQ3]
   refine dtk (i := 22) (v := .pointer (some ⟨g, 7, none⟩)) (some 49) rfl rfl (by kernel_rfl) (by kernel_rfl) (fun wq hw => by go_simp) hHeld ?_
   simp only [Act.put, sQ1, sQ2, sQ3]
   refine dtk (i := 23) (v := .int .i64 x7) (some 50) rfl rfl (by kernel_rfl) (by kernel_rfl) (fun wq hw => by have q9 := hw.2.2.2.2.2.2.2.1; go_simp) hHeld ?_
   simp only [Act.put, sQ1, sQ2, sQ3]
   refine dtk (i := 24) (v := .slice (some ⟨g, 0, none⟩) 10 lc) (some 51) rfl rfl (by kernel_rfl) (by kernel_rfl) (fun wq hw => by go_simp) hHeld ?_
   simp only [Act.put, sQ1, sQ2, sQ3]
   refine dtk (i := 25) (v := .pointer (some ⟨g, 8, none⟩)) (some 52) rfl rfl (by kernel_rfl) (by kernel_rfl) (fun wq hw => by go_simp) hHeld ?_
   simp only [Act.put, sQ1, sQ2, sQ3]
   refine dtk (i := 26) (v := .int .i64 x8) (some 53) rfl rfl (by kernel_rfl) (by kernel_rfl) (fun wq hw => by have q9 := hw.2.2.2.2.2.2.2.2.1; go_simp) hHeld ?_
   simp only [Act.put, sQ1, sQ2, sQ3]
   refine dtk (i := 27) (v := .slice (some ⟨g, 0, none⟩) 10 lc) (some 54) rfl rfl (by kernel_rfl) (by kernel_rfl) (fun wq hw => by go_simp) hHeld ?_
   simp only [Act.put, sQ1, sQ2, sQ3]
   refine dtk (i := 28) (v := .pointer (some ⟨g, 9, none⟩)) (some 55) rfl rfl (by kernel_rfl) (by kernel_rfl) (fun wq hw => by go_simp) hHeld ?_
   simp only [Act.put, sQ1, sQ2, sQ3]
   refine dtk (i := 29) (v := .int .i64 x9) (some 56) rfl rfl (by kernel_rfl) (by kernel_rfl) (fun wq hw => by have q9 := hw.2.2.2.2.2.2.2.2.2; go_simp) hHeld ?_
   simp only [Act.put, sQ1, sQ2, sQ3]
   refine dtk (i := 30) (v := .agg (tQ x0 x1 x2 x3 x4 x5 x6 x7 x8 x9)) (some 57) rfl rfl (by kernel_rfl) (by kernel_rfl) (fun wq hw => by go_simp) hHeld ?_
   simp only [Act.put, sQ1, sQ2, sQ3]
   refine wpAnyH_ready (rs := [31]) (by kernel_rfl) (by simp) ?_
   refine rdy_val (i := 31) rfl rfl (some 8) rfl (.pointer (some ⟨wr.heap.size, 0, none⟩)) (wr.drew.alloc (.cells (tQ 0 0 0 0 0 0 0 0 0 0) 58)) (by go_simp) (keepS _) (fun hHeld => ?_) rdy_nil
   simp only [Act.put, sQ1, sQ2, sQ3]
   refine wpAnyH_ready (rs := [32]) (by kernel_rfl) (by simp) ?_
   refine rdy_unit (i := 32) rfl rfl none rfl (wr.drew.alloc (.cells (tQ x0 x1 x2 x3 x4 x5 x6 x7 x8 x9) 58)) (by go_simp) (keepS _) (fun hHeld => ?_) rdy_nil
   simp only [Act.put]
   refine wpAnyH_done (by kernel_rfl) ?_ _
   refine NoPanic.normal ?_
   clear hHeld
   clear keepS
   go_wp2_with fail
   refine (HCan.out _ x0 x1 x2 x3 x4 x5 x6 x7 x8 x9).mono ?_
   rw [HCN.out]
   rintro e w3 ⟨rfl, hb3⟩
   have hb23 := HB2.out.alloc HB2.out.size (.cells (tQ x0 x1 x2 x3 x4 x5 x6 x7 x8 x9) 58)
   have HB3 := hidn (hb23.trans (hb3.mono hb23.size))
   have HZ3 := hidn ((hb3.block w.heap.size (by show w.heap.size < (wr.alloc _).heap.size; rw [World.size_alloc]; omega)).trans ((Below.heap_alloc wr.drew _ _ (show w.heap.size < wr.heap.size by omega)).trans HZ2.out))
   clear kc0 kc1 kc2 kc3 kc4 kc5 kc6 kc7 kc8 kc9
   obtain ⟨hc0, hc1, hc2, hc3, hc4, hc5, hc6, hc7, hc8, hc9⟩ := ten_cells (g := wr.heap.size) ((hb3.block wr.heap.size (by show wr.heap.size < (wr.alloc _).heap.size; rw [World.size_alloc]; omega)).trans (heap_alloc_new wr.drew _))
   clear hb3 hb23 hs2 HZ2
   simp only []
   go_at_K
   repeat (first
    | (with_reducible refine wpList_store_row (by rfl) 58 (.tmp 2) (.tmp 61) (by rfl) w.heap.size (tQ 0 0 0 0 0 0 0 0 0 0) (by kernel_rfl) (by kernel_rfl) 58 (tQ 0 0 0 0 0 0 0 0 0 0) HZ3.out (by kernel_rfl) (by kernel_rfl) (by kernel_rfl) ?_)
    | go_values | go_skip | go_guarded | go_step | go_upon)
   exact bodyPost_ret (v := .tuple #[.agg (tQ 0 0 0 0 0 0 0 0 0 0), .int .i64 5]) (results_cell_row_tmp rfl _ _ w.heap.size 58 (tQ 0 0 0 0 0 0 0 0 0 0) (0, 0) _ rfl (setRow_heap _ _ _ _ _ _ HZ3.out) Tryz.underlying58 rfl (by kernel_rfl) _ rfl) rfl ⟨rfl, below_setRow HB3.out (Nat.le_refl _) _⟩
end Go.Proofs.YtdppolelakbbiaaGreatDoor
