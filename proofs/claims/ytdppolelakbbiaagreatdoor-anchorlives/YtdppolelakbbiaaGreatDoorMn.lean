/- anchor: Save and Load. -/
import Derived.Test.YtdppolelakbbiaaGreatDoorMh
import Derived.Test.YtdppolelakbbiaaGreatDoorMl
import Derived.Test.YtdppolelakbbiaaGreatDoorMm
namespace Go.Proofs.YtdppolelakbbiaaGreatDoor
open Go.RowKit Go.Maps
set_option linter.unusedVariables false
def ancN : ByteArray := ⟨#[97, 110, 99, 104, 111, 114]⟩
theorem ancN_names : nameB (fileA ancN).data.toList = true ∧ nameB (fileB ancN).data.toList = true ∧ ancN.size ≤ 1000 ∧ [] ≠ (fileA ancN).data.toList ∧ [] ≠ (fileB ancN).data.toList := by decide +kernel
theorem DiskOf.otherA {w w' : World} {d N : Nat} {F : Nat → Prop} {M : List UInt8 → List Ext} {free fuse : Int} (h : DiskOf w d F N M free fuse) (hb : ∀ k, F k → w'.heap[k]? = w.heap[k]?) : DiskOf w' d F N M free fuse := by
 obtain ⟨bm, D, G, C, h1, h2, h3, h4, h5, h6, h7⟩ := h
 refine ⟨bm, D, G, C, (hb d h2.1).trans h1, h2, h3, ?_, h5, fun s hs => ?_, h7⟩
 ·
  obtain ⟨es, clock, hbk, F', hs, hD⟩ := h4
  exact ⟨es, clock, (hb bm h3.1).trans hbk, F', hs, hD⟩
 ·
  obtain ⟨a1, ⟨hl, hr⟩, a3⟩ := h6 s hs
  refine ⟨a1, ⟨hl, ?_⟩, a3⟩
  rcases hr with hr | ⟨g, cap, cur, hv, hg, hh, r⟩
  ·
   exact .inl hr
  ·
   cases hv
   exact .inr ⟨_, _, cur, rfl, hg, (hb _ (h3.2 s hs)).trans hh, r⟩
theorem setRow_otherA (w : World) (g k : Nat) (cs : Array Value) (h : k ≠ g) : (w.setRow g cs).heap[k]? = w.heap[k]? := by
 simp [World.setRow, Array.getElem?_modify, Ne.symm h]
theorem gr_setRow {F F2 : Nat → Prop} {w w2 : World} (h : Gr F F2 w w2) (g : Nat) (hg : w.heap.size ≤ g) (cs : Array Value) : Gr F F2 w (w2.setRow g cs) :=
 ⟨⟨h.1.os, h.1.tape, h.1.output, by rw [size_setRow]; exact h.1.size, fun k hk hn => (setRow_otherA _ _ _ _ (by omega)).trans (h.1.block k hk hn)⟩, fun k hk => by rw [size_setRow]; exact h.2 k hk⟩
theorem disk_setRow {F : Nat → Prop} {w : World} {d N : Nat} {M : List UInt8 → List Ext} {free fuse : Int} (h : DiskOf w d F N M free fuse) (g : Nat) (hg : ¬ F g) (cs : Array Value) : DiskOf (w.setRow g cs) d F N M free fuse :=
 h.otherA (fun k hk => setRow_otherA _ _ _ _ (fun e => hg (e ▸ hk)))
theorem setCell_ten {w : World} {g : Nat} {t : TypeId} {y0 y1 y2 y3 y4 y5 y6 y7 y8 y9 z : Int} (h : w.heap[g]? = some (.cells (tQ y0 y1 y2 y3 y4 y5 y6 y7 y8 y9) t (0, 0))) : (w.setCell ⟨g, 0, none⟩ (.int .i64 z)).heap[g]? = some (.cells (tQ z y1 y2 y3 y4 y5 y6 y7 y8 y9) t (0, 0)) := by
 rw [setCell_eq_setRow _ _ _ _ _ _ _ h]
 exact setRow_heap _ _ _ _ _ _ h
set_option maxHeartbeats 1000000 in
theorem ancMade (w : World) (d : Nat) (F : Nat → Prop) (N : Nat) (M : List UInt8 → List Ext) (free fuse : Int) (h : DiskOf w d F N M free fuse) (hM0 : M [] = []) :
  Calls Tryz.prog 76 #[.pointer (some ⟨d, 0, none⟩)] w fun e w' => e = .returned (.bool true) ∧ Below w.heap.size w w' := by
 have hn : Hid ((0 : Nat) = (M (ByteArray.mk #[]).data.toList).length) := hidn (by show 0 = (M []).length; rw [hM0]; rfl)
 clear hM0
 go_enter Tryz.func76, Tryz.ntmps76
 go_wp2_with fail
 refine (diskRead_none _ d F N M free fuse h ⟨#[]⟩ (by decide) 0 0 hn (Or.inr (by omega))).mono ?_
 rintro e w1 ⟨rfl, hb⟩
 go_wp2
 go_ret
 exact ⟨rfl, hb⟩
def SvPost (w : World) (d : Nat) (F : Nat → Prop) (N : Nat) (st : St) (v : Int) (A : Value) (e : Ending) (w' : World) : Prop :=
 e = .returned (.tuple #[A, .int .i64 v]) ∧ ∃ F', DiskS w' d F' N st ∧ Gr F F' w w'
set_option maxHeartbeats 2000000 in
theorem save_no (w : World) (d : Nat) (F : Nat → Prop) (N : Nat) (st : St) (h : DiskS w d F N st) (hM0 : st.M [] = [])
  (y0 y1 y2 y3 y4 y5 y6 y7 y8 y9 z : Int) (hz : IntKind.i64.wrap (y0 + 1) = z) (hcan : ancB z y1 y2 y3 y4 y7 y8 y9 = false) :
  Calls Tryz.prog 24 #[.pointer (some ⟨d, 0, none⟩), .agg (tQ y0 y1 y2 y3 y4 y5 y6 y7 y8 y9)] w fun e w' => e = .returned (.tuple #[.agg (tQ 0 0 0 0 0 0 0 0 0 0), .int .i64 1]) ∧ Below w.heap.size w w' := by
 have HD := hidn h
 have HE := hidn encode_no
 have HCN := hidn hcan
 clear h hcan
 go_enter Tryz.func24, Tryz.ntmps24
 go_wp2_with fail
 have hb2 := below2 w (.cells (tQ y0 y1 y2 y3 y4 y5 y6 y7 y8 y9) 58) (.cells (tQ 0 0 0 0 0 0 0 0 0 0) 58)
 refine (ancMade _ d F N st.M st.free st.fuse (HD.out.below hb2) hM0).mono ?_
 rintro e w0 ⟨rfl, hb0⟩
 have hs0 : w.heap.size + 2 ≤ w0.heap.size := by have := hb0.size; rw [World.size_alloc, World.size_alloc] at this; omega
 have hA0 := (hb0.block w.heap.size (by rw [World.size_alloc, World.size_alloc]; omega)).trans (alloc_at1 w _ _)
 have hZ0 := (hb0.block (w.heap.size + 1) (by rw [World.size_alloc, World.size_alloc]; omega)).trans (alloc_at2 w _ _)
 have HB0 := hidn (hb2.trans (hb0.mono hb2.size))
 clear hb2 hb0
 obtain ⟨W1, hW1⟩ : ∃ W1, W1 = w0.setCell ⟨w.heap.size, 0, none⟩ (.int .i64 z) := ⟨_, rfl⟩
 have HA1 : Hid (W1.heap[w.heap.size]? = some (.cells (tQ z y1 y2 y3 y4 y5 y6 y7 y8 y9) 58 (0, 0))) := hidn (by rw [hW1]; exact setCell_ten hA0)
 have HZ1 : Hid (W1.heap[w.heap.size + 1]? = some (.cells (tQ 0 0 0 0 0 0 0 0 0 0) 58 (0, 0))) := hidn (by rw [hW1]; exact (Below.heap_setCell w0 ⟨w.heap.size, 0, none⟩ _ _ (by simp)).trans hZ0)
 have HB1 : Hid (Below w.heap.size w W1) := hidn (by rw [hW1]; exact HB0.out.setCell (p := ⟨w.heap.size, 0, none⟩) (Nat.le_refl _) _)
 have hs1 : w.heap.size + 2 ≤ W1.heap.size := by rw [hW1]; simpa [World.setCell] using hs0
 obtain ⟨hc0, hc1, hc2, hc3, hc4, hc5, hc6, hc7, hc8, hc9⟩ := ten_cells HA1.out
 have e0 := (ten_cells hA0).1
 have f0 := frozen_of_row _ _ 0 _ _ hA0
 have HA0 := hidn (setCell_ten (z := z) hA0)
 clear hA0 hZ0 HB0 hs0
 simp only []
 go_at_K
 repeat (first
  | (with_reducible refine wpList_load_row (by rfl) 58 (.tmp 3) (by rfl) w.heap.size (by kernel_rfl) 58 (tQ z y1 y2 y3 y4 y5 y6 y7 y8 y9) (0, 0) _ HA0.out Tryz.underlying58 rfl (by kernel_rfl) ?_)
  | go_values | go_skip | go_guarded | go_step | go_upon)
 rw [← hW1]
 clear hW1 e0 f0 HA0
 refine (HE.out _ z y1 y2 y3 y4 y5 y6 y7 y8 y9 HCN.out).mono ?_
 clear hc0 hc1 hc2 hc3 hc4 hc5 hc6 hc7 hc8 hc9
 rintro e w2 ⟨rfl, hb2⟩
 have HB2 := hidn (HB1.out.trans (hb2.mono HB1.out.size))
 have HZ2 := hidn ((hb2.block (w.heap.size + 1) (by omega)).trans HZ1.out)
 clear hb2 HB1 HA1 HZ1
 simp only []
 go_at_K
 repeat (first
  | (with_reducible refine wpList_store_row (by rfl) 58 (.tmp 4) (.tmp 24) (by rfl) (w.heap.size + 1) (tQ 0 0 0 0 0 0 0 0 0 0) (by kernel_rfl) (by kernel_rfl) 58 (tQ 0 0 0 0 0 0 0 0 0 0) HZ2.out (by kernel_rfl) (by kernel_rfl) (by kernel_rfl) ?_)
  | go_values | go_skip | go_guarded | go_step | go_upon)
 exact bodyPost_ret (v := .tuple #[.agg (tQ 0 0 0 0 0 0 0 0 0 0), .int .i64 1]) (results_cell_row_tmp rfl _ _ (w.heap.size + 1) 58 (tQ 0 0 0 0 0 0 0 0 0 0) (0, 0) _ rfl (setRow_heap _ _ _ _ _ _ HZ2.out) Tryz.underlying58 rfl (by kernel_rfl) _ rfl) rfl ⟨rfl, below_setRow HB2.out (by omega) _⟩
set_option maxHeartbeats 2000000 in
theorem save_st (w : World) (d : Nat) (F : Nat → Prop) (N : Nat) (st : St) (h : DiskS w d F N st) (hS : Sound5 w F) (K : Nat) (hok : StOK st K) (hK : K + 2 ≤ 1000000) (hN : N + 2 < maxLen) (hM0 : st.M [] = [])
  (y0 y1 y2 y3 y4 y5 y6 y7 y8 y9 : Int) (g : Nat) (hz : y0 + 1 = (g : Int)) (hcan : ancB (g : Int) y1 y2 y3 y4 y7 y8 y9 = true) (p : List Nat) (HP : Hid (p = wordsB [(g : Int), y1, y2, y3, y4, y5, y6, y7, y8, y9])) (st' : St) (rv : Int) (HR : Hid (putD st ancN 0 g p = (st', rv))) (A : Value) (hA0 : rv = 0 → A = .agg (tQ (g : Int) y1 y2 y3 y4 y5 y6 y7 y8 y9)) (hA1 : rv ≠ 0 → A = .agg (tQ 0 0 0 0 0 0 0 0 0 0)) :
  Calls Tryz.prog 24 #[.pointer (some ⟨d, 0, none⟩), .agg (tQ y0 y1 y2 y3 y4 y5 y6 y7 y8 y9)] w (SvPost w d F (N + 2) st' rv A) := by
 have HD := hidn h
 have HS := hidn hS
 have HOK := hidn hok
 have HEA := hidn (And.intro hA0 hA1)
 have hz62 : g ≤ 4611686018427387904 ∧ 1 ≤ g := by
  simp [ancB, inN] at hcan
  omega
 obtain ⟨hz62, hz1⟩ := hz62
 have hzw : IntKind.i64.wrap (y0 + 1) = (g : Int) := by rw [IntKind.wrap_i64]; omega
 have HE := hidn encode_yes
 have HCN := hidn hcan
 clear h hS hok hcan hA0 hA1
 go_enter Tryz.func24, Tryz.ntmps24
 go_wp2_with fail
 have hb2 := below2 w (.cells (tQ y0 y1 y2 y3 y4 y5 y6 y7 y8 y9) 58) (.cells (tQ 0 0 0 0 0 0 0 0 0 0) 58)
 refine (ancMade _ d F N st.M st.free st.fuse (HD.out.below hb2) hM0).mono ?_
 rintro e w0 ⟨rfl, hb0⟩
 have hs0 : w.heap.size + 2 ≤ w0.heap.size := by have := hb0.size; rw [World.size_alloc, World.size_alloc] at this; omega
 have hA0 := (hb0.block w.heap.size (by rw [World.size_alloc, World.size_alloc]; omega)).trans (alloc_at1 w _ _)
 have hZ0 := (hb0.block (w.heap.size + 1) (by rw [World.size_alloc, World.size_alloc]; omega)).trans (alloc_at2 w _ _)
 have HB0 := hidn (hb2.trans (hb0.mono hb2.size))
 clear hb2 hb0
 obtain ⟨W1, hW1⟩ : ∃ W1, W1 = w0.setCell ⟨w.heap.size, 0, none⟩ (.int .i64 (g : Int)) := ⟨_, rfl⟩
 have HA1 : Hid (W1.heap[w.heap.size]? = some (.cells (tQ (g : Int) y1 y2 y3 y4 y5 y6 y7 y8 y9) 58 (0, 0))) := hidn (by rw [hW1]; exact setCell_ten hA0)
 have HZ1 : Hid (W1.heap[w.heap.size + 1]? = some (.cells (tQ 0 0 0 0 0 0 0 0 0 0) 58 (0, 0))) := hidn (by rw [hW1]; exact (Below.heap_setCell w0 ⟨w.heap.size, 0, none⟩ _ _ (by simp)).trans hZ0)
 have HB1 : Hid (Below w.heap.size w W1) := hidn (by rw [hW1]; exact HB0.out.setCell (p := ⟨w.heap.size, 0, none⟩) (Nat.le_refl _) _)
 have hs1 : w.heap.size + 2 ≤ W1.heap.size := by rw [hW1]; simpa [World.setCell] using hs0
 obtain ⟨hc0, hc1, hc2, hc3, hc4, hc5, hc6, hc7, hc8, hc9⟩ := ten_cells HA1.out
 have e0 := (ten_cells hA0).1
 have f0 := frozen_of_row _ _ 0 _ _ hA0
 have HA0 := hidn (setCell_ten (z := (g : Int)) hA0)
 clear hA0 hZ0 HB0 hs0
 simp only []
 go_at_K
 repeat (first
  | (with_reducible refine wpList_load_row (by rfl) 58 (.tmp 3) (by rfl) w.heap.size (by kernel_rfl) 58 (tQ (g : Int) y1 y2 y3 y4 y5 y6 y7 y8 y9) (0, 0) _ HA0.out Tryz.underlying58 rfl (by kernel_rfl) ?_)
  | go_values | go_skip | go_guarded | go_step | go_upon)
 rw [← hW1]
 clear hW1 e0 f0 HA0
 refine (HE.out _ (g : Int) y1 y2 y3 y4 y5 y6 y7 y8 y9 HCN.out).mono ?_
 rintro e w2 ⟨v1, rfl, hown1, hb1⟩
 have HB2 := hidn (HB1.out.trans (hb1.mono HB1.out.size))
 have HZ2 := hidn ((hb1.block (w.heap.size + 1) (by omega)).trans HZ1.out)
 have HA2 := hidn ((hb1.block w.heap.size (by omega)).trans HA1.out)
 have hs2 : w.heap.size + 2 ≤ w2.heap.size := by have := hb1.size; omega
 clear hc0 hc1 hc2 hc3 hc4 hc5 hc6 hc7 hc8 hc9
 obtain ⟨hc0, hc1, hc2, hc3, hc4, hc5, hc6, hc7, hc8, hc9⟩ := ten_cells HA2.out
 rw [← HP.out] at hown1
 have hpl : ∀ x ∈ p, x < 256 := by rw [HP.out]; exact wordsB_lt _
 obtain ⟨pa, pc, e9, hBs⟩ := bs_of_own hown1 hpl
 have hBF : BsF F w2 pa 80 p := ⟨hBs, fun x hx _ hF => by
  have h9 := (hown1.lt x.block (by rw [e9, hx]; rfl)).1
  have := HS.out.lt _ hF
  omega⟩
 subst e9
 have HPut := hidn (put_st w2 d F N st (HD.out.below HB2.out) (HS.out.below HB2.out) K HOK.out hK hN hM0 ancN (by decide) ancN_names.1 ancN_names.2.1 0 g (by omega) hz62 pa 80 pc p hBF (by omega))
 rw [HR.out] at HPut
 clear hb1 hown1 hBs hBF hpl HB1 HZ1 HA1
 go_wp2_with fail
 refine HPut.out.mono ?_
 clear HPut hc0 hc1 hc2 hc3 hc4 hc5 hc6 hc7 hc8 hc9
 rintro e w3 hw3
 obtain ⟨rfl, F2, hD2, hG2⟩ := WrPost.open hw3
 have hnF : ∀ k, w.heap.size ≤ k → ¬ F k := fun k hk hF => by have := HS.out.lt _ hF; omega
 have HR2 := hidn (And.intro hD2 ((Gr.of (Keeps.of_below (F := F) HB2.out)).trans hG2))
 obtain ⟨hc0, hc1, hc2, hc3, hc4, hc5, hc6, hc7, hc8, hc9⟩ := ten_cells ((hG2.1.block w.heap.size (by omega) (hnF _ (by omega))).trans HA2.out)
 have HZ3 := hidn ((hG2.1.block (w.heap.size + 1) (by omega) (hnF _ (by omega))).trans HZ2.out)
 have hnF2 := hG2.not (b := w.heap.size + 1) (by omega) (hnF _ (by omega))
 clear hD2 hG2 HZ2 HA2 HB2 hw3
 by_cases h0 : rv = 0
 ·
  subst h0
  have hAe := HEA.out.1 rfl
  subst hAe
  simp only []
  go_at_K
  repeat (first
   | (with_reducible refine wpList_store_row (by rfl) 58 (.tmp 4) (.tmp 35) (by rfl) (w.heap.size + 1) (tQ (g : Int) y1 y2 y3 y4 y5 y6 y7 y8 y9) (by kernel_rfl) (by kernel_rfl) 58 (tQ 0 0 0 0 0 0 0 0 0 0) HZ3.out (by kernel_rfl) (by kernel_rfl) (by kernel_rfl) ?_)
   | go_values | go_skip | go_guarded | go_step | go_upon)
  exact bodyPost_ret (v := .tuple #[.agg (tQ (g : Int) y1 y2 y3 y4 y5 y6 y7 y8 y9), .int .i64 0]) (results_cell_row_tmp rfl _ _ (w.heap.size + 1) 58 (tQ (g : Int) y1 y2 y3 y4 y5 y6 y7 y8 y9) (0, 0) _ rfl (setRow_heap _ _ _ _ _ _ HZ3.out) Tryz.underlying58 rfl (by kernel_rfl) _ rfl) rfl ⟨rfl, F2, disk_setRow HR2.out.1 _ hnF2 _, gr_setRow HR2.out.2 _ (by omega) _⟩
 ·
  have h0' : (rv != 0) = true := bne_iff_ne.2 h0
  have hAe := HEA.out.2 h0
  subst hAe
  simp only []
  go_at_K
  repeat (first
   | (with_reducible refine wpList_store_row (by rfl) 58 (.tmp 4) (.tmp 33) (by rfl) (w.heap.size + 1) (tQ 0 0 0 0 0 0 0 0 0 0) (by kernel_rfl) (by kernel_rfl) 58 (tQ 0 0 0 0 0 0 0 0 0 0) HZ3.out (by kernel_rfl) (by kernel_rfl) (by kernel_rfl) ?_)
   | go_values | go_skip | go_guarded | go_step | go_upon)
  exact bodyPost_ret (v := .tuple #[.agg (tQ 0 0 0 0 0 0 0 0 0 0), .int .i64 rv]) (results_cell_row_tmp rfl _ _ (w.heap.size + 1) 58 (tQ 0 0 0 0 0 0 0 0 0 0) (0, 0) _ rfl (setRow_heap _ _ _ _ _ _ HZ3.out) Tryz.underlying58 rfl (by kernel_rfl) _ rfl) rfl ⟨rfl, F2, disk_setRow HR2.out.1 _ hnF2 _, gr_setRow HR2.out.2 _ (by omega) _⟩
theorem putD_new (M : List UInt8 → List Ext) (free : Int) (s : ByteArray) (g : Nat) (p : List Nat) (hA : M (fileA s).data.toList = []) (hB : M (fileB s).data.toList = []) (hfr : 2 ≤ free) :
  putD ⟨M, free, -1⟩ s 0 g p = (⟨upd (upd M (fileA s).data.toList [(zeroE.wrote (frameB (nums (fileA s)) 0 g p)).synced]) (fileB s).data.toList [(zeroE.wrote (frameB (nums (fileB s)) 0 g p)).synced], free - 1 - 1, -1⟩, 0) := by
 have one : ∀ (M : List UInt8 → List Ext) (free : Int) (f : ByteArray), M f.data.toList = [] → 1 ≤ free → put1 ⟨M, free, -1⟩ f 0 g p = (⟨upd M f.data.toList [(zeroE.wrote (frameB (nums f) 0 g p)).synced], free - 1, -1⟩, 0) := by
  intro M free f h hf
  have hw : wrD ⟨M, free, -1⟩ f.data.toList 0 (frameB (nums f) 0 g p) = (⟨upd M f.data.toList [zeroE.wrote (frameB (nums f) 0 g p)], free - 1, -1⟩, 0) := by
   unfold wrD
   simp only [h, List.length_nil, Nat.lt_irrefl, if_false, List.getElem?_nil, List.nil_append]
   rw [if_neg (by omega), if_neg (by omega)]
   rfl
  refine put1_s rfl hw.symm ?_
  unfold syD
  simp only [upd_same, upd_upd]
  rw [if_neg (by simp), if_neg (by omega)]
  rfl
 refine putD_b (one M free _ hA (by omega)) (one _ _ _ ?_ (by omega))
 show upd M _ _ _ = []
 rw [upd_other _ _ _ _ (file_ne s), hB]
theorem save_new (w : World) (d : Nat) (F : Nat → Prop) (N : Nat) (M : List UInt8 → List Ext) (free : Int) (h : DiskOf w d F N M free (-1)) (hS : Sound5 w F) (hM0 : M [] = []) (hA : M (fileA ancN).data.toList = []) (hB : M (fileB ancN).data.toList = []) (hN : N + 2 < maxLen) (hfr : 2 ≤ free) (hfr2 : free ≤ 1000000) (hM : ∀ t, (M t).length ≤ 1000)
  (y0 y1 y2 y3 y4 y5 y6 y7 y8 y9 : Int) (g : Nat) (hz : y0 + 1 = (g : Int)) (hcan : ancB (g : Int) y1 y2 y3 y4 y7 y8 y9 = true) (za zb p : List Nat) (HP : Hid (p = wordsB [(g : Int), y1, y2, y3, y4, y5, y6, y7, y8, y9])) (HZA : Hid (za = frameB (nums (fileA ancN)) 0 g p)) (HZB : Hid (zb = frameB (nums (fileB ancN)) 0 g p)) :
  Calls Tryz.prog 24 #[.pointer (some ⟨d, 0, none⟩), .agg (tQ y0 y1 y2 y3 y4 y5 y6 y7 y8 y9)] w fun e w' => e = .returned (.tuple #[.agg (tQ (g : Int) y1 y2 y3 y4 y5 y6 y7 y8 y9), .int .i64 0]) ∧ ∃ F', DiskOf w' d F' (N + 1 + 1) (upd (upd M (fileA ancN).data.toList [(zeroE.wrote za).synced]) (fileB ancN).data.toList [(zeroE.wrote zb).synced]) (free - 1 - 1) (-1) ∧ Gr F F' w w' := by
 rw [HZA.out, HZB.out]
 exact save_st w d F N ⟨M, free, -1⟩ h hS 1000 ⟨by show (-1 : Int) ≤ -1; omega, by show (-1 : Int) ≤ 9223372036854775807; omega, by show 0 ≤ free; omega, hfr2, hM⟩ (by omega) hN hM0 y0 y1 y2 y3 y4 y5 y6 y7 y8 y9 g hz hcan p HP _ _ (hidn (putD_new M free ancN g p hA hB hfr)) _ (fun _ => rfl) (fun h => absurd rfl h)
theorem own_80 {w : World} {base : Nat} {v : Value} {zs : List Nat} (h : w.ownsRow base 5 1 v 80 (vb zs)) (hl : zs.length = 80) : ∃ b cap, v = .slice (some ⟨b, 0, none⟩) 80 cap ∧ 80 ≤ cap ∧ ∀ q, q < 80 → w.cell? ⟨b, 0 + q, none⟩ = some (.int .u8 ((zs.getD q 0 : Nat) : Int)) := by
 have h0 := h
 rcases h.2 with ⟨_, h1⟩ | ⟨g, cap, cur, rfl, _, _, hle, _⟩
 ·
  cases h1
 ·
  refine ⟨g, cap, rfl, hle, fun q hq => ?_⟩
  have h2 := h0.cellAt q (by omega)
  rw [Nat.zero_add, h2]
  simp [vb, List.getD_eq_getElem?_getD, lQ6 (show q < zs.length by omega)]
set_option maxHeartbeats 2000000 in
theorem load_yes (w : World) (d : Nat) (F : Nat → Prop) (N : Nat) (M : List UInt8 → List Ext) (free fuse : Int) (h : DiskOf w d F N M free fuse) (hT : CrcTab w) (hM0 : M [] = []) (g : Nat) (x1 x2 x3 x4 x5 x6 x7 x8 x9 : Int) (zs : List Nat) (hz : ∀ x ∈ zs, x < 256) (hl : zs.length = 80) (hget : getP M ancN 0 = some (zs, g)) (hx : fieldsI zs = [(g : Int), x1, x2, x3, x4, x5, x6, x7, x8, x9]) (hcan : ancB (g : Int) x1 x2 x3 x4 x7 x8 x9 = true) :
  Calls Tryz.prog 26 #[.pointer (some ⟨d, 0, none⟩)] w fun e w' => e = .returned (.tuple #[.agg (tQ (g : Int) x1 x2 x3 x4 x5 x6 x7 x8 x9), .int .i64 0]) ∧ Below w.heap.size w w' := by
 have HD := hidn h
 have HDec := hidn decode_yes
 have HZ := hidn hz
 have HL := hidn hl
 have HX := hidn hx
 have HG := hidn (fun wx hb => get_all wx d F N M free fuse (HD.out.below hb) (hT.below hb) hM0 ancN (by decide) 0)
 rw [hget] at HG
 clear h hT hz hl hx
 go_enter Tryz.func26, Tryz.ntmps26
 go_wp2_with fail
 refine (ancMade _ d F N M free fuse (HD.out.below (below1 _ _)) hM0).mono ?_
 rintro e w0 ⟨rfl, hb0⟩
 have HB0 := hidn ((below1 w _).trans (hb0.mono (below1 w _).size))
 have hz0 := (hb0.block w.heap.size (by rw [World.size_alloc]; omega)).trans (heap_alloc_new w _)
 have hs0 : w.heap.size + 1 ≤ w0.heap.size := by have := hb0.size; rw [World.size_alloc] at this; exact this
 clear hb0
 go_wp2_with fail
 refine (HG.out _ HB0.out).mono ?_
 rintro e w1 ⟨hb1, h1⟩
 obtain ⟨v1, rfl, hown1⟩ := (show ∃ v, e = .returned (.tuple #[v, .int .i64 (g : Int), .int .i64 0]) ∧ w1.ownsRow w0.heap.size 5 1 v zs.length (vb zs) from h1)
 rw [HL.out] at hown1
 have HB1 := hidn (HB0.out.trans (hb1.mono HB0.out.size))
 have hz1 := (hb1.block w.heap.size (by omega)).trans hz0
 have hs1 : w.heap.size + 1 ≤ w1.heap.size := by have := hb1.size; omega
 obtain ⟨b, cap, rfl, hcp, hcell⟩ := own_80 hown1 HL.out
 have HDe := hidn (HDec.out w1 b 0 cap zs HL.out HZ.out hcp hcell (g : Int) x1 x2 x3 x4 x5 x6 x7 x8 x9 HX.out hcan)
 have hgg : ((g : Int) != (g : Int)) = false := by simp
 clear hb1 h1 hown1 hcell HDec HG HB0 hz0 hs0
 go_wp2_with fail
 refine HDe.out.mono ?_
 clear HDe
 rintro e w2 ⟨rfl, hb2⟩
 have HB2 := hidn (HB1.out.trans (hb2.mono HB1.out.size))
 have HZ2 := hidn ((hb2.block w.heap.size (by omega)).trans hz1)
 have hs2 : w.heap.size + 1 ≤ w2.heap.size := by have := hb2.size; omega
 clear hb2 hz1 hs1
 simp only []
 go_at_K
 repeat (first
  | (with_reducible refine wpList_store_row (by rfl) 58 (.tmp 2) (.tmp 35) (by rfl) w.heap.size (tQ (g : Int) x1 x2 x3 x4 x5 x6 x7 x8 x9) (by kernel_rfl) (by kernel_rfl) 58 (tQ 0 0 0 0 0 0 0 0 0 0) ((Below.heap_alloc _ _ _ (by omega)).trans HZ2.out) (by kernel_rfl) (by kernel_rfl) (by kernel_rfl) ?_)
  | go_values | go_skip | go_guarded | go_step | go_upon)
 exact bodyPost_ret (v := .tuple #[.agg (tQ (g : Int) x1 x2 x3 x4 x5 x6 x7 x8 x9), .int .i64 0]) (results_cell_row_tmp rfl _ _ w.heap.size 58 (tQ (g : Int) x1 x2 x3 x4 x5 x6 x7 x8 x9) (0, 0) _ rfl (setRow_heap _ _ _ _ _ _ ((Below.heap_alloc _ _ _ (by omega)).trans HZ2.out)) Tryz.underlying58 rfl (by kernel_rfl) _ rfl) rfl ⟨rfl, below_setRow (HB2.out.alloc HB2.out.size _) (Nat.le_refl _) _⟩
end Go.Proofs.YtdppolelakbbiaaGreatDoor

namespace Go.Proofs.YtdppolelakbbiaaGreatDoor
open Go.RowKit Go.Maps
set_option linter.unusedVariables false
theorem i64_u64 (x : Int) (h1 : -9223372036854775808 ≤ x) (h2 : x ≤ 9223372036854775807) : IntKind.i64.wrap ((u64 x % 256 ^ 8 : Nat) : Int) = x := by
 rw [IntKind.wrap_i64]
 unfold u64
 have : (256 : Nat) ^ 8 = 18446744073709551616 := by decide
 rw [this]
 omega
theorem words_part : ∀ (xs : List Int) (j : Nat) (x : Int), xs[j]? = some x → ((wordsB xs).drop (j * 8)).take 8 = putB (u64 x) 8
 | y :: r, 0, x, h => by
  cases h
  rw [wordsB_cons, Nat.zero_mul, List.drop_zero, List.take_left' (putB_length _ _)]
 | y :: r, j + 1, x, h => by
  have h' : r[j]? = some x := by simpa using h
  rw [wordsB_cons, show (j + 1) * 8 = 8 + j * 8 by omega, ← List.drop_drop, List.drop_left' (putB_length _ _)]
  exact words_part r j x h'
theorem fld_words (xs : List Int) (j : Nat) (x : Int) (h : xs[j]? = some x) (h1 : -9223372036854775808 ≤ x) (h2 : x ≤ 9223372036854775807) : fld (wordsB xs) j = x := by
 unfold fld
 rw [words_part xs j x h, getB_putB]
 exact i64_u64 x h1 h2
theorem fields_words (xs : List Int) (hl : xs.length = 10) (hr : ∀ x ∈ xs, -9223372036854775808 ≤ x ∧ x ≤ 9223372036854775807) : fieldsI (wordsB xs) = xs := by
 apply List.ext_getElem?
 intro j
 unfold fieldsI
 rw [List.getElem?_map]
 by_cases hj : j < 10
 ·
  rw [List.getElem?_range hj, Option.map_some]
  obtain ⟨x, hx⟩ : ∃ x, xs[j]? = some x := ⟨_, lQ6 (by omega)⟩
  obtain ⟨h1, h2⟩ := hr x (lQ7 hx)
  rw [hx, fld_words xs j x hx h1 h2]
 ·
  rw [List.getElem?_eq_none (by simp; omega), List.getElem?_eq_none (by omega)]
  rfl
theorem getP_saved (M : List UInt8 → List Ext) (g : Nat) (hg : g ≤ 4611686018427387904) (p : List Nat) (hp : p.length ≤ 106) :
  getP (upd (upd M (fileA ancN).data.toList [(zeroE.wrote (frameB (nums (fileA ancN)) 0 g p)).synced]) (fileB ancN).data.toList [(zeroE.wrote (frameB (nums (fileB ancN)) 0 g p)).synced]) ancN 0 = some (p, g) := by
 unfold getP
 rw [upd_other _ _ _ _ (file_ne ancN).symm, upd_same, upd_same]
 have e : ∀ (nm z : List Nat), openB z nm 0 = some (p, g) → rdO [(zeroE.wrote z).synced] nm 0 = some (p, g) := fun nm z h => by
  unfold rdO
  rw [if_neg (by omega)]
  exact h
 rw [e _ _ (openB_frame _ 0 g p (by omega) hg hp), e _ _ (openB_frame _ 0 g p (by omega) hg hp)]
 simp [getO]
set_option maxHeartbeats 1000000 in
theorem fresh_any (w : World) :
  Calls Tryz.prog 81 #[] w fun e w' => e = .returned (.agg (tQ 0 1 0 1 0 (-9223372036854775808) (-9223372036854775808) 0 1 0)) ∧ Below w.heap.size w w' := by
 go_enter Tryz.func81, Tryz.ntmps81
 go_wp2
 exact bodyPost_ret (v := .agg (tQ 0 1 0 1 0 (-9223372036854775808) (-9223372036854775808) 0 1 0)) (results_cell_row rfl _ _ w.heap.size 58 _ (0, 0) _ rfl (heap_alloc_new _ _) Tryz.underlying58 rfl (by kernel_rfl)) rfl ⟨rfl, below1 _ _⟩
set_option maxHeartbeats 2000000 in
theorem awake17_any (w : World) (hT : CrcTab w) :
  Calls Tryz.prog 28 #[] w fun e w' => e = .returned (.bool true) ∧ Below w.heap.size w w' := by
 have HT := hidn hT
 obtain ⟨g, hg⟩ : ∃ g : Nat, g = 1 := ⟨_, rfl⟩
 obtain ⟨p, hp⟩ : ∃ p, p = wordsB [(g : Int), 1, 0, 1, 0, (-9223372036854775808), (-9223372036854775808), 0, 1, 0] := ⟨_, rfl⟩
 have hpl : p.length = 80 := by rw [hp, wordsB_length]; rfl
 have hpz : ∀ x ∈ p, x < 256 := by rw [hp]; exact wordsB_lt _
 have hpf : fieldsI p = [(g : Int), 1, 0, 1, 0, (-9223372036854775808), (-9223372036854775808), 0, 1, 0] := by
  rw [hp]
  refine fields_words _ rfl (fun x hx => ?_)
  simp only [List.mem_cons, List.not_mem_nil, or_false] at hx
  omega
 have hcan : ancB (g : Int) 1 0 1 0 0 1 0 = true := by rw [hg]; decide
 have hgm : g ≤ 4611686018427387904 := by omega
 have HSV := hidn save_new
 have HLD := hidn load_yes
 have HP := hidn hp
 have hgs : decide ((g : Int) = 1) = true := by rw [hg]; rfl
 have hgs2 : ((g : Int) == 1) = true := by rw [hg]; rfl
 have hg01 : (0 : Int) + 1 = (g : Int) := by omega
 have HGF := hidn (And.intro hpl (And.intro hpz (And.intro hpf (And.intro hcan hg01))))
 have HGG := hidn hg
 clear hT hp hpl hpz hpf hcan hg hg01
 go_enter Tryz.func28, Tryz.ntmps28
 go_wp2_with fail
 refine (new_any _ 2 (by omega)).mono ?_
 rintro e w1 ⟨rfl, hD1, hb1, hs1⟩
 have HD1 := hidn hD1
 have HB1 := hidn hb1
 have HS1 : Hid (Sound5 w1 (fun k => w.heap.size ≤ k ∧ k < w.heap.size + 2)) := hidn ⟨HT.out.below hb1, fun hF => by have := HT.out.lt; omega, fun k hk => by omega⟩
 clear hD1 hb1 hs1
 go_wp2_with fail
 refine (fresh_any _).mono ?_
 rintro e w2 ⟨rfl, hb2⟩
 have HSave := hidn (HSV.out w2 (w.heap.size + 1) _ 0 (fun _ => []) 2 (HD1.out.below hb2) (HS1.out.below hb2) rfl rfl rfl (by unfold maxLen; omega) (by omega) (by omega) (fun _ => Nat.zero_le _) 0 1 0 1 0 (-9223372036854775808) (-9223372036854775808) 0 1 0 g HGF.out.2.2.2.2 HGF.out.2.2.2.1 _ _ p HP (hidn rfl) (hidn rfl))
 have HB2 := hidn (HB1.out.trans (hb2.mono HB1.out.size))
 have HS2 := hidn (HS1.out.below hb2)
 clear hb2 HD1 HSV HB1 HS1
 go_wp2_with fail
 refine HSave.out.mono ?_
 clear HSave
 rintro e w3 ⟨rfl, F3, hD3, hG3⟩
 have HB3 := hidn (HB2.out.trans (hG3.1.below HB2.out.size (fun k hk => hk.1)))
 have HS3 := hidn (HS2.out.gr hG3)
 have HD3 := hidn hD3
 clear hD3 hG3 HB2 HS2
 have hbA := below1 w3 (.cells (tQ (g : Int) 1 0 1 0 (-9223372036854775808) (-9223372036854775808) 0 1 0) 58)
 have HLoad := hidn (HLD.out _ (w.heap.size + 1) F3 _ _ _ _ (HD3.out.below hbA) (HS3.out.tab.below hbA) (by rw [upd_other _ _ _ _ ancN_names.2.2.2.2, upd_other _ _ _ _ ancN_names.2.2.2.1]) g 1 0 1 0 (-9223372036854775808) (-9223372036854775808) 0 1 0 p HGF.out.2.1 HGF.out.1 (getP_saved _ g hgm p (by rw [HGF.out.1]; omega)) HGF.out.2.2.1 HGF.out.2.2.2.1)
 clear HLD HD3
 go_wp2_with fail
 refine HLoad.out.mono ?_
 clear HLoad
 rintro e w4 ⟨rfl, hb4⟩
 have hb34 := HB3.out.alloc HB3.out.size (.cells (tQ (g : Int) 1 0 1 0 (-9223372036854775808) (-9223372036854775808) 0 1 0) 58)
 have HB4 := hidn (hb34.trans (hb4.mono hb34.size))
 have hs4 : w3.heap.size < w4.heap.size := by have := hb4.size; rw [World.size_alloc] at this; omega
 obtain ⟨hc0, hc1, hc2, hc3, hc4, hc5, hc6, hc7, hc8, hc9⟩ := ten_cells ((Below.heap_alloc w4 (.cells (tQ (g : Int) 1 0 1 0 (-9223372036854775808) (-9223372036854775808) 0 1 0) 58) w3.heap.size hs4).trans ((hb4.block w3.heap.size (by rw [World.size_alloc]; omega)).trans (heap_alloc_new w3 _)))
 clear hb4 hbA hb34 HB3 HS3
 go_wp2
 go_ret
 exact ⟨rfl, HB4.out.alloc HB4.out.size _⟩
end Go.Proofs.YtdppolelakbbiaaGreatDoor
