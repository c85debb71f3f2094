/- anchor: Save and Load. -/
import Derived.Test.YthgkpjdbpkgngaaDoorAnE
import Derived.Test.YthgkpjdbpkgngaaDoorWaG
import Derived.Test.YthgkpjdbpkgngaaDoorPairPut2
namespace Go.Proofs.YthgkpjdbpkgngaaDoor
open Go.RowKit Go.Maps
set_option linter.unusedVariables false

def ancN : ByteArray := ⟨#[97, 110, 99, 104, 111, 114]⟩
theorem ancN_names : nameB (fileA ancN).data.toList = true ∧ nameB (fileB ancN).data.toList = true ∧ ancN.size ≤ 1000 ∧ [] ≠ (fileA ancN).data.toList ∧ [] ≠ (fileB ancN).data.toList := by decide +kernel

theorem DiskOf.otherA {w w' : World} {d N : Nat} {F : Nat → Prop} {M : List UInt8 → List Ext} {free fuse : Int} (h : DiskOf w d F N M free fuse) (hb : ∀ k, F k → w'.heap[k]? = w.heap[k]?) : DiskOf w' d F N M free fuse := by
  obtain ⟨bm, D, G, C, h1, h2, h3, h4, h5, h6, h7⟩ := h
  refine ⟨bm, D, G, C, (hb d h2.1).trans h1, h2, h3, ?_, h5, fun s hs => ?_, h7⟩
  · obtain ⟨es, clock, hbk, F', hs, hD⟩ := h4
    exact ⟨es, clock, (hb bm h3.1).trans hbk, F', hs, hD⟩
  · obtain ⟨a1, ⟨hl, hr⟩, a3⟩ := h6 s hs
    refine ⟨a1, ⟨hl, ?_⟩, a3⟩
    rcases hr with hr | ⟨g, cap, cur, hv, hg, hh, r⟩
    · exact .inl hr
    · cases hv
      exact .inr ⟨_, _, cur, rfl, hg, (hb _ (h3.2 s hs)).trans hh, r⟩

theorem setRow_otherA (w : World) (g k : Nat) (cs : Array Value) (h : k ≠ g) : (w.setRow g cs).heap[k]? = w.heap[k]? := by
  simp [World.setRow, Array.getElem?_modify, Ne.symm h]

theorem gr_setRow {F F2 : Nat → Prop} {w w2 : World} (h : Gr F F2 w w2) (g : Nat) (hg : w.heap.size ≤ g) (cs : Array Value) : Gr F F2 w (w2.setRow g cs) :=
  ⟨⟨h.1.os, h.1.tape, h.1.output, by rw [size_setRow]; exact h.1.size, fun k hk hn => (setRow_otherA _ _ _ _ (by omega)).trans (h.1.block k hk hn)⟩, fun k hk => by rw [size_setRow]; exact h.2 k hk⟩

theorem disk_setRow {F : Nat → Prop} {w : World} {d N : Nat} {M : List UInt8 → List Ext} {free fuse : Int} (h : DiskOf w d F N M free fuse) (g : Nat) (hg : ¬ F g) (cs : Array Value) : DiskOf (w.setRow g cs) d F N M free fuse :=
  h.otherA (fun k hk => setRow_otherA _ _ _ _ (fun e => hg (e ▸ hk)))

set_option maxHeartbeats 2000000 in
theorem save_new (w : World) (d : Nat) (F : Nat → Prop) (N : Nat) (M : List UInt8 → List Ext) (free : Int) (h : DiskOf w d F N M free (-1)) (hS : Sound5 w F) (hM0 : M [] = []) (hA : M (fileA ancN).data.toList = []) (hB : M (fileB ancN).data.toList = []) (hN : N + 2 < maxLen) (hfr : 2 ≤ free) (hfr2 : free ≤ 1000000)
    (y0 y1 y2 y3 y4 y5 y6 y7 y8 y9 : Int) (g : Nat) (hz : y0 + 1 = (g : Int)) (hcan : ancB (g : Int) y1 y2 y3 y4 y7 y8 y9 = true) (za zb p : List Nat) (HP : Hid (p = wordsB [(g : Int), y1, y2, y3, y4, y5, y6, y7, y8, y9])) (HZA : Hid (za = frameB (nums (fileA ancN)) 0 g p)) (HZB : Hid (zb = frameB (nums (fileB ancN)) 0 g p)) :
    Calls Tryd.prog 20 #[.pointer (some ⟨d, 0, none⟩), .agg #[.int .i64 y0, .int .i64 y1, .int .i64 y2, .int .i64 y3, .int .i64 y4, .int .i64 y5, .int .i64 y6, .int .i64 y7, .int .i64 y8, .int .i64 y9]] w fun e w' => e = .returned (.tuple #[.agg #[.int .i64 (g : Int), .int .i64 y1, .int .i64 y2, .int .i64 y3, .int .i64 y4, .int .i64 y5, .int .i64 y6, .int .i64 y7, .int .i64 y8, .int .i64 y9], .int .i64 0]) ∧ ∃ F', DiskOf w' d F' (N + 1 + 1) (upd (upd M (fileA ancN).data.toList [(zeroE.wrote za).synced]) (fileB ancN).data.toList [(zeroE.wrote zb).synced]) (free - 1 - 1) (-1) ∧ Gr F F' w w' := by
  have HD := hidn h
  have HS := hidn hS
  have hz62 : g ≤ 4611686018427387904 ∧ 1 ≤ g := by
    simp [ancB, inN] at hcan
    omega
  obtain ⟨hz62, hz1⟩ := hz62
  have hzw : IntKind.i64.wrap (y0 + 1) = (g : Int) := by rw [IntKind.wrap_i64]; omega
  have HE := hidn encode_yes
  clear h hS
  go_enter Tryd.func20, Tryd.ntmps20
  go_wp2_with fail
  refine (HE.out _ (g : Int) y1 y2 y3 y4 y5 y6 y7 y8 y9 hcan).mono ?_
  rintro e w1 ⟨v1, rfl, hown1, hb1⟩
  have hb2 := below2 w (.cells #[.int .i64 (g : Int), .int .i64 y1, .int .i64 y2, .int .i64 y3, .int .i64 y4, .int .i64 y5, .int .i64 y6, .int .i64 y7, .int .i64 y8, .int .i64 y9] 23) (.cells #[.int .i64 0, .int .i64 0, .int .i64 0, .int .i64 0, .int .i64 0, .int .i64 0, .int .i64 0, .int .i64 0, .int .i64 0, .int .i64 0] 23)
  have HB1 := hidn (hb2.trans (hb1.mono hb2.size))
  obtain ⟨hc0, hc1, hc2, hc3, hc4, hc5, hc6, hc7, hc8, hc9⟩ := ten_cells ((hb1.block w.heap.size (by rw [World.size_alloc, World.size_alloc]; omega)).trans (alloc_at1 w _ _))
  have HZ1 := hidn ((hb1.block (w.heap.size + 1) (by rw [World.size_alloc, World.size_alloc]; omega)).trans (alloc_at2 w _ _))
  have HA1 := hidn ((hb1.block w.heap.size (by rw [World.size_alloc, World.size_alloc]; omega)).trans (alloc_at1 w _ _))
  have hs1 : w.heap.size + 2 ≤ w1.heap.size := by have := hb1.size; rw [World.size_alloc, World.size_alloc] at this; omega
  rw [← HP.out] at hown1
  have hpl : ∀ x ∈ p, x < 256 := by rw [HP.out]; exact wordsB_lt _
  obtain ⟨pa, pc, e9, hBs⟩ := bs_of_own hown1 hpl
  have hBF : BsF F w1 pa 80 p := ⟨hBs, fun x hx _ hF => by
    have h9 := (hown1.lt x.block (by rw [e9, hx]; rfl)).1
    have := HS.out.lt _ hF
    rw [World.size_alloc, World.size_alloc] at h9
    omega⟩
  subst e9
  have HPut := hidn (put_new w1 d F N M free (HD.out.below HB1.out) (HS.out.below HB1.out) hM0 ancN (by decide) ancN_names.1 ancN_names.2.1 hA hB g hz62 pa 80 pc p hBF (by omega) za zb HZA HZB hN hfr hfr2)
  clear hb1 hb2 hown1 hBs hBF hpl
  go_wp2_with fail
  refine HPut.out.mono ?_
  clear HPut hc0 hc1 hc2 hc3 hc4 hc5 hc6 hc7 hc8 hc9
  rintro e w2 ⟨rfl, F2, hD2, hG2⟩
  have hnF : ∀ k, w.heap.size ≤ k → ¬ F k := fun k hk hF => by have := HS.out.lt _ hF; omega
  have HR2 := hidn (And.intro hD2 ((Gr.of (Keeps.of_below (F := F) HB1.out)).trans hG2))
  obtain ⟨hc0, hc1, hc2, hc3, hc4, hc5, hc6, hc7, hc8, hc9⟩ := ten_cells ((hG2.1.block w.heap.size (by omega) (hnF _ (by omega))).trans HA1.out)
  have HZ2 := hidn ((hG2.1.block (w.heap.size + 1) (by omega) (hnF _ (by omega))).trans HZ1.out)
  have hnF2 := hG2.not (b := w.heap.size + 1) (by omega) (hnF _ (by omega))
  clear hD2 hG2 HZ1 HA1 HB1
  simp only []
  go_at_K
  repeat (first
    | (with_reducible refine wpList_store_row (by rfl) 23 (.tmp 4) (.tmp 31) (by rfl) (w.heap.size + 1) #[.int .i64 (g : Int), .int .i64 y1, .int .i64 y2, .int .i64 y3, .int .i64 y4, .int .i64 y5, .int .i64 y6, .int .i64 y7, .int .i64 y8, .int .i64 y9] (by kernel_rfl) (by kernel_rfl) 23 #[.int .i64 0, .int .i64 0, .int .i64 0, .int .i64 0, .int .i64 0, .int .i64 0, .int .i64 0, .int .i64 0, .int .i64 0, .int .i64 0] HZ2.out (by kernel_rfl) (by kernel_rfl) (by kernel_rfl) ?_)
    | go_values | go_skip | go_guarded | go_step | go_upon)
  exact bodyPost_ret (v := .tuple #[.agg #[.int .i64 (g : Int), .int .i64 y1, .int .i64 y2, .int .i64 y3, .int .i64 y4, .int .i64 y5, .int .i64 y6, .int .i64 y7, .int .i64 y8, .int .i64 y9], .int .i64 0]) (results_cell_row_tmp rfl _ _ (w.heap.size + 1) 23 #[.int .i64 (g : Int), .int .i64 y1, .int .i64 y2, .int .i64 y3, .int .i64 y4, .int .i64 y5, .int .i64 y6, .int .i64 y7, .int .i64 y8, .int .i64 y9] (0, 0) _ rfl (setRow_heap _ _ _ _ _ _ HZ2.out) Tryd.underlying23 rfl (by kernel_rfl) _ rfl) rfl ⟨rfl, F2, disk_setRow HR2.out.1 _ hnF2 _, gr_setRow HR2.out.2 _ (by omega) _⟩

theorem own_80 {w : World} {base : Nat} {v : Value} {zs : List Nat} (h : w.ownsRow base 5 1 v 80 (vb zs)) (hl : zs.length = 80) : ∃ b cap, v = .slice (some ⟨b, 0, none⟩) 80 cap ∧ 80 ≤ cap ∧ ∀ q, q < 80 → w.cell? ⟨b, 0 + q, none⟩ = some (.int .u8 ((zs.getD q 0 : Nat) : Int)) := by
  have h0 := h
  rcases h.2 with ⟨_, h1⟩ | ⟨g, cap, cur, rfl, _, _, hle, _⟩
  · cases h1
  · refine ⟨g, cap, rfl, hle, fun q hq => ?_⟩
    have h2 := h0.cellAt q (by omega)
    rw [Nat.zero_add, h2]
    simp [vb, List.getD_eq_getElem?_getD, List.getElem?_eq_getElem (show q < zs.length by omega)]

set_option maxHeartbeats 2000000 in
theorem load_yes (w : World) (d : Nat) (F : Nat → Prop) (N : Nat) (M : List UInt8 → List Ext) (free fuse : Int) (h : DiskOf w d F N M free fuse) (hT : CrcTab w) (hM0 : M [] = []) (g : Nat) (x1 x2 x3 x4 x5 x6 x7 x8 x9 : Int) (zs : List Nat) (hz : ∀ x ∈ zs, x < 256) (hl : zs.length = 80) (hget : getP M ancN 0 = some (zs, g)) (hx : fieldsI zs = [(g : Int), x1, x2, x3, x4, x5, x6, x7, x8, x9]) (hcan : ancB (g : Int) x1 x2 x3 x4 x7 x8 x9 = true) :
    Calls Tryd.prog 24 #[.pointer (some ⟨d, 0, none⟩)] w fun e w' => e = .returned (.tuple #[.agg #[.int .i64 (g : Int), .int .i64 x1, .int .i64 x2, .int .i64 x3, .int .i64 x4, .int .i64 x5, .int .i64 x6, .int .i64 x7, .int .i64 x8, .int .i64 x9], .int .i64 0]) ∧ Below w.heap.size w w' := by
  have HD := hidn h
  have HDec := hidn decode_yes
  have HZ := hidn hz
  have HL := hidn hl
  have HX := hidn hx
  have HG := hidn (fun wx hb => get_all wx d F N M free fuse (HD.out.below hb) (hT.below hb) hM0 ancN (by decide) 0)
  rw [hget] at HG
  clear h hT hz hl hx
  go_enter Tryd.func24, Tryd.ntmps24
  go_wp2_with fail
  refine (HG.out _ (below1 _ _)).mono ?_
  rintro e w1 ⟨hb1, h1⟩
  obtain ⟨v1, rfl, hown1⟩ := (show ∃ v, e = .returned (.tuple #[v, .int .i64 (g : Int), .int .i64 0]) ∧ w1.ownsRow (w.alloc _).heap.size 5 1 v zs.length (vb zs) from h1)
  rw [HL.out] at hown1
  have HB1 := hidn ((below1 w _).trans (hb1.mono (below1 w _).size))
  have hz1 := (hb1.block w.heap.size (by rw [World.size_alloc]; omega)).trans (heap_alloc_new w _)
  have hs1 : w.heap.size + 1 ≤ w1.heap.size := by have := hb1.size; rw [World.size_alloc] at this; exact this
  obtain ⟨b, cap, rfl, hcp, hcell⟩ := own_80 hown1 HL.out
  have HDe := hidn (HDec.out w1 b 0 cap zs HL.out HZ.out hcp hcell (g : Int) x1 x2 x3 x4 x5 x6 x7 x8 x9 HX.out hcan)
  have hgg : ((g : Int) != (g : Int)) = false := by simp
  clear hb1 h1 hown1 hcell HDec HG
  go_wp2_with fail
  refine HDe.out.mono ?_
  clear HDe
  rintro e w2 ⟨rfl, hb2⟩
  have HB2 := hidn (HB1.out.trans (hb2.mono HB1.out.size))
  have HZ2 := hidn ((hb2.block w.heap.size (by omega)).trans hz1)
  have hs2 : w.heap.size + 1 ≤ w2.heap.size := by have := hb2.size; omega
  clear hb2 hz1 hs1
  simp only []
  go_at_K
  repeat (first
    | (with_reducible refine wpList_store_row (by rfl) 23 (.tmp 2) (.tmp 35) (by rfl) w.heap.size #[.int .i64 (g : Int), .int .i64 x1, .int .i64 x2, .int .i64 x3, .int .i64 x4, .int .i64 x5, .int .i64 x6, .int .i64 x7, .int .i64 x8, .int .i64 x9] (by kernel_rfl) (by kernel_rfl) 23 #[.int .i64 0, .int .i64 0, .int .i64 0, .int .i64 0, .int .i64 0, .int .i64 0, .int .i64 0, .int .i64 0, .int .i64 0, .int .i64 0] ((Below.heap_alloc _ _ _ (by omega)).trans HZ2.out) (by kernel_rfl) (by kernel_rfl) (by kernel_rfl) ?_)
    | go_values | go_skip | go_guarded | go_step | go_upon)
  exact bodyPost_ret (v := .tuple #[.agg #[.int .i64 (g : Int), .int .i64 x1, .int .i64 x2, .int .i64 x3, .int .i64 x4, .int .i64 x5, .int .i64 x6, .int .i64 x7, .int .i64 x8, .int .i64 x9], .int .i64 0]) (results_cell_row_tmp rfl _ _ w.heap.size 23 #[.int .i64 (g : Int), .int .i64 x1, .int .i64 x2, .int .i64 x3, .int .i64 x4, .int .i64 x5, .int .i64 x6, .int .i64 x7, .int .i64 x8, .int .i64 x9] (0, 0) _ rfl (setRow_heap _ _ _ _ _ _ ((Below.heap_alloc _ _ _ (by omega)).trans HZ2.out)) Tryd.underlying23 rfl (by kernel_rfl) _ rfl) rfl ⟨rfl, below_setRow (HB2.out.alloc HB2.out.size _) (Nat.le_refl _) _⟩
end Go.Proofs.YthgkpjdbpkgngaaDoor
