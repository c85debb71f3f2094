/- anchor: the document's Save and Load, and the program's Load, on any disk. -/
import Derived.Test.YtdppolelakbbiaaGreatDoorMw
import Derived.Test.YtdppolelakbbiaaGreatDoorAnK
import Derived.Test.YtdppolelakbbiaaGreatDoorMn
namespace Go.Proofs.YtdppolelakbbiaaGreatDoor
open Go.RowKit Go.Maps
set_option linter.unusedVariables false
def SvPostY (w : World) (y : Nat) (F : Nat → Prop) (room : Int) (st : St) (v : Int) (A : Value) (e : Ending) (w' : World) : Prop :=
 e = .returned (.tuple #[A, .int .i64 v]) ∧ ∃ F', DiskY w' y F' room st ∧ Gr F F' w w'
theorem diskY_setRow {F : Nat → Prop} {w : World} {y : Nat} {room : Int} {st : St} (h : DiskY w y F room st) (g : Nat) (hg : ¬ F g) (cs : Array Value) : DiskY (w.setRow g cs) y F room st :=
 h.other (fun k hk => setRow_otherA w g k cs (fun e => hg (e ▸ hk)))
theorem openB_lt {zs nm : List Nat} {i : Int} {p : List Nat} {n : Nat} (h : openB zs nm i = some (p, n)) (hz : ∀ x ∈ zs, x < 256) : p.length ≤ 106 ∧ ∀ x ∈ p, x < 256 := by
 unfold openB at h
 split at h
 ·
  next hc =>
  simp only [Option.some.injEq, Prod.mk.injEq] at h
  obtain ⟨rfl, _⟩ := h
  refine ⟨?_, fun x hx => hz x (List.mem_of_mem_drop (List.mem_of_mem_take hx))⟩
  rw [List.length_take]
  have := hc.2.2.1
  omega
 ·
  cases h
theorem rdO_lt {l : List Ext} {nm : List Nat} {i : Int} {p : List Nat} {n : Nat} (h : rdO l nm i = some (p, n)) (hok : ∀ x ∈ l, x.ok) : p.length ≤ 106 ∧ ∀ x ∈ p, x < 256 := by
 unfold rdO at h
 split at h
 ·
  cases h
 ·
  cases hx : l[i.toNat]? with
  | none => rw [hx] at h; cases h
  | some x =>
   rw [hx] at h
   refine openB_lt h ?_
   obtain ⟨o1, o2, o3⟩ := hok x (lQ7 hx)
   unfold Ext.rd
   split
   ·
    exact o3.2
   ·
    exact o1.2
theorem getP_lt {M : List UInt8 → List Ext} {s : ByteArray} {i : Int} {p : List Nat} {n : Nat} (h : getP M s i = some (p, n)) (hok : ∀ s, ∀ x ∈ M s, x.ok) : p.length ≤ 106 ∧ ∀ x ∈ p, x < 256 := by
 unfold getP at h
 cases ha : rdO (M (fileA s).data.toList) (nums (fileA s)) i with
 | none =>
  rw [ha] at h
  exact rdO_lt h (hok _)
 | some x =>
  obtain ⟨pa, na⟩ := x
  rw [ha] at h
  cases hb : rdO (M (fileB s).data.toList) (nums (fileB s)) i with
  | none =>
   rw [hb] at h
   obtain ⟨rfl, rfl⟩ : pa = p ∧ na = n := by simpa [getO] using h
   exact rdO_lt ha (hok _)
  | some y =>
   obtain ⟨pb, nb⟩ := y
   rw [hb] at h
   unfold getO at h
   simp only at h
   split at h
   ·
    obtain ⟨rfl, rfl⟩ : pb = p ∧ nb = n := by simpa using h
    exact rdO_lt hb (hok _)
   ·
    obtain ⟨rfl, rfl⟩ : pa = p ∧ na = n := by simpa using h
    exact rdO_lt ha (hok _)
set_option maxHeartbeats 2000000 in
theorem saveY_arg (w : World) (y : Nat) (y0 y1 y2 y3 y4 y5 y6 y7 y8 y9 : Int) (h : y0 < 0 ∨ 4611686018427387904 ≤ y0) :
  Calls Tryz.prog 25 #[.pointer (some ⟨y, 0, none⟩), .agg (tQ y0 y1 y2 y3 y4 y5 y6 y7 y8 y9)] w fun e w' => e = .returned (.tuple #[.agg (tQ 0 0 0 0 0 0 0 0 0 0), .int .i64 1]) ∧ Below w.heap.size w w' := by
 by_cases h0 : y0 < 0
 ·
  have h1 : decide (y0 < 0) = true := decide_eq_true h0
  go_enter Tryz.func25, Tryz.ntmps25
  go_wp2
  exact bodyPost_ret (v := .tuple #[.agg (tQ 0 0 0 0 0 0 0 0 0 0), .int .i64 1]) (results_cell_row_tmp rfl _ _ (w.heap.size + 1) 58 (tQ 0 0 0 0 0 0 0 0 0 0) (0, 0) _ rfl (alloc_at2 w _ _) Tryz.underlying58 rfl (by kernel_rfl) _ rfl) rfl ⟨rfl, below2 w _ _⟩
 ·
  have h1 : decide (y0 < 0) = false := decide_eq_false h0
  have h2 : 4611686018427387904 ≤ y0 := by omega
  have h3 : decide (4611686018427387904 ≤ y0) = true := decide_eq_true h2
  go_enter Tryz.func25, Tryz.ntmps25
  go_wp2
  exact bodyPost_ret (v := .tuple #[.agg (tQ 0 0 0 0 0 0 0 0 0 0), .int .i64 1]) (results_cell_row_tmp rfl _ _ (w.heap.size + 1) 58 (tQ 0 0 0 0 0 0 0 0 0 0) (0, 0) _ rfl (alloc_at2 w _ _) Tryz.underlying58 rfl (by kernel_rfl) _ rfl) rfl ⟨rfl, below2 w _ _⟩
set_option maxHeartbeats 2000000 in
theorem saveY_no (w : World) (y : Nat) (y0 y1 y2 y3 y4 y5 y6 y7 y8 y9 : Int) (g : Nat) (hz : y0 + 1 = (g : Int)) (hy0 : 0 ≤ y0) (hy1 : y0 < 4611686018427387904) (hcan : ancB (g : Int) y1 y2 y3 y4 y7 y8 y9 = false) :
  Calls Tryz.prog 25 #[.pointer (some ⟨y, 0, none⟩), .agg (tQ y0 y1 y2 y3 y4 y5 y6 y7 y8 y9)] w fun e w' => e = .returned (.tuple #[.agg (tQ 0 0 0 0 0 0 0 0 0 0), .int .i64 1]) ∧ Below w.heap.size w w' := by
 have HE := hidn refEncode_no
 have HCN := hidn hcan
 clear hcan
 have hzw : IntKind.i64.wrap (y0 + 1) = (g : Int) := by rw [IntKind.wrap_i64]; omega
 have h0 : ¬ y0 < 0 := by omega
 have h0d : decide (y0 < 0) = false := decide_eq_false h0
 have h1 : ¬ 4611686018427387904 ≤ y0 := by omega
 have h1d : decide (4611686018427387904 ≤ y0) = false := decide_eq_false h1
 clear hz hy0 hy1
 go_enter Tryz.func25, Tryz.ntmps25
 go_wp2_with fail
 obtain ⟨W1, hW1⟩ : ∃ W1, W1 = (w.alloc (.cells (tQ (g : Int) y1 y2 y3 y4 y5 y6 y7 y8 y9) 58)).alloc (.cells (tQ 0 0 0 0 0 0 0 0 0 0) 58) := ⟨_, rfl⟩
 have HA1 : Hid (W1.heap[w.heap.size]? = some (.cells (tQ (g : Int) y1 y2 y3 y4 y5 y6 y7 y8 y9) 58 (0, 0))) := hidn (by rw [hW1]; exact alloc_at1 w _ _)
 have HZ1 : Hid (W1.heap[w.heap.size + 1]? = some (.cells (tQ 0 0 0 0 0 0 0 0 0 0) 58 (0, 0))) := hidn (by rw [hW1]; exact alloc_at2 w _ _)
 have HB1 : Hid (Below w.heap.size w W1) := hidn (by rw [hW1]; exact below2 w _ _)
 have hs1 : w.heap.size + 2 ≤ W1.heap.size := by rw [hW1, World.size_alloc, World.size_alloc]; omega
 rw [← hW1]
 clear hW1 h0 h0d h1 h1d hzw
 refine (HE.out _ (g : Int) y1 y2 y3 y4 y5 y6 y7 y8 y9 HCN.out).mono ?_
 rintro e w2 ⟨rfl, hb2⟩
 have HB2 := hidn (HB1.out.trans (hb2.mono HB1.out.size))
 have HZ2 := hidn ((hb2.block (w.heap.size + 1) (by omega)).trans HZ1.out)
 clear hb2 HB1 HA1 HZ1
 simp only []
 go_at_K
 repeat (first
  | (with_reducible refine wpList_store_row (by rfl) 58 (.tmp 4) (.tmp 29) (by rfl) (w.heap.size + 1) (tQ 0 0 0 0 0 0 0 0 0 0) (by kernel_rfl) (by kernel_rfl) 58 (tQ 0 0 0 0 0 0 0 0 0 0) HZ2.out (by kernel_rfl) (by kernel_rfl) (by kernel_rfl) ?_)
  | go_values | go_skip | go_guarded | go_step | go_upon)
 exact bodyPost_ret (v := .tuple #[.agg (tQ 0 0 0 0 0 0 0 0 0 0), .int .i64 1]) (results_cell_row_tmp rfl _ _ (w.heap.size + 1) 58 (tQ 0 0 0 0 0 0 0 0 0 0) (0, 0) _ rfl (setRow_heap _ _ _ _ _ _ HZ2.out) Tryz.underlying58 rfl (by kernel_rfl) _ rfl) rfl ⟨rfl, below_setRow HB2.out (by omega) _⟩
set_option maxHeartbeats 4000000 in
theorem saveY_st (w : World) (y : Nat) (F : Nat → Prop) (room : Int) (st : St) (h : DiskY w y F room st) (hF : ∀ k, F k → k < w.heap.size)
  (y0 y1 y2 y3 y4 y5 y6 y7 y8 y9 : Int) (g : Nat) (hz : y0 + 1 = (g : Int)) (hy0 : 0 ≤ y0) (hy1 : y0 < 4611686018427387904) (hcan : ancB (g : Int) y1 y2 y3 y4 y7 y8 y9 = true) (p : List Nat) (HP : Hid (p = wordsB [(g : Int), y1, y2, y3, y4, y5, y6, y7, y8, y9])) (st' : St) (rv : Int) (HR : Hid (putD st ancN 0 g p = (st', rv))) (A : Value) (hA0 : rv = 0 → A = .agg (tQ (g : Int) y1 y2 y3 y4 y5 y6 y7 y8 y9)) (hA1 : rv ≠ 0 → A = .agg (tQ 0 0 0 0 0 0 0 0 0 0)) :
  Calls Tryz.prog 25 #[.pointer (some ⟨y, 0, none⟩), .agg (tQ y0 y1 y2 y3 y4 y5 y6 y7 y8 y9)] w (SvPostY w y F room st' rv A) := by
 have HD := hidn h
 have HF := hidn hF
 have HEA := hidn (And.intro hA0 hA1)
 have hz62 : g ≤ 4611686018427387904 := by omega
 have HE := hidn refEncode_yes
 have HCN := hidn hcan
 clear h hF hcan hA0 hA1
 have hzw : IntKind.i64.wrap (y0 + 1) = (g : Int) := by rw [IntKind.wrap_i64]; omega
 have h0 : ¬ y0 < 0 := by omega
 have h0d : decide (y0 < 0) = false := decide_eq_false h0
 have h1 : ¬ 4611686018427387904 ≤ y0 := by omega
 have h1d : decide (4611686018427387904 ≤ y0) = false := decide_eq_false h1
 clear hz hy0 hy1
 go_enter Tryz.func25, Tryz.ntmps25
 go_wp2_with fail
 obtain ⟨W1, hW1⟩ : ∃ W1, W1 = (w.alloc (.cells (tQ (g : Int) y1 y2 y3 y4 y5 y6 y7 y8 y9) 58)).alloc (.cells (tQ 0 0 0 0 0 0 0 0 0 0) 58) := ⟨_, rfl⟩
 have HA1 : Hid (W1.heap[w.heap.size]? = some (.cells (tQ (g : Int) y1 y2 y3 y4 y5 y6 y7 y8 y9) 58 (0, 0))) := hidn (by rw [hW1]; exact alloc_at1 w _ _)
 have HZ1 : Hid (W1.heap[w.heap.size + 1]? = some (.cells (tQ 0 0 0 0 0 0 0 0 0 0) 58 (0, 0))) := hidn (by rw [hW1]; exact alloc_at2 w _ _)
 have HB1 : Hid (Below w.heap.size w W1) := hidn (by rw [hW1]; exact below2 w _ _)
 have hs1 : w.heap.size + 2 ≤ W1.heap.size := by rw [hW1, World.size_alloc, World.size_alloc]; omega
 rw [← hW1]
 clear hW1 h0 h0d h1 h1d hzw
 refine (HE.out _ (g : Int) y1 y2 y3 y4 y5 y6 y7 y8 y9 HCN.out).mono ?_
 rintro e w2 ⟨v1, rfl, hown1, hb1⟩
 have HB2 := hidn (HB1.out.trans (hb1.mono HB1.out.size))
 have HZ2 := hidn ((hb1.block (w.heap.size + 1) (by omega)).trans HZ1.out)
 have HA2 := hidn ((hb1.block w.heap.size (by omega)).trans HA1.out)
 have hs2 : w.heap.size + 2 ≤ w2.heap.size := by have := hb1.size; omega
 obtain ⟨hc0, hc1, hc2, hc3, hc4, hc5, hc6, hc7, hc8, hc9⟩ := ten_cells HA2.out
 rw [← HP.out] at hown1
 have hpl : ∀ x ∈ p, x < 256 := by rw [HP.out]; exact wordsB_lt _
 obtain ⟨pb, pc, e8, hpb, hpc, _⟩ := own_form (hidn hown1) (by omega)
 obtain ⟨pa, pc', e9, hBs⟩ := bs_of_own hown1 hpl
 subst e8
 obtain ⟨e7, e6⟩ : pa = some ⟨pb, 0, none⟩ ∧ pc' = pc := by simpa using e9.symm
 rw [e7] at hBs
 clear e6 e7 e9
 have hBF : BsF F w2 (some ⟨pb, 0, none⟩) 80 p := ⟨hBs, fun x hx _ hF => by
  cases hx
  have h5 : pb < w.heap.size := HF.out _ hF
  omega⟩
 have HPut := hidn (putY_st w2 y F room st (HD.out.below HF.out HB2.out) (fun k hk => lQ2 (HF.out k hk) HB2.out.size) ancN (by decide) ancN_names.1 ancN_names.2.1 0 g (by omega) hz62 (some ⟨pb, 0, none⟩) 80 pc p hBF (fun h => by cases h) (by omega))
 rw [HR.out] at HPut
 clear hb1 hown1 hBs hBF hpl HB1 HZ1 HA1 hpb hpc
 go_wp2_with fail
 refine HPut.out.mono ?_
 clear HPut hc0 hc1 hc2 hc3 hc4 hc5 hc6 hc7 hc8 hc9
 rintro e w3 ⟨he, F2, hD2, hG2⟩
 obtain rfl : e = .returned (.int .i64 rv) := he
 have hD2' : DiskY w3 y F2 room st' := hD2
 have hnF : ∀ k, w.heap.size ≤ k → ¬ F k := fun k hk hF => by have := HF.out _ hF; omega
 have HR2 := hidn (And.intro hD2' ((Gr.of (Keeps.of_below (F := F) HB2.out)).trans hG2))
 obtain ⟨hc0, hc1, hc2, hc3, hc4, hc5, hc6, hc7, hc8, hc9⟩ := ten_cells ((hG2.1.block w.heap.size (by omega) (hnF _ (by omega))).trans HA2.out)
 have HA3 := hidn ((hG2.1.block w.heap.size (by omega) (hnF _ (by omega))).trans HA2.out)
 have HZ3 := hidn ((hG2.1.block (w.heap.size + 1) (by omega) (hnF _ (by omega))).trans HZ2.out)
 have hnF2 := hG2.not (b := w.heap.size + 1) (by omega) (hnF _ (by omega))
 clear hD2 hD2' hG2 HZ2 HA2 HB2
 by_cases h0 : rv = 0
 ·
  subst h0
  have hAe := HEA.out.1 rfl
  subst hAe
  simp only []
  go_at_K
  repeat (first
   | (with_reducible refine wpList_store_row (by rfl) 58 (.tmp 4) (.tmp 40) (by rfl) (w.heap.size + 1) (tQ (g : Int) y1 y2 y3 y4 y5 y6 y7 y8 y9) (by kernel_rfl) (by kernel_rfl) 58 (tQ 0 0 0 0 0 0 0 0 0 0) HZ3.out (by kernel_rfl) (by kernel_rfl) (by kernel_rfl) ?_)
   | go_values | go_skip | go_guarded | go_step | go_upon)
  exact bodyPost_ret (v := .tuple #[.agg (tQ (g : Int) y1 y2 y3 y4 y5 y6 y7 y8 y9), .int .i64 0]) (results_cell_row_tmp rfl _ _ (w.heap.size + 1) 58 (tQ (g : Int) y1 y2 y3 y4 y5 y6 y7 y8 y9) (0, 0) _ rfl (setRow_heap _ _ _ _ _ _ HZ3.out) Tryz.underlying58 rfl (by kernel_rfl) _ rfl) rfl ⟨rfl, F2, diskY_setRow HR2.out.1 _ hnF2 _, gr_setRow HR2.out.2 _ (by omega) _⟩
 ·
  have h0' : (rv != 0) = true := bne_iff_ne.2 h0
  have hAe := HEA.out.2 h0
  subst hAe
  simp only []
  go_at_K
  repeat (first
   | (with_reducible refine wpList_store_row (by rfl) 58 (.tmp 4) (.tmp 38) (by rfl) (w.heap.size + 1) (tQ 0 0 0 0 0 0 0 0 0 0) (by kernel_rfl) (by kernel_rfl) 58 (tQ 0 0 0 0 0 0 0 0 0 0) HZ3.out (by kernel_rfl) (by kernel_rfl) (by kernel_rfl) ?_)
   | go_values | go_skip | go_guarded | go_step | go_upon)
  exact bodyPost_ret (v := .tuple #[.agg (tQ 0 0 0 0 0 0 0 0 0 0), .int .i64 rv]) (results_cell_row_tmp rfl _ _ (w.heap.size + 1) 58 (tQ 0 0 0 0 0 0 0 0 0 0) (0, 0) _ rfl (setRow_heap _ _ _ _ _ _ HZ3.out) Tryz.underlying58 rfl (by kernel_rfl) _ rfl) rfl ⟨rfl, F2, diskY_setRow HR2.out.1 _ hnF2 _, gr_setRow HR2.out.2 _ (by omega) _⟩
set_option maxHeartbeats 2000000 in
theorem loadY_none (w : World) (y : Nat) (F : Nat → Prop) (room : Int) (st : St) (h : DiskY w y F room st) (hF : ∀ k, F k → k < w.heap.size) (hget : getP st.M ancN 0 = none) :
  Calls Tryz.prog 27 #[.pointer (some ⟨y, 0, none⟩)] w fun e w' => e = .returned (.tuple #[.agg (tQ 0 0 0 0 0 0 0 0 0 0), .int .i64 170]) ∧ Below w.heap.size w w' := by
 have HG := hidn (fun wx (hb : Below w.heap.size w wx) => getY_all wx y F room st (h.below hF hb) (fun k hk => lQ2 (hF k hk) hb.size) ancN (by decide) 0)
 rw [hget] at HG
 clear h hF hget
 go_enter Tryz.func27, Tryz.ntmps27
 go_wp2_with fail
 have HB0 := hidn (below1 w (.cells (tQ 0 0 0 0 0 0 0 0 0 0) 58))
 have hz0 := heap_alloc_new w (.cells (tQ 0 0 0 0 0 0 0 0 0 0) 58)
 have hs0 : w.heap.size + 1 ≤ (w.alloc (.cells (tQ 0 0 0 0 0 0 0 0 0 0) 58)).heap.size := by rw [World.size_alloc]; omega
 obtain ⟨w0, hw0⟩ : ∃ w0, w0 = w.alloc (.cells (tQ 0 0 0 0 0 0 0 0 0 0) 58) := ⟨_, rfl⟩
 rw [← hw0] at HB0 hz0 hs0 ⊢
 clear hw0
 refine (HG.out _ HB0.out).mono ?_
 rintro e w1 ⟨hb1, h1⟩
 obtain rfl := (show e = .returned (.tuple #[.slice none 0 0, .int .i64 0, .int .i64 50]) from h1)
 have HB1 := hidn (HB0.out.trans (hb1.mono HB0.out.size))
 have HZ1 := hidn ((hb1.block w.heap.size (by omega)).trans hz0)
 clear hb1 h1 HG HB0 hz0
 simp only []
 go_at_K
 repeat (first
  | (with_reducible refine wpList_store_row (by rfl) 58 (.tmp 2) (.tmp 16) (by rfl) w.heap.size (tQ 0 0 0 0 0 0 0 0 0 0) (by kernel_rfl) (by kernel_rfl) 58 (tQ 0 0 0 0 0 0 0 0 0 0) HZ1.out (by kernel_rfl) (by kernel_rfl) (by kernel_rfl) ?_)
  | go_values | go_skip | go_guarded | go_step | go_upon)
 exact bodyPost_ret (v := .tuple #[.agg (tQ 0 0 0 0 0 0 0 0 0 0), .int .i64 170]) (results_cell_row_tmp rfl _ _ w.heap.size 58 (tQ 0 0 0 0 0 0 0 0 0 0) (0, 0) _ rfl (setRow_heap _ _ _ _ _ _ HZ1.out) Tryz.underlying58 rfl (by kernel_rfl) _ rfl) rfl ⟨rfl, below_setRow HB1.out (Nat.le_refl _) _⟩
set_option maxHeartbeats 2000000 in
theorem loadY_len (w : World) (y : Nat) (F : Nat → Prop) (room : Int) (st : St) (h : DiskY w y F room st) (hF : ∀ k, F k → k < w.heap.size) (zs : List Nat) (g : Nat) (hget : getP st.M ancN 0 = some (zs, g)) (hl : zs.length ≠ 80) (hl2 : zs.length ≤ 106) :
  Calls Tryz.prog 27 #[.pointer (some ⟨y, 0, none⟩)] w fun e w' => e = .returned (.tuple #[.agg (tQ 0 0 0 0 0 0 0 0 0 0), .int .i64 170]) ∧ Below w.heap.size w w' := by
 have HG := hidn (fun wx (hb : Below w.heap.size w wx) => getY_all wx y F room st (h.below hF hb) (fun k hk => lQ2 (hF k hk) hb.size) ancN (by decide) 0)
 rw [hget] at HG
 have HL := hidn hl
 have HL2 := hidn hl2
 clear h hF hget hl hl2
 go_enter Tryz.func27, Tryz.ntmps27
 go_wp2_with fail
 have HB0 := hidn (below1 w (.cells (tQ 0 0 0 0 0 0 0 0 0 0) 58))
 have hz0 := heap_alloc_new w (.cells (tQ 0 0 0 0 0 0 0 0 0 0) 58)
 have hs0 : w.heap.size + 1 ≤ (w.alloc (.cells (tQ 0 0 0 0 0 0 0 0 0 0) 58)).heap.size := by rw [World.size_alloc]; omega
 obtain ⟨w0, hw0⟩ : ∃ w0, w0 = w.alloc (.cells (tQ 0 0 0 0 0 0 0 0 0 0) 58) := ⟨_, rfl⟩
 rw [← hw0] at HB0 hz0 hs0 ⊢
 clear hw0
 refine (HG.out _ HB0.out).mono ?_
 rintro e w1 ⟨hb1, h1⟩
 obtain ⟨v1, rfl, hown1⟩ := (show ∃ v, e = .returned (.tuple #[v, .int .i64 (g : Int), .int .i64 0]) ∧ w1.ownsRow w0.heap.size 5 1 v zs.length (vb zs) from h1)
 obtain ⟨va, vc, rfl⟩ := own_sliceG hown1
 have HDe := hidn (refDecode_len w1 va zs.length vc HL.out (by have := HL2.out; unfold maxLen; omega))
 have HB1 := hidn (HB0.out.trans (hb1.mono HB0.out.size))
 have hz1 := (hb1.block w.heap.size (by omega)).trans hz0
 have hs1 : w.heap.size + 1 ≤ w1.heap.size := by have := hb1.size; omega
 clear hb1 h1 hown1 HG HB0 hz0 hs0
 go_wp2_with fail
 refine HDe.out.mono ?_
 clear HDe
 rintro e w2 ⟨rfl, hb2⟩
 have HB2 := hidn (HB1.out.trans (hb2.mono HB1.out.size))
 have HZ2 := hidn ((hb2.block w.heap.size (by omega)).trans hz1)
 have hs2 : w.heap.size + 1 ≤ w2.heap.size := by have := hb2.size; omega
 clear hb2 hz1 hs1
 simp only []
 go_at_K
 repeat (first
  | (with_reducible refine wpList_store_row (by rfl) 58 (.tmp 2) (.tmp 30) (by rfl) w.heap.size (tQ 0 0 0 0 0 0 0 0 0 0) (by kernel_rfl) (by kernel_rfl) 58 (tQ 0 0 0 0 0 0 0 0 0 0) ((Below.heap_alloc _ _ _ (by omega)).trans HZ2.out) (by kernel_rfl) (by kernel_rfl) (by kernel_rfl) ?_)
  | go_values | go_skip | go_guarded | go_step | go_upon)
 exact bodyPost_ret (v := .tuple #[.agg (tQ 0 0 0 0 0 0 0 0 0 0), .int .i64 170]) (results_cell_row_tmp rfl _ _ w.heap.size 58 (tQ 0 0 0 0 0 0 0 0 0 0) (0, 0) _ rfl (setRow_heap _ _ _ _ _ _ ((Below.heap_alloc _ _ _ (by omega)).trans HZ2.out)) Tryz.underlying58 rfl (by kernel_rfl) _ rfl) rfl ⟨rfl, below_setRow (HB2.out.alloc (by omega) _) (Nat.le_refl _) _⟩
set_option maxHeartbeats 2000000 in
theorem loadY_can (w : World) (y : Nat) (F : Nat → Prop) (room : Int) (st : St) (h : DiskY w y F room st) (hF : ∀ k, F k → k < w.heap.size) (zs : List Nat) (g : Nat) (hget : getP st.M ancN 0 = some (zs, g)) (hl : zs.length = 80) (hz : ∀ x ∈ zs, x < 256) (x0 x1 x2 x3 x4 x5 x6 x7 x8 x9 : Int) (hx : fieldsI zs = [x0, x1, x2, x3, x4, x5, x6, x7, x8, x9]) (hcan : ancB x0 x1 x2 x3 x4 x7 x8 x9 = false) :
  Calls Tryz.prog 27 #[.pointer (some ⟨y, 0, none⟩)] w fun e w' => e = .returned (.tuple #[.agg (tQ 0 0 0 0 0 0 0 0 0 0), .int .i64 170]) ∧ Below w.heap.size w w' := by
 have HG := hidn (fun wx (hb : Below w.heap.size w wx) => getY_all wx y F room st (h.below hF hb) (fun k hk => lQ2 (hF k hk) hb.size) ancN (by decide) 0)
 rw [hget] at HG
 have HL := hidn hl
 have HZs := hidn hz
 have HX := hidn hx
 have HCN := hidn hcan
 clear h hF hget hl hz hx hcan
 go_enter Tryz.func27, Tryz.ntmps27
 go_wp2_with fail
 have HB0 := hidn (below1 w (.cells (tQ 0 0 0 0 0 0 0 0 0 0) 58))
 have hz0 := heap_alloc_new w (.cells (tQ 0 0 0 0 0 0 0 0 0 0) 58)
 have hs0 : w.heap.size + 1 ≤ (w.alloc (.cells (tQ 0 0 0 0 0 0 0 0 0 0) 58)).heap.size := by rw [World.size_alloc]; omega
 obtain ⟨w0, hw0⟩ : ∃ w0, w0 = w.alloc (.cells (tQ 0 0 0 0 0 0 0 0 0 0) 58) := ⟨_, rfl⟩
 rw [← hw0] at HB0 hz0 hs0 ⊢
 clear hw0
 refine (HG.out _ HB0.out).mono ?_
 rintro e w1 ⟨hb1, h1⟩
 obtain ⟨v1, rfl, hown1⟩ := (show ∃ v, e = .returned (.tuple #[v, .int .i64 (g : Int), .int .i64 0]) ∧ w1.ownsRow w0.heap.size 5 1 v zs.length (vb zs) from h1)
 rw [HL.out] at hown1
 obtain ⟨b, cap, rfl, hcp, hcell⟩ := own_80 hown1 HL.out
 have HDe := hidn (refDecode_no w1 b 0 cap zs HL.out HZs.out hcp hcell x0 x1 x2 x3 x4 x5 x6 x7 x8 x9 HX.out HCN.out)
 have HB1 := hidn (HB0.out.trans (hb1.mono HB0.out.size))
 have hz1 := (hb1.block w.heap.size (by omega)).trans hz0
 have hs1 : w.heap.size + 1 ≤ w1.heap.size := by have := hb1.size; omega
 clear hb1 h1 hown1 hcell hcp HG HB0 hz0 hs0
 go_wp2_with fail
 refine HDe.out.mono ?_
 clear HDe
 rintro e w2 ⟨rfl, hb2⟩
 have HB2 := hidn (HB1.out.trans (hb2.mono HB1.out.size))
 have HZ2 := hidn ((hb2.block w.heap.size (by omega)).trans hz1)
 have hs2 : w.heap.size + 1 ≤ w2.heap.size := by have := hb2.size; omega
 clear hb2 hz1 hs1
 simp only []
 go_at_K
 repeat (first
  | (with_reducible refine wpList_store_row (by rfl) 58 (.tmp 2) (.tmp 30) (by rfl) w.heap.size (tQ 0 0 0 0 0 0 0 0 0 0) (by kernel_rfl) (by kernel_rfl) 58 (tQ 0 0 0 0 0 0 0 0 0 0) ((Below.heap_alloc _ _ _ (by omega)).trans HZ2.out) (by kernel_rfl) (by kernel_rfl) (by kernel_rfl) ?_)
  | go_values | go_skip | go_guarded | go_step | go_upon)
 exact bodyPost_ret (v := .tuple #[.agg (tQ 0 0 0 0 0 0 0 0 0 0), .int .i64 170]) (results_cell_row_tmp rfl _ _ w.heap.size 58 (tQ 0 0 0 0 0 0 0 0 0 0) (0, 0) _ rfl (setRow_heap _ _ _ _ _ _ ((Below.heap_alloc _ _ _ (by omega)).trans HZ2.out)) Tryz.underlying58 rfl (by kernel_rfl) _ rfl) rfl ⟨rfl, below_setRow (HB2.out.alloc (by omega) _) (Nat.le_refl _) _⟩
set_option maxHeartbeats 2000000 in
theorem loadY_seq (w : World) (y : Nat) (F : Nat → Prop) (room : Int) (st : St) (h : DiskY w y F room st) (hF : ∀ k, F k → k < w.heap.size) (zs : List Nat) (g : Nat) (hget : getP st.M ancN 0 = some (zs, g)) (hl : zs.length = 80) (hz : ∀ x ∈ zs, x < 256) (x0 x1 x2 x3 x4 x5 x6 x7 x8 x9 : Int) (hx : fieldsI zs = [x0, x1, x2, x3, x4, x5, x6, x7, x8, x9]) (hcan : ancB x0 x1 x2 x3 x4 x7 x8 x9 = true) (hne : x0 ≠ (g : Int)) :
  Calls Tryz.prog 27 #[.pointer (some ⟨y, 0, none⟩)] w fun e w' => e = .returned (.tuple #[.agg (tQ 0 0 0 0 0 0 0 0 0 0), .int .i64 170]) ∧ Below w.heap.size w w' := by
 have hne2 : (x0 != (g : Int)) = true := bne_iff_ne.2 hne
 clear hne
 have HG := hidn (fun wx (hb : Below w.heap.size w wx) => getY_all wx y F room st (h.below hF hb) (fun k hk => lQ2 (hF k hk) hb.size) ancN (by decide) 0)
 rw [hget] at HG
 have HL := hidn hl
 have HZs := hidn hz
 have HX := hidn hx
 have HCN := hidn hcan
 clear h hF hget hl hz hx hcan
 go_enter Tryz.func27, Tryz.ntmps27
 go_wp2_with fail
 have HB0 := hidn (below1 w (.cells (tQ 0 0 0 0 0 0 0 0 0 0) 58))
 have hz0 := heap_alloc_new w (.cells (tQ 0 0 0 0 0 0 0 0 0 0) 58)
 have hs0 : w.heap.size + 1 ≤ (w.alloc (.cells (tQ 0 0 0 0 0 0 0 0 0 0) 58)).heap.size := by rw [World.size_alloc]; omega
 obtain ⟨w0, hw0⟩ : ∃ w0, w0 = w.alloc (.cells (tQ 0 0 0 0 0 0 0 0 0 0) 58) := ⟨_, rfl⟩
 rw [← hw0] at HB0 hz0 hs0 ⊢
 clear hw0
 refine (HG.out _ HB0.out).mono ?_
 rintro e w1 ⟨hb1, h1⟩
 obtain ⟨v1, rfl, hown1⟩ := (show ∃ v, e = .returned (.tuple #[v, .int .i64 (g : Int), .int .i64 0]) ∧ w1.ownsRow w0.heap.size 5 1 v zs.length (vb zs) from h1)
 rw [HL.out] at hown1
 obtain ⟨b, cap, rfl, hcp, hcell⟩ := own_80 hown1 HL.out
 have HDe := hidn (refDecode_yes w1 b 0 cap zs HL.out HZs.out hcp hcell x0 x1 x2 x3 x4 x5 x6 x7 x8 x9 HX.out HCN.out)
 have HB1 := hidn (HB0.out.trans (hb1.mono HB0.out.size))
 have hz1 := (hb1.block w.heap.size (by omega)).trans hz0
 have hs1 : w.heap.size + 1 ≤ w1.heap.size := by have := hb1.size; omega
 clear hb1 h1 hown1 hcell hcp HG HB0 hz0 hs0
 go_wp2_with fail
 refine HDe.out.mono ?_
 clear HDe
 rintro e w2 ⟨rfl, hb2⟩
 have HB2 := hidn (HB1.out.trans (hb2.mono HB1.out.size))
 have HZ2 := hidn ((hb2.block w.heap.size (by omega)).trans hz1)
 have hs2 : w.heap.size + 1 ≤ w2.heap.size := by have := hb2.size; omega
 clear hb2 hz1 hs1
 simp only []
 go_at_K
 repeat (first
  | (with_reducible refine wpList_store_row (by rfl) 58 (.tmp 2) (.tmp 30) (by rfl) w.heap.size (tQ 0 0 0 0 0 0 0 0 0 0) (by kernel_rfl) (by kernel_rfl) 58 (tQ 0 0 0 0 0 0 0 0 0 0) ((Below.heap_alloc _ _ _ (by omega)).trans HZ2.out) (by kernel_rfl) (by kernel_rfl) (by kernel_rfl) ?_)
  | go_values | go_skip | go_guarded | go_step | go_upon)
 exact bodyPost_ret (v := .tuple #[.agg (tQ 0 0 0 0 0 0 0 0 0 0), .int .i64 170]) (results_cell_row_tmp rfl _ _ w.heap.size 58 (tQ 0 0 0 0 0 0 0 0 0 0) (0, 0) _ rfl (setRow_heap _ _ _ _ _ _ ((Below.heap_alloc _ _ _ (by omega)).trans HZ2.out)) Tryz.underlying58 rfl (by kernel_rfl) _ rfl) rfl ⟨rfl, below_setRow (HB2.out.alloc (by omega) _) (Nat.le_refl _) _⟩
set_option maxHeartbeats 2000000 in
theorem loadY_good (w : World) (y : Nat) (F : Nat → Prop) (room : Int) (st : St) (h : DiskY w y F room st) (hF : ∀ k, F k → k < w.heap.size) (zs : List Nat) (g : Nat) (hget : getP st.M ancN 0 = some (zs, g)) (hl : zs.length = 80) (hz : ∀ x ∈ zs, x < 256) (x0 x1 x2 x3 x4 x5 x6 x7 x8 x9 : Int) (hx : fieldsI zs = [x0, x1, x2, x3, x4, x5, x6, x7, x8, x9]) (hcan : ancB x0 x1 x2 x3 x4 x7 x8 x9 = true) (heq : x0 = (g : Int)) :
  Calls Tryz.prog 27 #[.pointer (some ⟨y, 0, none⟩)] w fun e w' => e = .returned (.tuple #[.agg (tQ x0 x1 x2 x3 x4 x5 x6 x7 x8 x9), .int .i64 0]) ∧ Below w.heap.size w w' := by
 have hne2 : (x0 != (g : Int)) = false := by rw [heq]; simp
 clear heq
 have HG := hidn (fun wx (hb : Below w.heap.size w wx) => getY_all wx y F room st (h.below hF hb) (fun k hk => lQ2 (hF k hk) hb.size) ancN (by decide) 0)
 rw [hget] at HG
 have HL := hidn hl
 have HZs := hidn hz
 have HX := hidn hx
 have HCN := hidn hcan
 clear h hF hget hl hz hx hcan
 go_enter Tryz.func27, Tryz.ntmps27
 go_wp2_with fail
 have HB0 := hidn (below1 w (.cells (tQ 0 0 0 0 0 0 0 0 0 0) 58))
 have hz0 := heap_alloc_new w (.cells (tQ 0 0 0 0 0 0 0 0 0 0) 58)
 have hs0 : w.heap.size + 1 ≤ (w.alloc (.cells (tQ 0 0 0 0 0 0 0 0 0 0) 58)).heap.size := by rw [World.size_alloc]; omega
 obtain ⟨w0, hw0⟩ : ∃ w0, w0 = w.alloc (.cells (tQ 0 0 0 0 0 0 0 0 0 0) 58) := ⟨_, rfl⟩
 rw [← hw0] at HB0 hz0 hs0 ⊢
 clear hw0
 refine (HG.out _ HB0.out).mono ?_
 rintro e w1 ⟨hb1, h1⟩
 obtain ⟨v1, rfl, hown1⟩ := (show ∃ v, e = .returned (.tuple #[v, .int .i64 (g : Int), .int .i64 0]) ∧ w1.ownsRow w0.heap.size 5 1 v zs.length (vb zs) from h1)
 rw [HL.out] at hown1
 obtain ⟨b, cap, rfl, hcp, hcell⟩ := own_80 hown1 HL.out
 have HDe := hidn (refDecode_yes w1 b 0 cap zs HL.out HZs.out hcp hcell x0 x1 x2 x3 x4 x5 x6 x7 x8 x9 HX.out HCN.out)
 have HB1 := hidn (HB0.out.trans (hb1.mono HB0.out.size))
 have hz1 := (hb1.block w.heap.size (by omega)).trans hz0
 have hs1 : w.heap.size + 1 ≤ w1.heap.size := by have := hb1.size; omega
 clear hb1 h1 hown1 hcell hcp HG HB0 hz0 hs0
 go_wp2_with fail
 refine HDe.out.mono ?_
 clear HDe
 rintro e w2 ⟨rfl, hb2⟩
 have HB2 := hidn (HB1.out.trans (hb2.mono HB1.out.size))
 have HZ2 := hidn ((hb2.block w.heap.size (by omega)).trans hz1)
 have hs2 : w.heap.size + 1 ≤ w2.heap.size := by have := hb2.size; omega
 clear hb2 hz1 hs1
 simp only []
 go_at_K
 repeat (first
  | (with_reducible refine wpList_store_row (by rfl) 58 (.tmp 2) (.tmp 31) (by rfl) w.heap.size (tQ x0 x1 x2 x3 x4 x5 x6 x7 x8 x9) (by kernel_rfl) (by kernel_rfl) 58 (tQ 0 0 0 0 0 0 0 0 0 0) ((Below.heap_alloc _ _ _ (by omega)).trans HZ2.out) (by kernel_rfl) (by kernel_rfl) (by kernel_rfl) ?_)
  | go_values | go_skip | go_guarded | go_step | go_upon)
 exact bodyPost_ret (v := .tuple #[.agg (tQ x0 x1 x2 x3 x4 x5 x6 x7 x8 x9), .int .i64 0]) (results_cell_row_tmp rfl _ _ w.heap.size 58 (tQ x0 x1 x2 x3 x4 x5 x6 x7 x8 x9) (0, 0) _ rfl (setRow_heap _ _ _ _ _ _ ((Below.heap_alloc _ _ _ (by omega)).trans HZ2.out)) Tryz.underlying58 rfl (by kernel_rfl) _ rfl) rfl ⟨rfl, below_setRow (HB2.out.alloc (by omega) _) (Nat.le_refl _) _⟩
set_option maxHeartbeats 2000000 in
theorem load_none (w : World) (d : Nat) (F : Nat → Prop) (N : Nat) (M : List UInt8 → List Ext) (free fuse : Int) (h : DiskOf w d F N M free fuse) (hT : CrcTab w) (hM0 : M [] = []) (hget : getP M ancN 0 = none) :
  Calls Tryz.prog 26 #[.pointer (some ⟨d, 0, none⟩)] w fun e w' => e = .returned (.tuple #[.agg (tQ 0 0 0 0 0 0 0 0 0 0), .int .i64 170]) ∧ Below w.heap.size w w' := by
 have HD := hidn h
 have HG := hidn (fun wx (hb : Below w.heap.size w wx) => get_all wx d F N M free fuse (HD.out.below hb) (hT.below hb) hM0 ancN (by decide) 0)
 rw [hget] at HG
 clear h hT hget
 go_enter Tryz.func26, Tryz.ntmps26
 go_wp2_with fail
 refine (ancMade _ d F N M free fuse (HD.out.below (below1 _ _)) hM0).mono ?_
 rintro e w0 ⟨rfl, hb0⟩
 have HB0 := hidn ((below1 w _).trans (hb0.mono (below1 w _).size))
 have hz0 := (hb0.block w.heap.size (by rw [World.size_alloc]; omega)).trans (heap_alloc_new w _)
 have hs0 : w.heap.size + 1 ≤ w0.heap.size := by have := hb0.size; rw [World.size_alloc] at this; exact this
 clear hb0
 go_wp2_with fail
 refine (HG.out _ HB0.out).mono ?_
 rintro e w1 ⟨hb1, h1⟩
 obtain rfl := (show e = .returned (.tuple #[.slice none 0 0, .int .i64 0, .int .i64 50]) from h1)
 have HB1 := hidn (HB0.out.trans (hb1.mono HB0.out.size))
 have HZ1 := hidn ((hb1.block w.heap.size (by omega)).trans hz0)
 clear hb1 h1 HG HB0 hz0
 simp only []
 go_at_K
 repeat (first
  | (with_reducible refine wpList_store_row (by rfl) 58 (.tmp 2) (.tmp 20) (by rfl) w.heap.size (tQ 0 0 0 0 0 0 0 0 0 0) (by kernel_rfl) (by kernel_rfl) 58 (tQ 0 0 0 0 0 0 0 0 0 0) HZ1.out (by kernel_rfl) (by kernel_rfl) (by kernel_rfl) ?_)
  | go_values | go_skip | go_guarded | go_step | go_upon)
 exact bodyPost_ret (v := .tuple #[.agg (tQ 0 0 0 0 0 0 0 0 0 0), .int .i64 170]) (results_cell_row_tmp rfl _ _ w.heap.size 58 (tQ 0 0 0 0 0 0 0 0 0 0) (0, 0) _ rfl (setRow_heap _ _ _ _ _ _ HZ1.out) Tryz.underlying58 rfl (by kernel_rfl) _ rfl) rfl ⟨rfl, below_setRow HB1.out (Nat.le_refl _) _⟩
set_option maxHeartbeats 2000000 in
theorem load_len (w : World) (d : Nat) (F : Nat → Prop) (N : Nat) (M : List UInt8 → List Ext) (free fuse : Int) (h : DiskOf w d F N M free fuse) (hT : CrcTab w) (hM0 : M [] = []) (zs : List Nat) (g : Nat) (hget : getP M ancN 0 = some (zs, g)) (hl : zs.length ≠ 80) (hl2 : zs.length ≤ 106) :
  Calls Tryz.prog 26 #[.pointer (some ⟨d, 0, none⟩)] w fun e w' => e = .returned (.tuple #[.agg (tQ 0 0 0 0 0 0 0 0 0 0), .int .i64 170]) ∧ Below w.heap.size w w' := by
 have HD := hidn h
 have HG := hidn (fun wx (hb : Below w.heap.size w wx) => get_all wx d F N M free fuse (HD.out.below hb) (hT.below hb) hM0 ancN (by decide) 0)
 rw [hget] at HG
 have HL := hidn hl
 have HL2 := hidn hl2
 clear h hT hget hl hl2
 go_enter Tryz.func26, Tryz.ntmps26
 go_wp2_with fail
 refine (ancMade _ d F N M free fuse (HD.out.below (below1 _ _)) hM0).mono ?_
 rintro e w0 ⟨rfl, hb0⟩
 have HB0 := hidn ((below1 w _).trans (hb0.mono (below1 w _).size))
 have hz0 := (hb0.block w.heap.size (by rw [World.size_alloc]; omega)).trans (heap_alloc_new w _)
 have hs0 : w.heap.size + 1 ≤ w0.heap.size := by have := hb0.size; rw [World.size_alloc] at this; exact this
 clear hb0
 go_wp2_with fail
 refine (HG.out _ HB0.out).mono ?_
 rintro e w1 ⟨hb1, h1⟩
 obtain ⟨v1, rfl, hown1⟩ := (show ∃ v, e = .returned (.tuple #[v, .int .i64 (g : Int), .int .i64 0]) ∧ w1.ownsRow w0.heap.size 5 1 v zs.length (vb zs) from h1)
 obtain ⟨va, vc, rfl⟩ := own_sliceG hown1
 have HDe := hidn (decode_len w1 va zs.length vc HL.out (by have := HL2.out; unfold maxLen; omega))
 have HB1 := hidn (HB0.out.trans (hb1.mono HB0.out.size))
 have hz1 := (hb1.block w.heap.size (by omega)).trans hz0
 have hs1 : w.heap.size + 1 ≤ w1.heap.size := by have := hb1.size; omega
 clear hb1 h1 hown1 HG HB0 hz0 hs0
 go_wp2_with fail
 refine HDe.out.mono ?_
 clear HDe
 rintro e w2 ⟨rfl, hb2⟩
 have HB2 := hidn (HB1.out.trans (hb2.mono HB1.out.size))
 have HZ2 := hidn ((hb2.block w.heap.size (by omega)).trans hz1)
 have hs2 : w.heap.size + 1 ≤ w2.heap.size := by have := hb2.size; omega
 clear hb2 hz1 hs1
 simp only []
 go_at_K
 repeat (first
  | (with_reducible refine wpList_store_row (by rfl) 58 (.tmp 2) (.tmp 34) (by rfl) w.heap.size (tQ 0 0 0 0 0 0 0 0 0 0) (by kernel_rfl) (by kernel_rfl) 58 (tQ 0 0 0 0 0 0 0 0 0 0) ((Below.heap_alloc _ _ _ (by omega)).trans HZ2.out) (by kernel_rfl) (by kernel_rfl) (by kernel_rfl) ?_)
  | go_values | go_skip | go_guarded | go_step | go_upon)
 exact bodyPost_ret (v := .tuple #[.agg (tQ 0 0 0 0 0 0 0 0 0 0), .int .i64 170]) (results_cell_row_tmp rfl _ _ w.heap.size 58 (tQ 0 0 0 0 0 0 0 0 0 0) (0, 0) _ rfl (setRow_heap _ _ _ _ _ _ ((Below.heap_alloc _ _ _ (by omega)).trans HZ2.out)) Tryz.underlying58 rfl (by kernel_rfl) _ rfl) rfl ⟨rfl, below_setRow (HB2.out.alloc (by omega) _) (Nat.le_refl _) _⟩
set_option maxHeartbeats 2000000 in
theorem load_can (w : World) (d : Nat) (F : Nat → Prop) (N : Nat) (M : List UInt8 → List Ext) (free fuse : Int) (h : DiskOf w d F N M free fuse) (hT : CrcTab w) (hM0 : M [] = []) (zs : List Nat) (g : Nat) (hget : getP M ancN 0 = some (zs, g)) (hl : zs.length = 80) (hz : ∀ x ∈ zs, x < 256) (x0 x1 x2 x3 x4 x5 x6 x7 x8 x9 : Int) (hx : fieldsI zs = [x0, x1, x2, x3, x4, x5, x6, x7, x8, x9]) (hcan : ancB x0 x1 x2 x3 x4 x7 x8 x9 = false) :
  Calls Tryz.prog 26 #[.pointer (some ⟨d, 0, none⟩)] w fun e w' => e = .returned (.tuple #[.agg (tQ 0 0 0 0 0 0 0 0 0 0), .int .i64 170]) ∧ Below w.heap.size w w' := by
 have HD := hidn h
 have HG := hidn (fun wx (hb : Below w.heap.size w wx) => get_all wx d F N M free fuse (HD.out.below hb) (hT.below hb) hM0 ancN (by decide) 0)
 rw [hget] at HG
 have HL := hidn hl
 have HZs := hidn hz
 have HX := hidn hx
 have HCN := hidn hcan
 clear h hT hget hl hz hx hcan
 go_enter Tryz.func26, Tryz.ntmps26
 go_wp2_with fail
 refine (ancMade _ d F N M free fuse (HD.out.below (below1 _ _)) hM0).mono ?_
 rintro e w0 ⟨rfl, hb0⟩
 have HB0 := hidn ((below1 w _).trans (hb0.mono (below1 w _).size))
 have hz0 := (hb0.block w.heap.size (by rw [World.size_alloc]; omega)).trans (heap_alloc_new w _)
 have hs0 : w.heap.size + 1 ≤ w0.heap.size := by have := hb0.size; rw [World.size_alloc] at this; exact this
 clear hb0
 go_wp2_with fail
 refine (HG.out _ HB0.out).mono ?_
 rintro e w1 ⟨hb1, h1⟩
 obtain ⟨v1, rfl, hown1⟩ := (show ∃ v, e = .returned (.tuple #[v, .int .i64 (g : Int), .int .i64 0]) ∧ w1.ownsRow w0.heap.size 5 1 v zs.length (vb zs) from h1)
 rw [HL.out] at hown1
 obtain ⟨b, cap, rfl, hcp, hcell⟩ := own_80 hown1 HL.out
 have HDe := hidn (decode_no w1 b 0 cap zs HL.out HZs.out hcp hcell x0 x1 x2 x3 x4 x5 x6 x7 x8 x9 HX.out HCN.out)
 have HB1 := hidn (HB0.out.trans (hb1.mono HB0.out.size))
 have hz1 := (hb1.block w.heap.size (by omega)).trans hz0
 have hs1 : w.heap.size + 1 ≤ w1.heap.size := by have := hb1.size; omega
 clear hb1 h1 hown1 hcell hcp HG HB0 hz0 hs0
 go_wp2_with fail
 refine HDe.out.mono ?_
 clear HDe
 rintro e w2 ⟨rfl, hb2⟩
 have HB2 := hidn (HB1.out.trans (hb2.mono HB1.out.size))
 have HZ2 := hidn ((hb2.block w.heap.size (by omega)).trans hz1)
 have hs2 : w.heap.size + 1 ≤ w2.heap.size := by have := hb2.size; omega
 clear hb2 hz1 hs1
 simp only []
 go_at_K
 repeat (first
  | (with_reducible refine wpList_store_row (by rfl) 58 (.tmp 2) (.tmp 34) (by rfl) w.heap.size (tQ 0 0 0 0 0 0 0 0 0 0) (by kernel_rfl) (by kernel_rfl) 58 (tQ 0 0 0 0 0 0 0 0 0 0) ((Below.heap_alloc _ _ _ (by omega)).trans HZ2.out) (by kernel_rfl) (by kernel_rfl) (by kernel_rfl) ?_)
  | go_values | go_skip | go_guarded | go_step | go_upon)
 exact bodyPost_ret (v := .tuple #[.agg (tQ 0 0 0 0 0 0 0 0 0 0), .int .i64 170]) (results_cell_row_tmp rfl _ _ w.heap.size 58 (tQ 0 0 0 0 0 0 0 0 0 0) (0, 0) _ rfl (setRow_heap _ _ _ _ _ _ ((Below.heap_alloc _ _ _ (by omega)).trans HZ2.out)) Tryz.underlying58 rfl (by kernel_rfl) _ rfl) rfl ⟨rfl, below_setRow (HB2.out.alloc (by omega) _) (Nat.le_refl _) _⟩
set_option maxHeartbeats 2000000 in
theorem load_seq (w : World) (d : Nat) (F : Nat → Prop) (N : Nat) (M : List UInt8 → List Ext) (free fuse : Int) (h : DiskOf w d F N M free fuse) (hT : CrcTab w) (hM0 : M [] = []) (zs : List Nat) (g : Nat) (hget : getP M ancN 0 = some (zs, g)) (hl : zs.length = 80) (hz : ∀ x ∈ zs, x < 256) (x0 x1 x2 x3 x4 x5 x6 x7 x8 x9 : Int) (hx : fieldsI zs = [x0, x1, x2, x3, x4, x5, x6, x7, x8, x9]) (hcan : ancB x0 x1 x2 x3 x4 x7 x8 x9 = true) (hne : x0 ≠ (g : Int)) :
  Calls Tryz.prog 26 #[.pointer (some ⟨d, 0, none⟩)] w fun e w' => e = .returned (.tuple #[.agg (tQ 0 0 0 0 0 0 0 0 0 0), .int .i64 170]) ∧ Below w.heap.size w w' := by
 have hne2 : (x0 != (g : Int)) = true := bne_iff_ne.2 hne
 clear hne
 have HD := hidn h
 have HG := hidn (fun wx (hb : Below w.heap.size w wx) => get_all wx d F N M free fuse (HD.out.below hb) (hT.below hb) hM0 ancN (by decide) 0)
 rw [hget] at HG
 have HL := hidn hl
 have HZs := hidn hz
 have HX := hidn hx
 have HCN := hidn hcan
 clear h hT hget hl hz hx hcan
 go_enter Tryz.func26, Tryz.ntmps26
 go_wp2_with fail
 refine (ancMade _ d F N M free fuse (HD.out.below (below1 _ _)) hM0).mono ?_
 rintro e w0 ⟨rfl, hb0⟩
 have HB0 := hidn ((below1 w _).trans (hb0.mono (below1 w _).size))
 have hz0 := (hb0.block w.heap.size (by rw [World.size_alloc]; omega)).trans (heap_alloc_new w _)
 have hs0 : w.heap.size + 1 ≤ w0.heap.size := by have := hb0.size; rw [World.size_alloc] at this; exact this
 clear hb0
 go_wp2_with fail
 refine (HG.out _ HB0.out).mono ?_
 rintro e w1 ⟨hb1, h1⟩
 obtain ⟨v1, rfl, hown1⟩ := (show ∃ v, e = .returned (.tuple #[v, .int .i64 (g : Int), .int .i64 0]) ∧ w1.ownsRow w0.heap.size 5 1 v zs.length (vb zs) from h1)
 rw [HL.out] at hown1
 obtain ⟨b, cap, rfl, hcp, hcell⟩ := own_80 hown1 HL.out
 have HDe := hidn (decode_yes w1 b 0 cap zs HL.out HZs.out hcp hcell x0 x1 x2 x3 x4 x5 x6 x7 x8 x9 HX.out HCN.out)
 have HB1 := hidn (HB0.out.trans (hb1.mono HB0.out.size))
 have hz1 := (hb1.block w.heap.size (by omega)).trans hz0
 have hs1 : w.heap.size + 1 ≤ w1.heap.size := by have := hb1.size; omega
 clear hb1 h1 hown1 hcell hcp HG HB0 hz0 hs0
 go_wp2_with fail
 refine HDe.out.mono ?_
 clear HDe
 rintro e w2 ⟨rfl, hb2⟩
 have HB2 := hidn (HB1.out.trans (hb2.mono HB1.out.size))
 have HZ2 := hidn ((hb2.block w.heap.size (by omega)).trans hz1)
 have hs2 : w.heap.size + 1 ≤ w2.heap.size := by have := hb2.size; omega
 clear hb2 hz1 hs1
 simp only []
 go_at_K
 repeat (first
  | (with_reducible refine wpList_store_row (by rfl) 58 (.tmp 2) (.tmp 34) (by rfl) w.heap.size (tQ 0 0 0 0 0 0 0 0 0 0) (by kernel_rfl) (by kernel_rfl) 58 (tQ 0 0 0 0 0 0 0 0 0 0) ((Below.heap_alloc _ _ _ (by omega)).trans HZ2.out) (by kernel_rfl) (by kernel_rfl) (by kernel_rfl) ?_)
  | go_values | go_skip | go_guarded | go_step | go_upon)
 exact bodyPost_ret (v := .tuple #[.agg (tQ 0 0 0 0 0 0 0 0 0 0), .int .i64 170]) (results_cell_row_tmp rfl _ _ w.heap.size 58 (tQ 0 0 0 0 0 0 0 0 0 0) (0, 0) _ rfl (setRow_heap _ _ _ _ _ _ ((Below.heap_alloc _ _ _ (by omega)).trans HZ2.out)) Tryz.underlying58 rfl (by kernel_rfl) _ rfl) rfl ⟨rfl, below_setRow (HB2.out.alloc (by omega) _) (Nat.le_refl _) _⟩
set_option maxHeartbeats 2000000 in
theorem load_good (w : World) (d : Nat) (F : Nat → Prop) (N : Nat) (M : List UInt8 → List Ext) (free fuse : Int) (h : DiskOf w d F N M free fuse) (hT : CrcTab w) (hM0 : M [] = []) (zs : List Nat) (g : Nat) (hget : getP M ancN 0 = some (zs, g)) (hl : zs.length = 80) (hz : ∀ x ∈ zs, x < 256) (x0 x1 x2 x3 x4 x5 x6 x7 x8 x9 : Int) (hx : fieldsI zs = [x0, x1, x2, x3, x4, x5, x6, x7, x8, x9]) (hcan : ancB x0 x1 x2 x3 x4 x7 x8 x9 = true) (heq : x0 = (g : Int)) :
  Calls Tryz.prog 26 #[.pointer (some ⟨d, 0, none⟩)] w fun e w' => e = .returned (.tuple #[.agg (tQ x0 x1 x2 x3 x4 x5 x6 x7 x8 x9), .int .i64 0]) ∧ Below w.heap.size w w' := by
 have hne2 : (x0 != (g : Int)) = false := by rw [heq]; simp
 clear heq
 have HD := hidn h
 have HG := hidn (fun wx (hb : Below w.heap.size w wx) => get_all wx d F N M free fuse (HD.out.below hb) (hT.below hb) hM0 ancN (by decide) 0)
 rw [hget] at HG
 have HL := hidn hl
 have HZs := hidn hz
 have HX := hidn hx
 have HCN := hidn hcan
 clear h hT hget hl hz hx hcan
 go_enter Tryz.func26, Tryz.ntmps26
 go_wp2_with fail
 refine (ancMade _ d F N M free fuse (HD.out.below (below1 _ _)) hM0).mono ?_
 rintro e w0 ⟨rfl, hb0⟩
 have HB0 := hidn ((below1 w _).trans (hb0.mono (below1 w _).size))
 have hz0 := (hb0.block w.heap.size (by rw [World.size_alloc]; omega)).trans (heap_alloc_new w _)
 have hs0 : w.heap.size + 1 ≤ w0.heap.size := by have := hb0.size; rw [World.size_alloc] at this; exact this
 clear hb0
 go_wp2_with fail
 refine (HG.out _ HB0.out).mono ?_
 rintro e w1 ⟨hb1, h1⟩
 obtain ⟨v1, rfl, hown1⟩ := (show ∃ v, e = .returned (.tuple #[v, .int .i64 (g : Int), .int .i64 0]) ∧ w1.ownsRow w0.heap.size 5 1 v zs.length (vb zs) from h1)
 rw [HL.out] at hown1
 obtain ⟨b, cap, rfl, hcp, hcell⟩ := own_80 hown1 HL.out
 have HDe := hidn (decode_yes w1 b 0 cap zs HL.out HZs.out hcp hcell x0 x1 x2 x3 x4 x5 x6 x7 x8 x9 HX.out HCN.out)
 have HB1 := hidn (HB0.out.trans (hb1.mono HB0.out.size))
 have hz1 := (hb1.block w.heap.size (by omega)).trans hz0
 have hs1 : w.heap.size + 1 ≤ w1.heap.size := by have := hb1.size; omega
 clear hb1 h1 hown1 hcell hcp HG HB0 hz0 hs0
 go_wp2_with fail
 refine HDe.out.mono ?_
 clear HDe
 rintro e w2 ⟨rfl, hb2⟩
 have HB2 := hidn (HB1.out.trans (hb2.mono HB1.out.size))
 have HZ2 := hidn ((hb2.block w.heap.size (by omega)).trans hz1)
 have hs2 : w.heap.size + 1 ≤ w2.heap.size := by have := hb2.size; omega
 clear hb2 hz1 hs1
 simp only []
 go_at_K
 repeat (first
  | (with_reducible refine wpList_store_row (by rfl) 58 (.tmp 2) (.tmp 35) (by rfl) w.heap.size (tQ x0 x1 x2 x3 x4 x5 x6 x7 x8 x9) (by kernel_rfl) (by kernel_rfl) 58 (tQ 0 0 0 0 0 0 0 0 0 0) ((Below.heap_alloc _ _ _ (by omega)).trans HZ2.out) (by kernel_rfl) (by kernel_rfl) (by kernel_rfl) ?_)
  | go_values | go_skip | go_guarded | go_step | go_upon)
 exact bodyPost_ret (v := .tuple #[.agg (tQ x0 x1 x2 x3 x4 x5 x6 x7 x8 x9), .int .i64 0]) (results_cell_row_tmp rfl _ _ w.heap.size 58 (tQ x0 x1 x2 x3 x4 x5 x6 x7 x8 x9) (0, 0) _ rfl (setRow_heap _ _ _ _ _ _ ((Below.heap_alloc _ _ _ (by omega)).trans HZ2.out)) Tryz.underlying58 rfl (by kernel_rfl) _ rfl) rfl ⟨rfl, below_setRow (HB2.out.alloc (by omega) _) (Nat.le_refl _) _⟩
end Go.Proofs.YtdppolelakbbiaaGreatDoor
