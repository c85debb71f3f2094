/- merge: the heap's pop at any size. -/
import Derived.Test.YtccjgciknaooaaaHhD
namespace Go.Proofs.Ytccjgciknaooaaa
open Go.RowKit Go.Joins
set_option linter.unusedVariables false

theorem rvs_take (R : List Run) (k : Nat) : (rvs R).take (k * 3) = rvs (R.take k) := by
  induction R generalizing k with
  | nil => simp [rvs]
  | cons y t ih =>
    cases k with
    | zero => simp [rvs]
    | succ k =>
      have e0 : ∀ (z : Run) (s : List Run), rvs (z :: s) = .slice z.a z.len z.cap :: .int .i64 z.rank :: .int .i64 z.place :: rvs s := fun _ _ => rfl
      rw [List.take_succ_cons, e0, e0, ← ih k, show (k + 1) * 3 = k * 3 + 1 + 1 + 1 from by omega]
      rfl

/-- What pop leaves at any size: the first is told, the others are a heap. -/
def PopQ (T : Run → Int) (B : Nat) (W : World) (h : Nat) (r : Run) (rs : List Run) (g c : Nat) (e : Ending) (W' : World) : Prop :=
  e = .returned (.agg #[.slice r.a r.len r.cap, .int .i64 r.rank, .int .i64 r.place]) ∧ ∃ rs' : List Run, (r :: rs').Perm rs ∧ Heap T rs' ∧ HpI B W' h (.slice (some ⟨g, 0, none⟩) rs'.length c) rs' ∧ Below B W W' ∧ ∀ k, k < W.heap.size → k ≠ h → k ≠ g → W'.heap[k]? = W.heap[k]?

set_option maxHeartbeats 8000000 in
set_option maxRecDepth 100000 in
theorem pop_any (T : Run → Int) (B h g c m : Nat) (rs : List Run) (w : World) (hn : rs.length = m + 1) (hm9 : m ≤ 900) (hx : HpI B w h (.slice (some ⟨g, 0, none⟩) (m + 1) c) rs) (hB : B ≤ w.heap.size) (hX : Heap T rs) (hR : RunsAt T B w rs) :
    Calls Try.prog 32 #[.pointer (some ⟨h, 0, none⟩)] w (PopQ T B w h (rn rs 0) rs g c) := by
  obtain ⟨hh, ho, hBh⟩ := hx
  rw [hn] at ho
  have hr0 := rn_get (rs := rs) (i := 0) (by omega)
  have HTP := hidn (take_perm hn)
  have HXL := hidn (heap_less hX hn)
  have HLEN := hidn hn
  obtain ⟨ra, hra⟩ : ∃ ra, ra = rn rs 0 := ⟨_, rfl⟩
  rw [← hra] at hr0 HTP ⊢
  clear hra hX
  obtain ⟨a0, l0, c0, k0, p0⟩ := ra
  obtain ⟨hBg, hnc, _⟩ := own_blk ho
  have hc2 : w.cell? ⟨h, 0, none⟩ = some (.slice (some ⟨g, 0, none⟩) (m + 1) c) := cell_of_row w h 0 _ _ _ hh
  obtain ⟨e0, e1, e2, _⟩ := own_rn ho hr0
  simp only [Nat.zero_mul, Nat.zero_add] at e0 e1 e2
  obtain ⟨w1, hw1⟩ : ∃ w1, w1 = w.alloc (.cells #[.slice none 0 0, .int .i64 0, .int .i64 0] 70) := ⟨_, rfl⟩
  have b1 : Below w.heap.size w w1 := by rw [hw1]; exact (Below.refl _ w).alloc (Nat.le_refl _) _
  have s1 : w1.heap.size = w.heap.size + 1 := by rw [hw1]; simp
  have qR : w1.heap[w.heap.size]? = some (.cells #[.slice none 0 0, .int .i64 0, .int .i64 0] 70 (0, 0)) := by rw [hw1]; exact heap_alloc_new w _
  have HRD : Hid (∀ w', Below w.heap.size w w' → w'.cell? ⟨h, 0, none⟩ = some (.slice (some ⟨g, 0, none⟩) (m + 1) c) ∧ w'.cell? ⟨g, 0, none⟩ = some (.slice a0 l0 c0) ∧ w'.cell? ⟨g, 1, none⟩ = some (.int .i64 k0) ∧ w'.cell? ⟨g, 2, none⟩ = some (.int .i64 p0)) := hidn (fun w' hb => ⟨(hb.cell (block_lt_of_cell hc2)).trans hc2, (hb.cell (block_lt_of_cell e0)).trans e0, (hb.cell (block_lt_of_cell e1)).trans e1, (hb.cell (block_lt_of_cell e2)).trans e2⟩)
  have HH := hidn hh
  have HO := hidn ho
  have nw1 : IntKind.i64.wrap 1 = 1 := by decide
  have nw0 : IntKind.i64.wrap 0 = 0 := by decide
  have HWM : Hid (IntKind.i64.wrap (m : Int) = (m : Int)) := hidn (by unfold IntKind.wrap IntKind.bits IntKind.signed; simp; omega)
  have HW1 := hidn hw1
  have HB1 := hidn b1
  clear hh ho hw1 hc2 e0 e1 e2 hr0 hn
  go_enter Try.func32, Try.ntmps32
  go_wp2_with fail
  rw [← HW1.out]
  refine wp_region_noPanic ?_
  refine wp_region_held_drew (S := fun w' => Below w.heap.size w w') (by kernel_rfl) (b1.trans ((Below.refl _ w1).drew)) (fun hHeld => ?_)
  refine drawn_take (i := 0) (v := .pointer (some ⟨h, 0, none⟩)) (some 5) rfl rfl (by kernel_rfl) (by kernel_rfl) (by kernel_rfl) (fun _ _ _ h => h) (Or.inl ⟨by kernel_rfl, fun wq hw => by go_simp⟩) hHeld ?_
  simp only [Act.put, List.setIfInBounds_toArray, List.set_cons_succ, List.set_cons_zero]
  refine drawn_take (i := 1) (v := .pointer (some ⟨h, 0, none⟩)) (some 6) rfl rfl (by kernel_rfl) (by kernel_rfl) (by kernel_rfl) (fun _ _ _ h => h) (Or.inl ⟨by kernel_rfl, fun wq hw => by go_simp⟩) hHeld ?_
  simp only [Act.put, List.setIfInBounds_toArray, List.set_cons_succ, List.set_cons_zero]
  refine drawn_take (i := 2) (v := .pointer (some ⟨h, 0, none⟩)) (some 7) rfl rfl (by kernel_rfl) (by kernel_rfl) (by kernel_rfl) (fun _ _ _ h => h) (Or.inl ⟨by kernel_rfl, fun wq hw => by go_simp⟩) hHeld ?_
  simp only [Act.put, List.setIfInBounds_toArray, List.set_cons_succ, List.set_cons_zero]
  refine drawn_take (i := 3) (v := .slice (some ⟨g, 0, none⟩) (m + 1) c) (some 8) rfl rfl (by kernel_rfl) (by kernel_rfl) (by kernel_rfl) (fun _ _ _ h => h) (Or.inl ⟨by kernel_rfl, fun wq hw => by have q9 := (HRD.out _ hw).1; go_simp⟩) hHeld ?_
  simp only [Act.put, List.setIfInBounds_toArray, List.set_cons_succ, List.set_cons_zero]
  refine drawn_take (i := 4) (v := .pointer (some ⟨g, 0, none⟩)) (some 9) rfl rfl (by kernel_rfl) (by kernel_rfl) (by kernel_rfl) (fun _ _ _ h => h) (Or.inl ⟨by kernel_rfl, fun wq hw => by go_simp⟩) hHeld ?_
  simp only [Act.put, List.setIfInBounds_toArray, List.set_cons_succ, List.set_cons_zero]
  refine drawn_take (i := 5) (v := .agg #[.slice a0 l0 c0, .int .i64 k0, .int .i64 p0]) (some 10) rfl rfl (by kernel_rfl) (by kernel_rfl) (by kernel_rfl) (fun _ _ _ h => h) (Or.inl ⟨by kernel_rfl, fun wq hw => by obtain ⟨_, q7, q8, q9⟩ := HRD.out _ hw; go_simp⟩) hHeld ?_
  simp only [Act.put, List.setIfInBounds_toArray, List.set_cons_succ, List.set_cons_zero]
  refine drawn_take (i := 6) (v := .pointer (some ⟨h, 0, none⟩)) (some 11) rfl rfl (by kernel_rfl) (by kernel_rfl) (by kernel_rfl) (fun _ _ _ h => h) (Or.inl ⟨by kernel_rfl, fun wq hw => by go_simp⟩) hHeld ?_
  simp only [Act.put, List.setIfInBounds_toArray, List.set_cons_succ, List.set_cons_zero]
  refine drawn_take (i := 7) (v := .pointer (some ⟨h, 0, none⟩)) (some 12) rfl rfl (by kernel_rfl) (by kernel_rfl) (by kernel_rfl) (fun _ _ _ h => h) (Or.inl ⟨by kernel_rfl, fun wq hw => by go_simp⟩) hHeld ?_
  simp only [Act.put, List.setIfInBounds_toArray, List.set_cons_succ, List.set_cons_zero]
  refine drawn_take (i := 8) (v := .pointer (some ⟨h, 0, none⟩)) (some 13) rfl rfl (by kernel_rfl) (by kernel_rfl) (by kernel_rfl) (fun _ _ _ h => h) (Or.inl ⟨by kernel_rfl, fun wq hw => by go_simp⟩) hHeld ?_
  simp only [Act.put, List.setIfInBounds_toArray, List.set_cons_succ, List.set_cons_zero]
  refine drawn_take (i := 9) (v := .slice (some ⟨g, 0, none⟩) (m + 1) c) (some 14) rfl rfl (by kernel_rfl) (by kernel_rfl) (by kernel_rfl) (fun _ _ _ h => h) (Or.inl ⟨by kernel_rfl, fun wq hw => by have q9 := (HRD.out _ hw).1; go_simp⟩) hHeld ?_
  simp only [Act.put, List.setIfInBounds_toArray, List.set_cons_succ, List.set_cons_zero]
  refine drawn_take (i := 10) (v := .int .i64 ((m : Int) + 1)) (some 15) rfl rfl (by kernel_rfl) (by kernel_rfl) (by kernel_rfl) (fun _ _ _ h => h) (Or.inl ⟨by kernel_rfl, fun wq hw => by go_simp⟩) hHeld ?_
  simp only [Act.put, List.setIfInBounds_toArray, List.set_cons_succ, List.set_cons_zero]
  refine drawn_take (i := 11) (v := .int .i64 (m : Int)) (some 16) rfl rfl (by kernel_rfl) (by kernel_rfl) (by kernel_rfl) (fun _ _ _ h => h) (Or.inl ⟨by kernel_rfl, fun wq hw => by go_simp; exact HWM.out⟩) hHeld ?_
  simp only [Act.put, List.setIfInBounds_toArray, List.set_cons_succ, List.set_cons_zero]
  obtain ⟨w2, hw2⟩ : ∃ w2, w2 = w1.drew.alloc (.cells #[.slice none 0 0, .int .i64 0, .int .i64 0] 70) := ⟨_, rfl⟩
  have b2 : Below w.heap.size w w2 := by rw [hw2]; exact b1.trans (((Below.refl _ w1).drew).alloc (by show w.heap.size ≤ w1.heap.size; omega) _)
  have qT : w2.heap[w.heap.size + 1]? = some (.cells #[.slice none 0 0, .int .i64 0, .int .i64 0] 70 (0, 0)) := by rw [hw2, ← s1]; exact heap_alloc_new w1.drew _
  have qR2 : w2.heap[w.heap.size]? = some (.cells #[.slice none 0 0, .int .i64 0, .int .i64 0] 70 (0, 0)) := by rw [hw2]; exact (((Below.refl w1.heap.size w1).drew.alloc (Nat.le_refl _) _).block _ (by omega)).trans qR
  refine wpAnyH_ready (rs := [12]) (by kernel_rfl) (by simp) ?_
  refine rdy_val (i := 12) rfl rfl (some 3) rfl (.pointer (some ⟨w.heap.size + 1, 0, none⟩)) (w2) (by rw [hw2, ← s1]; go_simp) (b2) (fun hHeld => ?_) rdy_nil
  simp only [Act.put, List.setIfInBounds_toArray, List.set_cons_succ, List.set_cons_zero]
  have t0 : w2.cell? ⟨w.heap.size + 1, 0, none⟩ = some (.slice none 0 0) := cell_of_row _ _ _ _ _ _ qT
  have t1 : w2.cell? ⟨w.heap.size + 1, 1, none⟩ = some (.int .i64 0) := cell_of_row _ _ _ _ _ _ qT
  have t2 : w2.cell? ⟨w.heap.size + 1, 2, none⟩ = some (.int .i64 0) := cell_of_row _ _ _ _ _ _ qT
  have u0 := unfrozen_of_block qT 0
  have u1 := unfrozen_of_block qT 1
  have u2 := unfrozen_of_block qT 2
  obtain ⟨w3, hw3⟩ : ∃ w3, w3 = ((w2.setCell ⟨w.heap.size + 1, 0, none⟩ (.slice a0 l0 c0)).setCell ⟨w.heap.size + 1, 1, none⟩ (.int .i64 k0)).setCell ⟨w.heap.size + 1, 2, none⟩ (.int .i64 p0) := ⟨_, rfl⟩
  have b3 : Below w.heap.size w w3 := by rw [hw3]; exact ((b2.setCell (p := ⟨w.heap.size + 1, 0, none⟩) (Nat.le_succ _) _).setCell (p := ⟨w.heap.size + 1, 1, none⟩) (Nat.le_succ _) _).setCell (p := ⟨w.heap.size + 1, 2, none⟩) (Nat.le_succ _) _
  have qT3 : w3.heap[w.heap.size + 1]? = some (.cells #[.slice a0 l0 c0, .int .i64 k0, .int .i64 p0] 70 (0, 0)) := by
    rw [hw3]
    exact block_setCell (block_setCell (block_setCell qT (.slice a0 l0 c0)) (.int .i64 k0)) (.int .i64 p0)
  have qR3 : w3.heap[w.heap.size]? = some (.cells #[.slice none 0 0, .int .i64 0, .int .i64 0] 70 (0, 0)) := by
    rw [hw3, Below.heap_setCell _ ⟨w.heap.size + 1, 2, none⟩ _ _ (by show w.heap.size ≠ w.heap.size + 1; omega), Below.heap_setCell _ ⟨w.heap.size + 1, 1, none⟩ _ _ (by show w.heap.size ≠ w.heap.size + 1; omega), Below.heap_setCell _ ⟨w.heap.size + 1, 0, none⟩ _ _ (by show w.heap.size ≠ w.heap.size + 1; omega)]
    exact qR2
  refine wpAnyH_ready (rs := [13]) (by kernel_rfl) (by simp) ?_
  refine rdy_unit (i := 13) rfl rfl none rfl (w3) (by rw [hw3]; go_simp) (b3) (fun hHeld => ?_) rdy_nil
  simp only [Act.put]
  refine drawn_take (i := 14) (v := .int .i64 (m : Int)) (some 4) rfl rfl (by kernel_rfl) (by kernel_rfl) (by kernel_rfl) (fun _ _ _ h => h) (Or.inl ⟨by kernel_rfl, fun wq hw => by go_simp⟩) hHeld ?_
  simp only [Act.put, List.setIfInBounds_toArray, List.set_cons_succ, List.set_cons_zero]
  refine wpAnyH_done (by kernel_rfl) ?_ _
  refine NoPanic.normal ?_
  clear hHeld
  have HSW := hidn (swap_any B h g (m + 1) c 0 m rs w3 ((b3.block h (Array.getElem?_eq_some_iff.1 HH.out).1).trans HH.out) (own_skip HO.out b3) HLEN.out (by omega) (by omega))
  have HB3 := hidn b3
  have HT3 := hidn qT3
  have HR3 := hidn qR3
  have hhs : h < w.heap.size := (Array.getElem?_eq_some_iff.1 HH.out).1
  have hgs : g < w.heap.size := by obtain ⟨_, _, cur, hcur⟩ := own_blk HO.out; exact (Array.getElem?_eq_some_iff.1 hcur).1
  have hgh : h ≠ g := fun e => by
    obtain ⟨_, _, cur, hcur⟩ := own_blk HO.out
    subst e
    rw [show w.heap[h]? = _ from HH.out] at hcur
    cases hcur
  clear hw2 hw3 b2 b3 qT qR2 t0 t1 t2 u0 u1 u2 qT3 qR3 b1 qR nw1 nw0 hHeld
  go_wp2_with fail
  refine HSW.out.mono ?_
  rintro e w4 ⟨rfl, ho4, hk4⟩
  have hs3 := HB3.out.size
  have hsz3 : w.heap.size + 1 < w3.heap.size := (Array.getElem?_eq_some_iff.1 HT3.out).1
  have q4 : HpB w4 h (.slice (some ⟨g, 0, none⟩) (m + 1) c) := (hk4.2.2.2.2 h (by omega) hgh).trans ((HB3.out.block h hhs).trans HH.out)
  have qT4 : w4.heap[w.heap.size + 1]? = some (.cells #[.slice a0 l0 c0, .int .i64 k0, .int .i64 p0] 70 (0, 0)) := (hk4.2.2.2.2 _ hsz3 (by omega)).trans HT3.out
  have qR4 : w4.heap[w.heap.size]? = some (.cells #[.slice none 0 0, .int .i64 0, .int .i64 0] 70 (0, 0)) := (hk4.2.2.2.2 _ (by omega) (by omega)).trans HR3.out
  have HB4 : Hid (Below B w w4) := hidn ((HB3.out.mono hB).trans (hk4.below (by omega) hBg))
  have c4 : w4.cell? ⟨h, 0, none⟩ = some (.slice (some ⟨g, 0, none⟩) (m + 1) c) := cell_of_row w4 h 0 _ _ _ q4
  have f4 := unfrozen_of_block q4 0
  obtain ⟨w5, hw5⟩ : ∃ w5, w5 = w4.setCell ⟨h, 0, none⟩ (.slice (some ⟨g, 0, none⟩) m c) := ⟨_, rfl⟩
  have q5 : HpB w5 h (.slice (some ⟨g, 0, none⟩) m c) := by rw [hw5]; exact block_setCell q4 _
  have k5 : ∀ k, k ≠ h → w5.heap[k]? = w4.heap[k]? := fun k hk => by rw [hw5]; exact Below.heap_setCell _ ⟨h, 0, none⟩ _ _ hk
  have qT5 := (k5 _ (by omega)).trans qT4
  have qR5 := (k5 _ (by omega)).trans qR4
  have ho5 : w5.ownsRow B 70 3 (.slice (some ⟨g, 0, none⟩) m c) m (rvs ((swapL rs 0 m).take m)) := by
    have q := own_less (ho4) m (by omega)
    rw [rvs_take] at q
    exact own_stay q (fun k hk => k5 k (fun e => by
      have e2 : g = k := by injection hk
      omega))
  have HB5 : Hid (Below B w w5) := hidn (by rw [hw5]; exact HB4.out.setCell (p := ⟨h, 0, none⟩) hBh _)
  have HPS : Hid (HpS B h g m c w5 ((swapL rs 0 m).take m) w5) := hidn ⟨by rw [List.length_take, swapL_len, HLEN.out]; omega, q5, ho5, Kr.refl _ _⟩
  have HRA5 : Hid (RunsAt T B w5 ((swapL rs 0 m).take m)) := hidn (fun r hr => (hR.below HB5.out) r (HTP.out.mem_iff.1 (List.mem_cons_of_mem _ hr)))
  have HSK := hidn (sink_any T B h g m c w5 ((swapL rs 0 m).take m) w5 (Nat.le_trans hB HB5.out.size) hBg (by omega) HRA5.out HPS.out HXL.out)
  have HW5 := hidn hw5
  have HT5 := hidn qT5
  have HR5 := hidn qR5
  have m1 : (0 : Int) ≤ (m : Int) := by omega
  have m2 : (m : Int) ≤ (c : Int) := by omega
  have m3 : m ≤ c := by omega
  have HFR : Hid (∀ k, k < w.heap.size → k ≠ h → k ≠ g → w5.heap[k]? = w.heap[k]?) := hidn (fun k hk h1 h2 => (k5 k h1).trans ((hk4.2.2.2.2 k (by omega) h2).trans (HB3.out.block k hk)))
  clear hw5 q4 qT4 qR4 ho4 hk4 q5 k5 qT5 qR5 ho5 hR
  go_wp2_with fail
  rw [← HW5.out]
  refine HSK.out.mono ?_
  rintro e w6 ⟨rfl, rs', hpp, hhp, h6⟩
  have HP6 := hidn hpp
  have HH6 := hidn hhp
  have H6 := hidn h6
  have hle5 : w.heap.size ≤ w5.heap.size := HB5.out.size
  have hsT : w.heap.size + 1 < w5.heap.size := (Array.getElem?_eq_some_iff.1 HT5.out).1
  have qT6 : w6.heap[w.heap.size + 1]? = some (.cells #[.slice a0 l0 c0, .int .i64 k0, .int .i64 p0] 70 (0, 0)) := (h6.2.2.2.2.2.2.2 _ hsT (by omega)).trans HT5.out
  have qR6 : w6.heap[w.heap.size]? = some (.cells #[.slice none 0 0, .int .i64 0, .int .i64 0] 70 (0, 0)) := (h6.2.2.2.2.2.2.2 _ (by omega) (by omega)).trans HR5.out
  have x0 : w6.cell? ⟨w.heap.size + 1, 0, none⟩ = some (.slice a0 l0 c0) := cell_of_row _ _ _ _ _ _ qT6
  have x1 : w6.cell? ⟨w.heap.size + 1, 1, none⟩ = some (.int .i64 k0) := cell_of_row _ _ _ _ _ _ qT6
  have x2 : w6.cell? ⟨w.heap.size + 1, 2, none⟩ = some (.int .i64 p0) := cell_of_row _ _ _ _ _ _ qT6
  have y0 : w6.cell? ⟨w.heap.size, 0, none⟩ = some (.slice none 0 0) := cell_of_row _ _ _ _ _ _ qR6
  have y1 : w6.cell? ⟨w.heap.size, 1, none⟩ = some (.int .i64 0) := cell_of_row _ _ _ _ _ _ qR6
  have y2 : w6.cell? ⟨w.heap.size, 2, none⟩ = some (.int .i64 0) := cell_of_row _ _ _ _ _ _ qR6
  have z0 := unfrozen_of_block qR6 0
  have z1 := unfrozen_of_block qR6 1
  have z2 := unfrozen_of_block qR6 2
  have HF : Hid (((w6.setCell ⟨w.heap.size, 0, none⟩ (.slice a0 l0 c0)).setCell ⟨w.heap.size, 1, none⟩ (.int .i64 k0)).setCell ⟨w.heap.size, 2, none⟩ (.int .i64 p0) |>.heap[w.heap.size]? = some (.cells #[.slice a0 l0 c0, .int .i64 k0, .int .i64 p0] 70 (0, 0))) := hidn (block_setCell (block_setCell (block_setCell qR6 (.slice a0 l0 c0)) (.int .i64 k0)) (.int .i64 p0))
  clear hpp hhp h6 qT6 qR6
  go_wp2_with fail
  have hk7 := (((Kr.refl w.heap.size w6).setCell 0 (.slice a0 l0 c0)).setCell 1 (.int .i64 k0)).setCell 2 (.int .i64 p0)
  have hle6 : w5.heap.size ≤ w6.heap.size := H6.out.2.2.2.2.2.2.1
  have hlr : rs'.length = m := H6.out.1
  have hqh := (hk7.2.2.2.2 h (by omega) (by omega)).trans H6.out.2.1
  have hqo := own_stay H6.out.2.2.1 (w' := ((w6.setCell ⟨w.heap.size, 0, none⟩ (.slice a0 l0 c0)).setCell ⟨w.heap.size, 1, none⟩ (.int .i64 k0)).setCell ⟨w.heap.size, 2, none⟩ (.int .i64 p0)) (fun k hk => hk7.2.2.2.2 k (by have := (H6.out.2.2.1.lt k hk).2; omega) (fun e => by
    have e2 : g = k := by injection hk
    omega))
  exact bodyPost_ret (v := .agg #[.slice a0 l0 c0, .int .i64 k0, .int .i64 p0]) (results_cell_row rfl _ _ w.heap.size 70 _ (0, 0) _ rfl HF.out Try.underlying70 rfl (by kernel_rfl)) rfl ⟨rfl, rs', (HP6.out.cons _).trans HTP.out, HH6.out, ⟨by rw [hlr]; exact hqh, by rw [hlr]; exact hqo, hBh⟩, HB5.out.trans ((H6.out.2.2.2.below (Nat.le_trans hB hle5) hBg).trans (hk7.below (Nat.le_trans hB (Nat.le_trans hle5 hle6)) hB)), fun k hk h1 h2 => (hk7.2.2.2.2 k (by omega) (by omega)).trans ((H6.out.2.2.2.2.2.2.2 k (by omega) h2).trans (HFR.out k hk h1 h2))⟩
end Go.Proofs.Ytccjgciknaooaaa
