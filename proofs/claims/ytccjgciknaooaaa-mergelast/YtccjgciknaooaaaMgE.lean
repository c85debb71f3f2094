/- merge: the heap's push and pop, of one or two runs. -/
import Derived.Test.YtccjgciknaooaaaMgD
namespace Go.Proofs.Ytccjgciknaooaaa
open Go.RowKit Go.Joins
set_option linter.unusedVariables false

theorem zRun : (Try.prog.info? 70).map (fun i => (i.zero, i.size, i.bytes)) = some (some (.agg #[.slice none 0 0, .int .i64 0, .int .i64 0]), 3, 40) := by kernel_rfl

/-- The heap: its block, and its row. -/
def HpI (B : Nat) (W : World) (h : Nat) (v : Value) (rs : List Run) : Prop := HpB W h v ∧ W.ownsRow B 70 3 v rs.length (rvs rs) ∧ B ≤ h

theorem HpI.below {B h : Nat} {W W' : World} {v : Value} {rs : List Run} (x : HpI B W h v rs) (hb : Below W.heap.size W W') : HpI B W' h v rs :=
  ⟨(hb.block h (Array.getElem?_eq_some_iff.1 x.1).1).trans x.1, own_skip x.2.1 hb, x.2.2⟩

/-- What pop leaves. -/
def PopP (B : Nat) (W : World) (h : Nat) (r : Run) (rs : List Run) (g c : Nat) (e : Ending) (W' : World) : Prop :=
  e = .returned (.agg #[.slice r.a r.len r.cap, .int .i64 r.rank, .int .i64 r.place]) ∧ HpI B W' h (.slice (some ⟨g, 0, none⟩) rs.length c) rs ∧ Below B W W' ∧ ∀ k, k < W.heap.size → k ≠ h → k ≠ g → W'.heap[k]? = W.heap[k]?

set_option maxHeartbeats 4000000 in
set_option maxRecDepth 100000 in
theorem pop2 (B h g c : Nat) (a0 a1 : Option Addr) (l0 c0 l1 c1 : Nat) (k0 p0 k1 p1 : Int) (w : World) (hx : HpI B w h (.slice (some ⟨g, 0, none⟩) 2 c) [⟨a0, l0, c0, k0, p0⟩, ⟨a1, l1, c1, k1, p1⟩]) (hB : B ≤ w.heap.size) :
    Calls Try.prog 32 #[.pointer (some ⟨h, 0, none⟩)] w (PopP B w h ⟨a0, l0, c0, k0, p0⟩ [⟨a1, l1, c1, k1, p1⟩] g c) := by
  obtain ⟨hh, ho, hBh⟩ := hx
  obtain ⟨hBg, hnc, _⟩ := own_blk ho
  have hc2 : w.cell? ⟨h, 0, none⟩ = some (.slice (some ⟨g, 0, none⟩) 2 c) := cell_of_row w h 0 _ _ _ hh
  have e := ho.cells (g := g) rfl
  have e0 := e 0 _ rfl
  have e1 := e 1 _ rfl
  have e2 := e 2 _ rfl
  rw [add_none, Nat.zero_add] at e0 e1 e2
  obtain ⟨w1, hw1⟩ : ∃ w1, w1 = w.alloc (.cells #[.slice none 0 0, .int .i64 0, .int .i64 0] 70) := ⟨_, rfl⟩
  have b1 : Below w.heap.size w w1 := by rw [hw1]; exact (Below.refl _ w).alloc (Nat.le_refl _) _
  have s1 : w1.heap.size = w.heap.size + 1 := by rw [hw1]; simp
  have qR : w1.heap[w.heap.size]? = some (.cells #[.slice none 0 0, .int .i64 0, .int .i64 0] 70 (0, 0)) := by rw [hw1]; exact heap_alloc_new w _
  have HRD : Hid (∀ w', Below w.heap.size w w' → w'.cell? ⟨h, 0, none⟩ = some (.slice (some ⟨g, 0, none⟩) 2 c) ∧ w'.cell? ⟨g, 0, none⟩ = some (.slice a0 l0 c0) ∧ w'.cell? ⟨g, 1, none⟩ = some (.int .i64 k0) ∧ w'.cell? ⟨g, 2, none⟩ = some (.int .i64 p0)) := hidn (fun w' hb => ⟨(hb.cell (block_lt_of_cell hc2)).trans hc2, (hb.cell (block_lt_of_cell e0)).trans e0, (hb.cell (block_lt_of_cell e1)).trans e1, (hb.cell (block_lt_of_cell e2)).trans e2⟩)
  have HH := hidn hh
  have HO := hidn ho
  have nw1 : IntKind.i64.wrap 1 = 1 := by decide
  have nw0 : IntKind.i64.wrap 0 = 0 := by decide
  have HW1 := hidn hw1
  have HB1 := hidn b1
  clear e hh ho hw1 hc2 e0 e1 e2
  go_enter Try.func32, Try.ntmps32
  go_wp2_with fail
  rw [← HW1.out]
  refine wp_region_noPanic ?_
  refine wp_region_held_drew (S := fun w' => Below w.heap.size w w') (by kernel_rfl) (b1.trans ((Below.refl _ w1).drew)) (fun hHeld => ?_)
  refine drawn_take (i := 0) (v := .pointer (some ⟨h, 0, none⟩)) (some 5) rfl rfl (by kernel_rfl) (by kernel_rfl) (by kernel_rfl) (fun _ _ _ h => h) (Or.inl ⟨by kernel_rfl, fun wq hw => by go_simp⟩) hHeld ?_
  simp only [Act.put, List.setIfInBounds_toArray, List.set_cons_succ, List.set_cons_zero]
  refine drawn_take (i := 1) (v := .pointer (some ⟨h, 0, none⟩)) (some 6) rfl rfl (by kernel_rfl) (by kernel_rfl) (by kernel_rfl) (fun _ _ _ h => h) (Or.inl ⟨by kernel_rfl, fun wq hw => by go_simp⟩) hHeld ?_
  simp only [Act.put, List.setIfInBounds_toArray, List.set_cons_succ, List.set_cons_zero]
  refine drawn_take (i := 2) (v := .pointer (some ⟨h, 0, none⟩)) (some 7) rfl rfl (by kernel_rfl) (by kernel_rfl) (by kernel_rfl) (fun _ _ _ h => h) (Or.inl ⟨by kernel_rfl, fun wq hw => by go_simp⟩) hHeld ?_
  simp only [Act.put, List.setIfInBounds_toArray, List.set_cons_succ, List.set_cons_zero]
  refine drawn_take (i := 3) (v := .slice (some ⟨g, 0, none⟩) 2 c) (some 8) rfl rfl (by kernel_rfl) (by kernel_rfl) (by kernel_rfl) (fun _ _ _ h => h) (Or.inl ⟨by kernel_rfl, fun wq hw => by have q9 := (HRD.out _ hw).1; go_simp⟩) hHeld ?_
  simp only [Act.put, List.setIfInBounds_toArray, List.set_cons_succ, List.set_cons_zero]
  refine drawn_take (i := 4) (v := .pointer (some ⟨g, 0, none⟩)) (some 9) rfl rfl (by kernel_rfl) (by kernel_rfl) (by kernel_rfl) (fun _ _ _ h => h) (Or.inl ⟨by kernel_rfl, fun wq hw => by go_simp⟩) hHeld ?_
  simp only [Act.put, List.setIfInBounds_toArray, List.set_cons_succ, List.set_cons_zero]
  refine drawn_take (i := 5) (v := .agg #[.slice a0 l0 c0, .int .i64 k0, .int .i64 p0]) (some 10) rfl rfl (by kernel_rfl) (by kernel_rfl) (by kernel_rfl) (fun _ _ _ h => h) (Or.inl ⟨by kernel_rfl, fun wq hw => by obtain ⟨_, q7, q8, q9⟩ := HRD.out _ hw; go_simp⟩) hHeld ?_
  simp only [Act.put, List.setIfInBounds_toArray, List.set_cons_succ, List.set_cons_zero]
  refine drawn_take (i := 6) (v := .pointer (some ⟨h, 0, none⟩)) (some 11) rfl rfl (by kernel_rfl) (by kernel_rfl) (by kernel_rfl) (fun _ _ _ h => h) (Or.inl ⟨by kernel_rfl, fun wq hw => by go_simp⟩) hHeld ?_
  simp only [Act.put, List.setIfInBounds_toArray, List.set_cons_succ, List.set_cons_zero]
  refine drawn_take (i := 7) (v := .pointer (some ⟨h, 0, none⟩)) (some 12) rfl rfl (by kernel_rfl) (by kernel_rfl) (by kernel_rfl) (fun _ _ _ h => h) (Or.inl ⟨by kernel_rfl, fun wq hw => by go_simp⟩) hHeld ?_
  simp only [Act.put, List.setIfInBounds_toArray, List.set_cons_succ, List.set_cons_zero]
  refine drawn_take (i := 8) (v := .pointer (some ⟨h, 0, none⟩)) (some 13) rfl rfl (by kernel_rfl) (by kernel_rfl) (by kernel_rfl) (fun _ _ _ h => h) (Or.inl ⟨by kernel_rfl, fun wq hw => by go_simp⟩) hHeld ?_
  simp only [Act.put, List.setIfInBounds_toArray, List.set_cons_succ, List.set_cons_zero]
  refine drawn_take (i := 9) (v := .slice (some ⟨g, 0, none⟩) 2 c) (some 14) rfl rfl (by kernel_rfl) (by kernel_rfl) (by kernel_rfl) (fun _ _ _ h => h) (Or.inl ⟨by kernel_rfl, fun wq hw => by have q9 := (HRD.out _ hw).1; go_simp⟩) hHeld ?_
  simp only [Act.put, List.setIfInBounds_toArray, List.set_cons_succ, List.set_cons_zero]
  refine drawn_take (i := 10) (v := .int .i64 2) (some 15) rfl rfl (by kernel_rfl) (by kernel_rfl) (by kernel_rfl) (fun _ _ _ h => h) (Or.inl ⟨by kernel_rfl, fun wq hw => by go_simp⟩) hHeld ?_
  simp only [Act.put, List.setIfInBounds_toArray, List.set_cons_succ, List.set_cons_zero]
  refine drawn_take (i := 11) (v := .int .i64 1) (some 16) rfl rfl (by kernel_rfl) (by kernel_rfl) (by kernel_rfl) (fun _ _ _ h => h) (Or.inl ⟨by kernel_rfl, fun wq hw => by go_simp⟩) hHeld ?_
  simp only [Act.put, List.setIfInBounds_toArray, List.set_cons_succ, List.set_cons_zero]
  obtain ⟨w2, hw2⟩ : ∃ w2, w2 = w1.drew.alloc (.cells #[.slice none 0 0, .int .i64 0, .int .i64 0] 70) := ⟨_, rfl⟩
  have b2 : Below w.heap.size w w2 := by rw [hw2]; exact b1.trans (((Below.refl _ w1).drew).alloc (by show w.heap.size ≤ w1.heap.size; omega) _)
  have qT : w2.heap[w.heap.size + 1]? = some (.cells #[.slice none 0 0, .int .i64 0, .int .i64 0] 70 (0, 0)) := by rw [hw2, ← s1]; exact heap_alloc_new w1.drew _
  have qR2 : w2.heap[w.heap.size]? = some (.cells #[.slice none 0 0, .int .i64 0, .int .i64 0] 70 (0, 0)) := by rw [hw2]; exact (((Below.refl w1.heap.size w1).drew.alloc (Nat.le_refl _) _).block _ (by omega)).trans qR
  refine wpAnyH_ready (rs := [12]) (by kernel_rfl) (by simp) ?_
  refine rdy_val (i := 12) rfl rfl (some 3) rfl (.pointer (some ⟨w.heap.size + 1, 0, none⟩)) (w2) (by rw [hw2, ← s1]; go_simp) (b2) (fun hHeld => ?_) rdy_nil
  simp only [Act.put, List.setIfInBounds_toArray, List.set_cons_succ, List.set_cons_zero]
  have t0 : w2.cell? ⟨w.heap.size + 1, 0, none⟩ = some (.slice none 0 0) := cell_of_row _ _ _ _ _ _ qT
  have t1 : w2.cell? ⟨w.heap.size + 1, 1, none⟩ = some (.int .i64 0) := cell_of_row _ _ _ _ _ _ qT
  have t2 : w2.cell? ⟨w.heap.size + 1, 2, none⟩ = some (.int .i64 0) := cell_of_row _ _ _ _ _ _ qT
  have u0 := unfrozen_of_block qT 0
  have u1 := unfrozen_of_block qT 1
  have u2 := unfrozen_of_block qT 2
  obtain ⟨w3, hw3⟩ : ∃ w3, w3 = ((w2.setCell ⟨w.heap.size + 1, 0, none⟩ (.slice a0 l0 c0)).setCell ⟨w.heap.size + 1, 1, none⟩ (.int .i64 k0)).setCell ⟨w.heap.size + 1, 2, none⟩ (.int .i64 p0) := ⟨_, rfl⟩
  have b3 : Below w.heap.size w w3 := by rw [hw3]; exact ((b2.setCell (p := ⟨w.heap.size + 1, 0, none⟩) (Nat.le_succ _) _).setCell (p := ⟨w.heap.size + 1, 1, none⟩) (Nat.le_succ _) _).setCell (p := ⟨w.heap.size + 1, 2, none⟩) (Nat.le_succ _) _
  have qT3 : w3.heap[w.heap.size + 1]? = some (.cells #[.slice a0 l0 c0, .int .i64 k0, .int .i64 p0] 70 (0, 0)) := by
    rw [hw3]
    exact block_setCell (block_setCell (block_setCell qT (.slice a0 l0 c0)) (.int .i64 k0)) (.int .i64 p0)
  have qR3 : w3.heap[w.heap.size]? = some (.cells #[.slice none 0 0, .int .i64 0, .int .i64 0] 70 (0, 0)) := by
    rw [hw3, Below.heap_setCell _ ⟨w.heap.size + 1, 2, none⟩ _ _ (by show w.heap.size ≠ w.heap.size + 1; omega), Below.heap_setCell _ ⟨w.heap.size + 1, 1, none⟩ _ _ (by show w.heap.size ≠ w.heap.size + 1; omega), Below.heap_setCell _ ⟨w.heap.size + 1, 0, none⟩ _ _ (by show w.heap.size ≠ w.heap.size + 1; omega)]
    exact qR2
  refine wpAnyH_ready (rs := [13]) (by kernel_rfl) (by simp) ?_
  refine rdy_unit (i := 13) rfl rfl none rfl (w3) (by rw [hw3]; go_simp) (b3) (fun hHeld => ?_) rdy_nil
  simp only [Act.put]
  refine drawn_take (i := 14) (v := .int .i64 1) (some 4) rfl rfl (by kernel_rfl) (by kernel_rfl) (by kernel_rfl) (fun _ _ _ h => h) (Or.inl ⟨by kernel_rfl, fun wq hw => by go_simp⟩) hHeld ?_
  simp only [Act.put, List.setIfInBounds_toArray, List.set_cons_succ, List.set_cons_zero]
  refine wpAnyH_done (by kernel_rfl) ?_ _
  refine NoPanic.normal ?_
  clear hHeld
  have HSW := hidn (swap01 B h g c a0 a1 l0 c0 l1 c1 k0 p0 k1 p1 w3 ((b3.block h (Array.getElem?_eq_some_iff.1 HH.out).1).trans HH.out) (own_skip HO.out b3))
  have HB3 := hidn b3
  have HT3 := hidn qT3
  have HR3 := hidn qR3
  have hhs : h < w.heap.size := (Array.getElem?_eq_some_iff.1 HH.out).1
  have hgs : g < w.heap.size := by obtain ⟨_, _, cur, hcur⟩ := own_blk HO.out; exact (Array.getElem?_eq_some_iff.1 hcur).1
  have hgh : h ≠ g := fun e => by
    obtain ⟨_, _, cur, hcur⟩ := own_blk HO.out
    subst e
    rw [show w.heap[h]? = _ from HH.out] at hcur
    cases hcur
  clear hw2 hw3 b2 b3 qT qR2 t0 t1 t2 u0 u1 u2 qT3 qR3 b1 qR nw1 nw0 hHeld
  go_wp2_with fail
  refine HSW.out.mono ?_
  rintro e w4 ⟨rfl, ho4, hk4⟩
  have hs3 := HB3.out.size
  have hsz3 : w.heap.size + 1 < w3.heap.size := (Array.getElem?_eq_some_iff.1 HT3.out).1
  have q4 : HpB w4 h (.slice (some ⟨g, 0, none⟩) 2 c) := (hk4.2.2.2.2 h (by omega) hgh).trans ((HB3.out.block h hhs).trans HH.out)
  have qT4 : w4.heap[w.heap.size + 1]? = some (.cells #[.slice a0 l0 c0, .int .i64 k0, .int .i64 p0] 70 (0, 0)) := (hk4.2.2.2.2 _ hsz3 (by omega)).trans HT3.out
  have qR4 : w4.heap[w.heap.size]? = some (.cells #[.slice none 0 0, .int .i64 0, .int .i64 0] 70 (0, 0)) := (hk4.2.2.2.2 _ (by omega) (by omega)).trans HR3.out
  have HB4 : Hid (Below B w w4) := hidn ((HB3.out.mono hB).trans (hk4.below (by omega) hBg))
  have c4 : w4.cell? ⟨h, 0, none⟩ = some (.slice (some ⟨g, 0, none⟩) 2 c) := cell_of_row w4 h 0 _ _ _ q4
  have f4 := unfrozen_of_block q4 0
  obtain ⟨w5, hw5⟩ : ∃ w5, w5 = w4.setCell ⟨h, 0, none⟩ (.slice (some ⟨g, 0, none⟩) 1 c) := ⟨_, rfl⟩
  have q5 : HpB w5 h (.slice (some ⟨g, 0, none⟩) 1 c) := by rw [hw5]; exact block_setCell q4 _
  have k5 : ∀ k, k ≠ h → w5.heap[k]? = w4.heap[k]? := fun k hk => by rw [hw5]; exact Below.heap_setCell _ ⟨h, 0, none⟩ _ _ hk
  have qT5 := (k5 _ (by omega)).trans qT4
  have qR5 := (k5 _ (by omega)).trans qR4
  have ho5 : w5.ownsRow B 70 3 (.slice (some ⟨g, 0, none⟩) 1 c) 1 (rvs [⟨a1, l1, c1, k1, p1⟩]) := by
    have q := own_less (ho4) 1 (by omega)
    exact own_stay q (fun k hk => k5 k (fun e => by
      have e2 : g = k := by injection hk
      omega))
  have HB5 : Hid (Below B w w5) := hidn (by rw [hw5]; exact HB4.out.setCell (p := ⟨h, 0, none⟩) hBh _)
  have HSK := hidn (sink_small h 1 c (some ⟨g, 0, none⟩) w5 q5 (by omega))
  have HQ5 := hidn q5
  have HO5 := hidn ho5
  have x0 : w5.cell? ⟨w.heap.size + 1, 0, none⟩ = some (.slice a0 l0 c0) := cell_of_row _ _ _ _ _ _ qT5
  have x1 : w5.cell? ⟨w.heap.size + 1, 1, none⟩ = some (.int .i64 k0) := cell_of_row _ _ _ _ _ _ qT5
  have x2 : w5.cell? ⟨w.heap.size + 1, 2, none⟩ = some (.int .i64 p0) := cell_of_row _ _ _ _ _ _ qT5
  have y0 : w5.cell? ⟨w.heap.size, 0, none⟩ = some (.slice none 0 0) := cell_of_row _ _ _ _ _ _ qR5
  have y1 : w5.cell? ⟨w.heap.size, 1, none⟩ = some (.int .i64 0) := cell_of_row _ _ _ _ _ _ qR5
  have y2 : w5.cell? ⟨w.heap.size, 2, none⟩ = some (.int .i64 0) := cell_of_row _ _ _ _ _ _ qR5
  have z0 := unfrozen_of_block qR5 0
  have z1 := unfrozen_of_block qR5 1
  have z2 := unfrozen_of_block qR5 2
  have HW5 := hidn hw5
  have HF : Hid (((w5.setCell ⟨w.heap.size, 0, none⟩ (.slice a0 l0 c0)).setCell ⟨w.heap.size, 1, none⟩ (.int .i64 k0)).setCell ⟨w.heap.size, 2, none⟩ (.int .i64 p0) |>.heap[w.heap.size]? = some (.cells #[.slice a0 l0 c0, .int .i64 k0, .int .i64 p0] 70 (0, 0))) := hidn (block_setCell (block_setCell (block_setCell qR5 (.slice a0 l0 c0)) (.int .i64 k0)) (.int .i64 p0))
  have m1 : (0 : Int) ≤ 1 := by omega
  have m2 : (1 : Int) ≤ (c : Int) := by omega
  have m3 : 1 ≤ c := by omega
  have HFR : Hid (∀ k, k < w.heap.size → k ≠ h → k ≠ g → w5.heap[k]? = w.heap[k]?) := hidn (fun k hk h1 h2 => (k5 k h1).trans ((hk4.2.2.2.2 k (by omega) h2).trans (HB3.out.block k hk)))
  clear hw5 q4 qT4 qR4 ho4 hk4 q5 k5 qT5 qR5 ho5
  go_wp2_with fail
  rw [← HW5.out]
  refine HSK.out.mono ?_
  rintro e w6 ⟨rfl, rfl⟩
  go_wp2_with fail
  have hk7 := (((Kr.refl w.heap.size w6).setCell 0 (.slice a0 l0 c0)).setCell 1 (.int .i64 k0)).setCell 2 (.int .i64 p0)
  have hle5 : w.heap.size ≤ w6.heap.size := HB5.out.size
  have hqh := (hk7.2.2.2.2 h (by omega) (by omega)).trans HQ5.out
  have hqo := own_stay HO5.out (w' := ((w6.setCell ⟨w.heap.size, 0, none⟩ (.slice a0 l0 c0)).setCell ⟨w.heap.size, 1, none⟩ (.int .i64 k0)).setCell ⟨w.heap.size, 2, none⟩ (.int .i64 p0)) (fun k hk => hk7.2.2.2.2 k (by have := (HO5.out.lt k hk).2; omega) (fun e => by
    have e2 : g = k := by injection hk
    omega))
  exact bodyPost_ret (v := .agg #[.slice a0 l0 c0, .int .i64 k0, .int .i64 p0]) (results_cell_row rfl _ _ w.heap.size 70 _ (0, 0) _ rfl HF.out Try.underlying70 rfl (by kernel_rfl)) rfl ⟨rfl, ⟨hqh, hqo, hBh⟩, HB5.out.trans (hk7.below (Nat.le_trans hB hle5) hB), fun k hk h1 h2 => (hk7.2.2.2.2 k (by omega) (by omega)).trans (HFR.out k hk h1 h2)⟩

set_option maxHeartbeats 4000000 in
set_option maxRecDepth 100000 in
theorem pop1 (B h g c : Nat) (a0 : Option Addr) (l0 c0 : Nat) (k0 p0 : Int) (w : World) (hx : HpI B w h (.slice (some ⟨g, 0, none⟩) 1 c) [⟨a0, l0, c0, k0, p0⟩]) (hB : B ≤ w.heap.size) :
    Calls Try.prog 32 #[.pointer (some ⟨h, 0, none⟩)] w (PopP B w h ⟨a0, l0, c0, k0, p0⟩ [] g c) := by
  obtain ⟨hh, ho, hBh⟩ := hx
  obtain ⟨hBg, hnc, _⟩ := own_blk ho
  have hc2 : w.cell? ⟨h, 0, none⟩ = some (.slice (some ⟨g, 0, none⟩) 1 c) := cell_of_row w h 0 _ _ _ hh
  have e := ho.cells (g := g) rfl
  have e0 := e 0 _ rfl
  have e1 := e 1 _ rfl
  have e2 := e 2 _ rfl
  rw [add_none, Nat.zero_add] at e0 e1 e2
  obtain ⟨w1, hw1⟩ : ∃ w1, w1 = w.alloc (.cells #[.slice none 0 0, .int .i64 0, .int .i64 0] 70) := ⟨_, rfl⟩
  have b1 : Below w.heap.size w w1 := by rw [hw1]; exact (Below.refl _ w).alloc (Nat.le_refl _) _
  have s1 : w1.heap.size = w.heap.size + 1 := by rw [hw1]; simp
  have qR : w1.heap[w.heap.size]? = some (.cells #[.slice none 0 0, .int .i64 0, .int .i64 0] 70 (0, 0)) := by rw [hw1]; exact heap_alloc_new w _
  have HRD : Hid (∀ w', Below w.heap.size w w' → w'.cell? ⟨h, 0, none⟩ = some (.slice (some ⟨g, 0, none⟩) 1 c) ∧ w'.cell? ⟨g, 0, none⟩ = some (.slice a0 l0 c0) ∧ w'.cell? ⟨g, 1, none⟩ = some (.int .i64 k0) ∧ w'.cell? ⟨g, 2, none⟩ = some (.int .i64 p0)) := hidn (fun w' hb => ⟨(hb.cell (block_lt_of_cell hc2)).trans hc2, (hb.cell (block_lt_of_cell e0)).trans e0, (hb.cell (block_lt_of_cell e1)).trans e1, (hb.cell (block_lt_of_cell e2)).trans e2⟩)
  have HH := hidn hh
  have HO := hidn ho
  have nw1 : IntKind.i64.wrap 1 = 1 := by decide
  have nw0 : IntKind.i64.wrap 0 = 0 := by decide
  have HW1 := hidn hw1
  have HB1 := hidn b1
  clear e hh ho hw1 hc2 e0 e1 e2
  go_enter Try.func32, Try.ntmps32
  go_wp2_with fail
  rw [← HW1.out]
  refine wp_region_noPanic ?_
  refine wp_region_held_drew (S := fun w' => Below w.heap.size w w') (by kernel_rfl) (b1.trans ((Below.refl _ w1).drew)) (fun hHeld => ?_)
  refine drawn_take (i := 0) (v := .pointer (some ⟨h, 0, none⟩)) (some 5) rfl rfl (by kernel_rfl) (by kernel_rfl) (by kernel_rfl) (fun _ _ _ h => h) (Or.inl ⟨by kernel_rfl, fun wq hw => by go_simp⟩) hHeld ?_
  simp only [Act.put, List.setIfInBounds_toArray, List.set_cons_succ, List.set_cons_zero]
  refine drawn_take (i := 1) (v := .pointer (some ⟨h, 0, none⟩)) (some 6) rfl rfl (by kernel_rfl) (by kernel_rfl) (by kernel_rfl) (fun _ _ _ h => h) (Or.inl ⟨by kernel_rfl, fun wq hw => by go_simp⟩) hHeld ?_
  simp only [Act.put, List.setIfInBounds_toArray, List.set_cons_succ, List.set_cons_zero]
  refine drawn_take (i := 2) (v := .pointer (some ⟨h, 0, none⟩)) (some 7) rfl rfl (by kernel_rfl) (by kernel_rfl) (by kernel_rfl) (fun _ _ _ h => h) (Or.inl ⟨by kernel_rfl, fun wq hw => by go_simp⟩) hHeld ?_
  simp only [Act.put, List.setIfInBounds_toArray, List.set_cons_succ, List.set_cons_zero]
  refine drawn_take (i := 3) (v := .slice (some ⟨g, 0, none⟩) 1 c) (some 8) rfl rfl (by kernel_rfl) (by kernel_rfl) (by kernel_rfl) (fun _ _ _ h => h) (Or.inl ⟨by kernel_rfl, fun wq hw => by have q9 := (HRD.out _ hw).1; go_simp⟩) hHeld ?_
  simp only [Act.put, List.setIfInBounds_toArray, List.set_cons_succ, List.set_cons_zero]
  refine drawn_take (i := 4) (v := .pointer (some ⟨g, 0, none⟩)) (some 9) rfl rfl (by kernel_rfl) (by kernel_rfl) (by kernel_rfl) (fun _ _ _ h => h) (Or.inl ⟨by kernel_rfl, fun wq hw => by go_simp⟩) hHeld ?_
  simp only [Act.put, List.setIfInBounds_toArray, List.set_cons_succ, List.set_cons_zero]
  refine drawn_take (i := 5) (v := .agg #[.slice a0 l0 c0, .int .i64 k0, .int .i64 p0]) (some 10) rfl rfl (by kernel_rfl) (by kernel_rfl) (by kernel_rfl) (fun _ _ _ h => h) (Or.inl ⟨by kernel_rfl, fun wq hw => by obtain ⟨_, q7, q8, q9⟩ := HRD.out _ hw; go_simp⟩) hHeld ?_
  simp only [Act.put, List.setIfInBounds_toArray, List.set_cons_succ, List.set_cons_zero]
  refine drawn_take (i := 6) (v := .pointer (some ⟨h, 0, none⟩)) (some 11) rfl rfl (by kernel_rfl) (by kernel_rfl) (by kernel_rfl) (fun _ _ _ h => h) (Or.inl ⟨by kernel_rfl, fun wq hw => by go_simp⟩) hHeld ?_
  simp only [Act.put, List.setIfInBounds_toArray, List.set_cons_succ, List.set_cons_zero]
  refine drawn_take (i := 7) (v := .pointer (some ⟨h, 0, none⟩)) (some 12) rfl rfl (by kernel_rfl) (by kernel_rfl) (by kernel_rfl) (fun _ _ _ h => h) (Or.inl ⟨by kernel_rfl, fun wq hw => by go_simp⟩) hHeld ?_
  simp only [Act.put, List.setIfInBounds_toArray, List.set_cons_succ, List.set_cons_zero]
  refine drawn_take (i := 8) (v := .pointer (some ⟨h, 0, none⟩)) (some 13) rfl rfl (by kernel_rfl) (by kernel_rfl) (by kernel_rfl) (fun _ _ _ h => h) (Or.inl ⟨by kernel_rfl, fun wq hw => by go_simp⟩) hHeld ?_
  simp only [Act.put, List.setIfInBounds_toArray, List.set_cons_succ, List.set_cons_zero]
  refine drawn_take (i := 9) (v := .slice (some ⟨g, 0, none⟩) 1 c) (some 14) rfl rfl (by kernel_rfl) (by kernel_rfl) (by kernel_rfl) (fun _ _ _ h => h) (Or.inl ⟨by kernel_rfl, fun wq hw => by have q9 := (HRD.out _ hw).1; go_simp⟩) hHeld ?_
  simp only [Act.put, List.setIfInBounds_toArray, List.set_cons_succ, List.set_cons_zero]
  refine drawn_take (i := 10) (v := .int .i64 1) (some 15) rfl rfl (by kernel_rfl) (by kernel_rfl) (by kernel_rfl) (fun _ _ _ h => h) (Or.inl ⟨by kernel_rfl, fun wq hw => by go_simp⟩) hHeld ?_
  simp only [Act.put, List.setIfInBounds_toArray, List.set_cons_succ, List.set_cons_zero]
  refine drawn_take (i := 11) (v := .int .i64 0) (some 16) rfl rfl (by kernel_rfl) (by kernel_rfl) (by kernel_rfl) (fun _ _ _ h => h) (Or.inl ⟨by kernel_rfl, fun wq hw => by go_simp⟩) hHeld ?_
  simp only [Act.put, List.setIfInBounds_toArray, List.set_cons_succ, List.set_cons_zero]
  obtain ⟨w2, hw2⟩ : ∃ w2, w2 = w1.drew.alloc (.cells #[.slice none 0 0, .int .i64 0, .int .i64 0] 70) := ⟨_, rfl⟩
  have b2 : Below w.heap.size w w2 := by rw [hw2]; exact b1.trans (((Below.refl _ w1).drew).alloc (by show w.heap.size ≤ w1.heap.size; omega) _)
  have qT : w2.heap[w.heap.size + 1]? = some (.cells #[.slice none 0 0, .int .i64 0, .int .i64 0] 70 (0, 0)) := by rw [hw2, ← s1]; exact heap_alloc_new w1.drew _
  have qR2 : w2.heap[w.heap.size]? = some (.cells #[.slice none 0 0, .int .i64 0, .int .i64 0] 70 (0, 0)) := by rw [hw2]; exact (((Below.refl w1.heap.size w1).drew.alloc (Nat.le_refl _) _).block _ (by omega)).trans qR
  refine wpAnyH_ready (rs := [12]) (by kernel_rfl) (by simp) ?_
  refine rdy_val (i := 12) rfl rfl (some 3) rfl (.pointer (some ⟨w.heap.size + 1, 0, none⟩)) (w2) (by rw [hw2, ← s1]; go_simp) (b2) (fun hHeld => ?_) rdy_nil
  simp only [Act.put, List.setIfInBounds_toArray, List.set_cons_succ, List.set_cons_zero]
  have t0 : w2.cell? ⟨w.heap.size + 1, 0, none⟩ = some (.slice none 0 0) := cell_of_row _ _ _ _ _ _ qT
  have t1 : w2.cell? ⟨w.heap.size + 1, 1, none⟩ = some (.int .i64 0) := cell_of_row _ _ _ _ _ _ qT
  have t2 : w2.cell? ⟨w.heap.size + 1, 2, none⟩ = some (.int .i64 0) := cell_of_row _ _ _ _ _ _ qT
  have u0 := unfrozen_of_block qT 0
  have u1 := unfrozen_of_block qT 1
  have u2 := unfrozen_of_block qT 2
  obtain ⟨w3, hw3⟩ : ∃ w3, w3 = ((w2.setCell ⟨w.heap.size + 1, 0, none⟩ (.slice a0 l0 c0)).setCell ⟨w.heap.size + 1, 1, none⟩ (.int .i64 k0)).setCell ⟨w.heap.size + 1, 2, none⟩ (.int .i64 p0) := ⟨_, rfl⟩
  have b3 : Below w.heap.size w w3 := by rw [hw3]; exact ((b2.setCell (p := ⟨w.heap.size + 1, 0, none⟩) (Nat.le_succ _) _).setCell (p := ⟨w.heap.size + 1, 1, none⟩) (Nat.le_succ _) _).setCell (p := ⟨w.heap.size + 1, 2, none⟩) (Nat.le_succ _) _
  have qT3 : w3.heap[w.heap.size + 1]? = some (.cells #[.slice a0 l0 c0, .int .i64 k0, .int .i64 p0] 70 (0, 0)) := by
    rw [hw3]
    exact block_setCell (block_setCell (block_setCell qT (.slice a0 l0 c0)) (.int .i64 k0)) (.int .i64 p0)
  have qR3 : w3.heap[w.heap.size]? = some (.cells #[.slice none 0 0, .int .i64 0, .int .i64 0] 70 (0, 0)) := by
    rw [hw3, Below.heap_setCell _ ⟨w.heap.size + 1, 2, none⟩ _ _ (by show w.heap.size ≠ w.heap.size + 1; omega), Below.heap_setCell _ ⟨w.heap.size + 1, 1, none⟩ _ _ (by show w.heap.size ≠ w.heap.size + 1; omega), Below.heap_setCell _ ⟨w.heap.size + 1, 0, none⟩ _ _ (by show w.heap.size ≠ w.heap.size + 1; omega)]
    exact qR2
  refine wpAnyH_ready (rs := [13]) (by kernel_rfl) (by simp) ?_
  refine rdy_unit (i := 13) rfl rfl none rfl (w3) (by rw [hw3]; go_simp) (b3) (fun hHeld => ?_) rdy_nil
  simp only [Act.put]
  refine drawn_take (i := 14) (v := .int .i64 0) (some 4) rfl rfl (by kernel_rfl) (by kernel_rfl) (by kernel_rfl) (fun _ _ _ h => h) (Or.inl ⟨by kernel_rfl, fun wq hw => by go_simp⟩) hHeld ?_
  simp only [Act.put, List.setIfInBounds_toArray, List.set_cons_succ, List.set_cons_zero]
  refine wpAnyH_done (by kernel_rfl) ?_ _
  refine NoPanic.normal ?_
  clear hHeld
  have HSW := hidn (swap00 B h g c a0 l0 c0 k0 p0 w3 ((b3.block h (Array.getElem?_eq_some_iff.1 HH.out).1).trans HH.out) (own_skip HO.out b3))
  have HB3 := hidn b3
  have HT3 := hidn qT3
  have HR3 := hidn qR3
  have hhs : h < w.heap.size := (Array.getElem?_eq_some_iff.1 HH.out).1
  have hgs : g < w.heap.size := by obtain ⟨_, _, cur, hcur⟩ := own_blk HO.out; exact (Array.getElem?_eq_some_iff.1 hcur).1
  have hgh : h ≠ g := fun e => by
    obtain ⟨_, _, cur, hcur⟩ := own_blk HO.out
    subst e
    rw [show w.heap[h]? = _ from HH.out] at hcur
    cases hcur
  clear hw2 hw3 b2 b3 qT qR2 t0 t1 t2 u0 u1 u2 qT3 qR3 b1 qR nw1 nw0 hHeld
  go_wp2_with fail
  refine HSW.out.mono ?_
  rintro e w4 ⟨rfl, ho4, hk4⟩
  have hs3 := HB3.out.size
  have hsz3 : w.heap.size + 1 < w3.heap.size := (Array.getElem?_eq_some_iff.1 HT3.out).1
  have q4 : HpB w4 h (.slice (some ⟨g, 0, none⟩) 1 c) := (hk4.2.2.2.2 h (by omega) hgh).trans ((HB3.out.block h hhs).trans HH.out)
  have qT4 : w4.heap[w.heap.size + 1]? = some (.cells #[.slice a0 l0 c0, .int .i64 k0, .int .i64 p0] 70 (0, 0)) := (hk4.2.2.2.2 _ hsz3 (by omega)).trans HT3.out
  have qR4 : w4.heap[w.heap.size]? = some (.cells #[.slice none 0 0, .int .i64 0, .int .i64 0] 70 (0, 0)) := (hk4.2.2.2.2 _ (by omega) (by omega)).trans HR3.out
  have HB4 : Hid (Below B w w4) := hidn ((HB3.out.mono hB).trans (hk4.below (by omega) hBg))
  have c4 : w4.cell? ⟨h, 0, none⟩ = some (.slice (some ⟨g, 0, none⟩) 1 c) := cell_of_row w4 h 0 _ _ _ q4
  have f4 := unfrozen_of_block q4 0
  obtain ⟨w5, hw5⟩ : ∃ w5, w5 = w4.setCell ⟨h, 0, none⟩ (.slice (some ⟨g, 0, none⟩) 0 c) := ⟨_, rfl⟩
  have q5 : HpB w5 h (.slice (some ⟨g, 0, none⟩) 0 c) := by rw [hw5]; exact block_setCell q4 _
  have k5 : ∀ k, k ≠ h → w5.heap[k]? = w4.heap[k]? := fun k hk => by rw [hw5]; exact Below.heap_setCell _ ⟨h, 0, none⟩ _ _ hk
  have qT5 := (k5 _ (by omega)).trans qT4
  have qR5 := (k5 _ (by omega)).trans qR4
  have ho5 : w5.ownsRow B 70 3 (.slice (some ⟨g, 0, none⟩) 0 c) 0 (rvs []) := by
    have q := own_less (ho4) 0 (by omega)
    exact own_stay q (fun k hk => k5 k (fun e => by
      have e2 : g = k := by injection hk
      omega))
  have HB5 : Hid (Below B w w5) := hidn (by rw [hw5]; exact HB4.out.setCell (p := ⟨h, 0, none⟩) hBh _)
  have HSK := hidn (sink_small h 0 c (some ⟨g, 0, none⟩) w5 q5 (by omega))
  have HQ5 := hidn q5
  have HO5 := hidn ho5
  have x0 : w5.cell? ⟨w.heap.size + 1, 0, none⟩ = some (.slice a0 l0 c0) := cell_of_row _ _ _ _ _ _ qT5
  have x1 : w5.cell? ⟨w.heap.size + 1, 1, none⟩ = some (.int .i64 k0) := cell_of_row _ _ _ _ _ _ qT5
  have x2 : w5.cell? ⟨w.heap.size + 1, 2, none⟩ = some (.int .i64 p0) := cell_of_row _ _ _ _ _ _ qT5
  have y0 : w5.cell? ⟨w.heap.size, 0, none⟩ = some (.slice none 0 0) := cell_of_row _ _ _ _ _ _ qR5
  have y1 : w5.cell? ⟨w.heap.size, 1, none⟩ = some (.int .i64 0) := cell_of_row _ _ _ _ _ _ qR5
  have y2 : w5.cell? ⟨w.heap.size, 2, none⟩ = some (.int .i64 0) := cell_of_row _ _ _ _ _ _ qR5
  have z0 := unfrozen_of_block qR5 0
  have z1 := unfrozen_of_block qR5 1
  have z2 := unfrozen_of_block qR5 2
  have HW5 := hidn hw5
  have HF : Hid (((w5.setCell ⟨w.heap.size, 0, none⟩ (.slice a0 l0 c0)).setCell ⟨w.heap.size, 1, none⟩ (.int .i64 k0)).setCell ⟨w.heap.size, 2, none⟩ (.int .i64 p0) |>.heap[w.heap.size]? = some (.cells #[.slice a0 l0 c0, .int .i64 k0, .int .i64 p0] 70 (0, 0))) := hidn (block_setCell (block_setCell (block_setCell qR5 (.slice a0 l0 c0)) (.int .i64 k0)) (.int .i64 p0))
  have m1 : (0 : Int) ≤ 0 := by omega
  have m2 : (0 : Int) ≤ (c : Int) := by omega
  have m3 : 0 ≤ c := by omega
  have HFR : Hid (∀ k, k < w.heap.size → k ≠ h → k ≠ g → w5.heap[k]? = w.heap[k]?) := hidn (fun k hk h1 h2 => (k5 k h1).trans ((hk4.2.2.2.2 k (by omega) h2).trans (HB3.out.block k hk)))
  clear hw5 q4 qT4 qR4 ho4 hk4 q5 k5 qT5 qR5 ho5
  go_wp2_with fail
  rw [← HW5.out]
  refine HSK.out.mono ?_
  rintro e w6 ⟨rfl, rfl⟩
  go_wp2_with fail
  have hk7 := (((Kr.refl w.heap.size w6).setCell 0 (.slice a0 l0 c0)).setCell 1 (.int .i64 k0)).setCell 2 (.int .i64 p0)
  have hle5 : w.heap.size ≤ w6.heap.size := HB5.out.size
  have hqh := (hk7.2.2.2.2 h (by omega) (by omega)).trans HQ5.out
  have hqo := own_stay HO5.out (w' := ((w6.setCell ⟨w.heap.size, 0, none⟩ (.slice a0 l0 c0)).setCell ⟨w.heap.size, 1, none⟩ (.int .i64 k0)).setCell ⟨w.heap.size, 2, none⟩ (.int .i64 p0)) (fun k hk => hk7.2.2.2.2 k (by have := (HO5.out.lt k hk).2; omega) (fun e => by
    have e2 : g = k := by injection hk
    omega))
  exact bodyPost_ret (v := .agg #[.slice a0 l0 c0, .int .i64 k0, .int .i64 p0]) (results_cell_row rfl _ _ w.heap.size 70 _ (0, 0) _ rfl HF.out Try.underlying70 rfl (by kernel_rfl)) rfl ⟨rfl, ⟨hqh, hqo, hBh⟩, HB5.out.trans (hk7.below (Nat.le_trans hB hle5) hB), fun k hk h1 h2 => (hk7.2.2.2.2 k (by omega) (by omega)).trans (HFR.out k hk h1 h2)⟩
end Go.Proofs.Ytccjgciknaooaaa
