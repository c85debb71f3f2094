/- chunk: Next. -/
import Derived.Test.YtcjhkpcnhnnjbaaDoorChH
import Derived.BigRegion
namespace Go.Proofs.YtcjhkpcnhnnjbaaDoor
open Go.RowKit Go.Joins
open Cd (Sam Sm canS encS samD SamOK IsPack BitsTab DbTab SamsOK vsm rdy_unit)
set_option linter.unusedVariables false
theorem set5_row {W : World} {g : Nat} {a b c d f : Value} {t : TypeId} {fz : Nat × Nat} (h : W.heap[g]? = some (.cells #[a, b, c, d, f] t fz)) (x0 x1 x2 x3 x4 : Value) : (((((W.setCell ⟨g, 0, none⟩ x0).setCell ⟨g, 1, none⟩ x1).setCell ⟨g, 2, none⟩ x2).setCell ⟨g, 3, none⟩ x3).setCell ⟨g, 4, none⟩ x4).heap[g]? = some (.cells #[x0, x1, x2, x3, x4] t fz) :=
  block_setCell (block_setCell (block_setCell (block_setCell (block_setCell h x0) x1) x2) x3) x4
theorem set5_other {W : World} {g k : Nat} (hk : k ≠ g) (x0 x1 x2 x3 x4 : Value) : (((((W.setCell ⟨g, 0, none⟩ x0).setCell ⟨g, 1, none⟩ x1).setCell ⟨g, 2, none⟩ x2).setCell ⟨g, 3, none⟩ x3).setCell ⟨g, 4, none⟩ x4).heap[k]? = W.heap[k]? := by
  rw [Below.heap_setCell _ ⟨g, 4, none⟩ _ _ hk, Below.heap_setCell _ ⟨g, 3, none⟩ _ _ hk, Below.heap_setCell _ ⟨g, 2, none⟩ _ _ hk, Below.heap_setCell _ ⟨g, 1, none⟩ _ _ hk, Below.heap_setCell _ ⟨g, 0, none⟩ _ _ hk]
theorem bs_keep {w w' : World} {g b off len : Nat} {zs : List Nat} (h : Bs w (some ⟨b, off, none⟩) len zs) (ko : ∀ k, k ≠ g → w'.heap[k]? = w.heap[k]?) (hbg : b ≠ g) (n : Nat) (hn : n ≤ len) : Bs w' (some ⟨b, off + n, none⟩) (len - n) (zs.drop n) := by
  obtain ⟨h1, h2, h3, h4, h5⟩ := h
  refine ⟨by rw [List.length_drop, h1], by omega, fun x hx => h3 x (List.mem_of_mem_drop hx), (fun e => by cases e), fun x hx j hj => ?_⟩
  cases hx
  have := h5 _ rfl (n + j) (by omega)
  rw [ladd_none] at this ⊢
  rw [World.cell?_of_block (w := w) (ko b hbg), Nat.add_assoc, this, List.getD_eq_getElem?_getD, List.getD_eq_getElem?_getD, List.getElem?_drop]
theorem bs_zero {w : World} {zs : List Nat} {n len : Nat} (x : Addr) (h : zs.length ≤ n) (hl : len = 0) : Bs w (some x) len (zs.drop n) := by
  subst hl
  rw [List.drop_of_length_le h]
  exact ⟨rfl, Nat.zero_le _, (fun x hx => by cases hx), (fun e => by cases e), fun x _ j hj => by omega⟩
theorem cell_kept9 {w w' : World} {g e0 : Nat} {p : Addr} {v a b c d e f i j k : Value} {t t' : TypeId} (hc : w.cell? p = some v) (hg : w.heap[g]? = some (.cells #[a, b, c, d] t (0, 0))) (he : w.heap[e0]? = some (.cells #[e, f, i, j, k] t' (0, 0))) (hk : ∀ k, k < w.heap.size → k ≠ g → k ≠ e0 → w'.heap[k]? = w.heap[k]?)
    (h1 : ∀ u ∈ [a, b, c, d, e, f, i, j, k], v ≠ u) : w'.cell? p = some v := by
  obtain ⟨pb, po, sp⟩ := p
  have hs : sp = none := by simpa using World.cell?_spot hc
  subst hs
  have hlt := block_lt_of_cell hc
  have n1 : pb ≠ g := fun e => by
    subst e
    rw [cell_of_row _ _ _ _ _ _ hg] at hc
    have := Array.mem_of_getElem? hc
    simp only [List.mem_toArray] at this
    exact h1 v (by simp only [List.mem_cons, List.not_mem_nil, or_false] at this ⊢; rcases this with h | h | h | h <;> simp [h]) rfl
  have n2 : pb ≠ e0 := fun e => by
    subst e
    rw [cell_of_row _ _ _ _ _ _ he] at hc
    have := Array.mem_of_getElem? hc
    simp only [List.mem_toArray] at this
    exact h1 v (by simp only [List.mem_cons, List.not_mem_nil, or_false] at this ⊢; rcases this with h | h | h | h | h <;> simp [h]) rfl
  rw [← hc]
  exact World.cell?_of_block (hk pb hlt n1 n2)
theorem ls_kept9 {w w' : World} {g e0 : Nat} {A : Option Addr} {n len cap : Nat} {at' er : Int} {r : Option Addr} {ls : List Lab} (h : Ls w A n ls) (hg : w.heap[g]? = some (.cells #[.bool true, .slice r len cap, .int .i64 at', .int .i64 er] 59 (0, 0))) (he : w.heap[e0]? = some (.cells #[.slice none 0 0, .int .i64 0, .int .i64 0, .int .i64 0, .int .i64 0] 41 (0, 0))) (hk : ∀ k, k < w.heap.size → k ≠ g → k ≠ e0 → w'.heap[k]? = w.heap[k]?) : Ls w' A n ls := by
  obtain ⟨h1, h2, h3, h4, h5⟩ := h
  exact ⟨h1, h2, h3, h4, fun z hz j hj => ⟨cell_kept9 (h5 z hz j hj).1 hg he hk (by intro u hu; simp at hu; rcases hu with rfl | rfl | rfl | rfl | rfl | rfl <;> simp), cell_kept9 (h5 z hz j hj).2 hg he hk (by intro u hu; simp at hu; rcases hu with rfl | rfl | rfl | rfl | rfl | rfl <;> simp)⟩⟩
theorem sm_kept9 {w w' : World} {sb so n : Nat} {l : List Sam} (h : Sm w (some ⟨sb, so, none⟩) n l) (hk : w'.heap[sb]? = w.heap[sb]?) : Sm w' (some ⟨sb, so, none⟩) n l := by
  obtain ⟨h1, h2, h3, h4, h5⟩ := h
  refine ⟨h1, h2, h3, h4, fun z hz j hj => ?_⟩
  cases hz
  have := h5 _ rfl j hj
  rw [ladd_none, ladd_none] at this ⊢
  rw [World.cell?_of_block (w := w) (a := ⟨sb, _, none⟩) hk, World.cell?_of_block (w := w) (a := ⟨sb, _, none⟩) hk]
  exact this
theorem bs_move {w w' : World} {b off len : Nat} {zs : List Nat} (h : Bs w (some ⟨b, off, none⟩) len zs) (hk : w'.heap[b]? = w.heap[b]?) : Bs w' (some ⟨b, off, none⟩) len zs := by
  obtain ⟨h1, h2, h3, h4, h5⟩ := h
  refine ⟨h1, h2, h3, h4, fun x hx j hj => ?_⟩
  cases hx
  have := h5 _ rfl j hj
  rw [ladd_none] at this ⊢
  rw [World.cell?_of_block (w := w) (a := ⟨b, _, none⟩) hk]
  exact this
theorem blk_ne {w : World} {g sb : Nat} {cs ds : Array Value} {t t' : TypeId} (hg : w.heap[g]? = some (.cells cs t (0, 0))) (hs : w.heap[sb]? = some (.cells ds t' (0, 0))) (h : t ≠ t') : sb ≠ g := fun e => by
  rw [e, hg] at hs
  cases hs
  exact h rfl
/-- What Next tells of the bytes zs. -/
def NxPost (w : World) (g : Nat) (zs : List Nat) (at' er : Int) (e : Ending) (w' : World) : Prop :=
  w.grownBy w' (some g) ∧
    ((∃ (s : Ser) (n : Nat) (a : Option Addr) (cap : Nat), TkOK zs s.ls s.sm n ∧ e = .returned (.tuple #[.agg #[.slice s.la s.ll s.lc, .int .i64 at', .int .i64 (n : Int), .int .i64 (samD s.sm 0).t, .int .i64 (samD s.sm (s.sl - 1)).t], .slice s.sa s.sl s.sc, .bool true]) ∧ s.ok w' ∧ Cur w' g a (zs.length - n) cap (zs.drop n) (wrap64 (at' + n)) er) ∨
     ((∀ ls sm n, ¬ TkOK zs ls sm n) ∧ e = .returned (.tuple #[zEnt, .slice none 0 0, .bool false]) ∧ Cur w' g none 0 0 [] at' 5))
set_option maxHeartbeats 4000000 in
set_option maxRecDepth 100000 in
theorem next_any (g b off len cap : Nat) (zs : List Nat) (at' er : Int) (w : World) (h : Cur w g (some ⟨b, off, none⟩) len cap zs at' er) (h0 : 0 < len) (hbg : b ≠ g) (hT : BitsTab w) :
    Calls Tryd.prog 20 #[.pointer (some ⟨g, 0, none⟩)] w (NxPost w g zs at' er) := by
  obtain ⟨hq, hB, hlc, hcm, hl9⟩ := h
  have hgw : g < w.heap.size := (Array.getElem?_eq_some_iff.1 hq).1
  obtain ⟨wE, hwE⟩ : ∃ wE, wE = w.alloc (.cells #[.slice none 0 0, .int .i64 0, .int .i64 0, .int .i64 0, .int .i64 0] 41) := ⟨_, rfl⟩
  have bE : Below w.heap.size w wE := by rw [hwE]; exact (Below.refl _ w).alloc (Nat.le_refl _) _
  have qE : wE.heap[w.heap.size]? = some (.cells #[.slice none 0 0, .int .i64 0, .int .i64 0, .int .i64 0, .int .i64 0] 41 (0, 0)) := by rw [hwE]; exact heap_alloc_new w _
  have qg := (bE.block g hgw).trans hq
  have k1 : (w.alloc (.cells #[.slice none 0 0, .int .i64 0, .int .i64 0, .int .i64 0, .int .i64 0] 41)).cell? ⟨g, 1, none⟩ = some (.slice (some ⟨b, off, none⟩) len cap) := by rw [← hwE]; exact cell_of_row _ _ _ _ _ _ qg
  have HT := hidn (takeChunk_any b off len cap zs wE (hB.below bE) hl9 hlc hcm (hT.below bE))
  have hl0 : ((len : Int) == 0) = false := beq_eq_false_iff_ne.2 (by omega)
  have HWE := hidn hwE
  obtain ⟨e0, he0⟩ : ∃ e0, e0 = w.heap.size := ⟨_, rfl⟩
  have HE0 := hidn he0
  rw [← he0] at qE
  have hge : g ≠ e0 := by omega
  clear hwE
  go_enter Tryd.func20, Tryd.ntmps20
  go_wp2_with fail
  rw [← HWE.out, ← HE0.out]
  clear he0 k1
  refine HT.out.mono ?_
  rintro e w1 ⟨b1, hcase⟩
  have B1 := bE.trans (b1.mono bE.size)
  have q1 := (b1.block g (Array.getElem?_eq_some_iff.1 qg).1).trans qg
  have qe1 := (b1.block e0 (Array.getElem?_eq_some_iff.1 qE).1).trans qE
  rcases hcase with ⟨s, n, rfl, hok, hsok, hsab⟩ | ⟨rfl, hno⟩
  · obtain ⟨hs0, hs20⟩ : 0 < s.sm.length ∧ s.sm.length ≤ 20 := by obtain ⟨_, _, _, r, _, _, _, _, _, h1, h2⟩ := hok; exact ⟨h1, h2⟩
    obtain ⟨hn4, hnl⟩ : 4 ≤ n ∧ n ≤ len := by
      obtain ⟨h1, h2, h3, _⟩ := hok
      rw [hB.1] at h1 h2
      omega
    obtain ⟨la, ll, lc, ls, sa, sl, sc, sm⟩ := s
    obtain ⟨hL, hll, hS, hsc, hscm⟩ := hsok
    simp only at hL hll hS hsc hscm hok hs0 hs20 ⊢
    have hsl0 : 0 < sl := by rw [← hS.1]; exact hs0
    have hsl20 : sl ≤ 20 := by rw [← hS.1]; exact hs20
    obtain ⟨sb, so, rfl, hsb, hcs⟩ := hS.pos hsl0
    have hsbE : wE.heap.size ≤ sb := hsab _ rfl
    have hgE : g < wE.heap.size := (Array.getElem?_eq_some_iff.1 qg).1
    have heE : e0 < wE.heap.size := (Array.getElem?_eq_some_iff.1 qE).1
    have s1 : sb ≠ g := by omega
    have s2 : sb ≠ e0 := by omega
    have hbw : b < w.heap.size := by obtain ⟨b', off', e', hb', _⟩ := hB.pos h0; cases e'; exact hb'
    have s3 : b ≠ e0 := by have := HE0.out; omega
    clear hsbE hgE heE hsab
    obtain ⟨w2, hw2⟩ : ∃ w2, w2 = w1.alloc (.cells #[.slice la ll lc, .slice (some ⟨sb, so, none⟩) sl sc] 55) := ⟨_, rfl⟩
    have b2 : Below w1.heap.size w1 w2 := by rw [hw2]; exact (Below.refl _ w1).alloc (Nat.le_refl _) _
    have B2 := B1.trans (b2.mono B1.size)
    have q2 := (b2.block g (Array.getElem?_eq_some_iff.1 q1).1).trans q1
    have qe2 := (b2.block e0 (Array.getElem?_eq_some_iff.1 qe1).1).trans qe1
    obtain ⟨bx, hbx⟩ : ∃ bx, bx = w1.heap.size := ⟨_, rfl⟩
    have qx : w2.heap[bx]? = some (.cells #[.slice la ll lc, .slice (some ⟨sb, so, none⟩) sl sc] 55 (0, 0)) := by rw [hw2, hbx]; exact heap_alloc_new w1 _
    obtain ⟨t0, ht0⟩ : ∃ t0, t0 = (samD sm 0).t := ⟨_, rfl⟩
    obtain ⟨l1, hl1⟩ : ∃ l1, l1 = sl - 1 := ⟨_, rfl⟩
    obtain ⟨t1, ht1⟩ : ∃ t1, t1 = (samD sm l1).t := ⟨_, rfl⟩
    have y0 : w2.cell? ⟨sb, so, none⟩ = some (.int .i64 t0) := by
      rw [b2.cell (p := ⟨sb, so, none⟩) hsb, ht0]; have := (hcs 0 hsl0).1; simpa using this
    have y1 : w2.cell? ⟨sb, so + l1 * 2, none⟩ = some (.int .i64 t1) := by
      rw [b2.cell (p := ⟨sb, so + l1 * 2, none⟩) hsb, ht1]; exact (hcs l1 (by omega)).1
    have HW2 := hidn hw2
    have HBX := hidn hbx
    have HT0 := hidn ht0
    have HT1 := hidn ht1
    have HLs := hidn (hL.below b2)
    have HSm := hidn (hS.below b2)
    have HOK := hidn hok
    have hnl2 : (n : Int) ≤ (len : Int) := by omega
    have hsli : (sl : Int) - 1 = (l1 : Int) := by omega
    have hli : (l1 : Int) < (sl : Int) := by omega
    have hli2 : l1 < sl := by omega
    have HL1 := hidn hl1
    clear hw2 hbx ht0 ht1 hl1 hcs hok hL hS
    go_wp2_with fail
    rw [← HW2.out, ← HBX.out]
    refine wp_region_noPanic ?_
    refine wp_region_held_drew (S := fun w' => (w'.cell? ⟨bx, 0, none⟩ = some (.slice la ll lc) ∧ w'.cell? ⟨bx, 1, none⟩ = some (.slice (some ⟨sb, so, none⟩) sl sc)) ∧ w'.cell? ⟨g, 2, none⟩ = some (.int .i64 at') ∧ w'.cell? ⟨sb, so, none⟩ = some (.int .i64 t0) ∧ w'.cell? ⟨sb, so + l1 * 2, none⟩ = some (.int .i64 t1)) (by kernel_rfl) (⟨⟨cell_of_row _ _ _ _ _ _ qx, cell_of_row _ _ _ _ _ _ qx⟩, cell_of_row _ _ _ _ _ _ q2, y0, y1⟩) (fun hHeld => ?_)
    refine drawn_take (i := 0) (v := .pointer (some ⟨bx, 0, none⟩)) (some 38) rfl rfl (by kernel_rfl) (by kernel_rfl) (by kernel_rfl) (fun _ _ _ h => h) (Or.inl ⟨by kernel_rfl, fun wq hw => by go_simp⟩) hHeld ?_
    simp only [Act.put, List.setIfInBounds_toArray, List.set_cons_succ, List.set_cons_zero]
    refine drawn_take (i := 1) (v := .slice la ll lc) (some 39) rfl rfl (by kernel_rfl) (by kernel_rfl) (by kernel_rfl) (fun _ _ _ h => h) (Or.inl ⟨by kernel_rfl, fun wq hw => by obtain ⟨⟨g1, g2⟩, g3, g4, g5⟩ := hw; go_simp⟩) hHeld ?_
    simp only [Act.put, List.setIfInBounds_toArray, List.set_cons_succ, List.set_cons_zero]
    refine drawn_take (i := 2) (v := .pointer (some ⟨g, 0, none⟩)) (some 40) rfl rfl (by kernel_rfl) (by kernel_rfl) (by kernel_rfl) (fun _ _ _ h => h) (Or.inl ⟨by kernel_rfl, fun wq hw => by go_simp⟩) hHeld ?_
    simp only [Act.put, List.setIfInBounds_toArray, List.set_cons_succ, List.set_cons_zero]
    refine drawn_take (i := 3) (v := .pointer (some ⟨g, 0, none⟩)) (some 41) rfl rfl (by kernel_rfl) (by kernel_rfl) (by kernel_rfl) (fun _ _ _ h => h) (Or.inl ⟨by kernel_rfl, fun wq hw => by go_simp⟩) hHeld ?_
    simp only [Act.put, List.setIfInBounds_toArray, List.set_cons_succ, List.set_cons_zero]
    refine drawn_take (i := 4) (v := .pointer (some ⟨g, 2, none⟩)) (some 42) rfl rfl (by kernel_rfl) (by kernel_rfl) (by kernel_rfl) (fun _ _ _ h => h) (Or.inl ⟨by kernel_rfl, fun wq hw => by go_simp⟩) hHeld ?_
    simp only [Act.put, List.setIfInBounds_toArray, List.set_cons_succ, List.set_cons_zero]
    refine drawn_take (i := 5) (v := .int .i64 at') (some 43) rfl rfl (by kernel_rfl) (by kernel_rfl) (by kernel_rfl) (fun _ _ _ h => h) (Or.inl ⟨by kernel_rfl, fun wq hw => by obtain ⟨⟨g1, g2⟩, g3, g4, g5⟩ := hw; go_simp⟩) hHeld ?_
    simp only [Act.put, List.setIfInBounds_toArray, List.set_cons_succ, List.set_cons_zero]
    refine drawn_take (i := 6) (v := .int .i64 (n : Int)) (some 44) rfl rfl (by kernel_rfl) (by kernel_rfl) (by kernel_rfl) (fun _ _ _ h => h) (Or.inl ⟨by kernel_rfl, fun wq hw => by go_simp⟩) hHeld ?_
    simp only [Act.put, List.setIfInBounds_toArray, List.set_cons_succ, List.set_cons_zero]
    refine drawn_take (i := 7) (v := .pointer (some ⟨bx, 1, none⟩)) (some 45) rfl rfl (by kernel_rfl) (by kernel_rfl) (by kernel_rfl) (fun _ _ _ h => h) (Or.inl ⟨by kernel_rfl, fun wq hw => by go_simp⟩) hHeld ?_
    simp only [Act.put, List.setIfInBounds_toArray, List.set_cons_succ, List.set_cons_zero]
    refine drawn_take (i := 8) (v := .slice (some ⟨sb, so, none⟩) sl sc) (some 46) rfl rfl (by kernel_rfl) (by kernel_rfl) (by kernel_rfl) (fun _ _ _ h => h) (Or.inl ⟨by kernel_rfl, fun wq hw => by obtain ⟨⟨g1, g2⟩, g3, g4, g5⟩ := hw; go_simp⟩) hHeld ?_
    simp only [Act.put, List.setIfInBounds_toArray, List.set_cons_succ, List.set_cons_zero]
    refine drawn_take (i := 9) (v := .pointer (some ⟨sb, so, none⟩)) (some 47) rfl rfl (by kernel_rfl) (by kernel_rfl) (by kernel_rfl) (fun _ _ _ h => h) (Or.inl ⟨by kernel_rfl, fun wq hw => by go_simp⟩) hHeld ?_
    simp only [Act.put, List.setIfInBounds_toArray, List.set_cons_succ, List.set_cons_zero]
    refine drawn_take (i := 10) (v := .pointer (some ⟨sb, so, none⟩)) (some 48) rfl rfl (by kernel_rfl) (by kernel_rfl) (by kernel_rfl) (fun _ _ _ h => h) (Or.inl ⟨by kernel_rfl, fun wq hw => by go_simp⟩) hHeld ?_
    simp only [Act.put, List.setIfInBounds_toArray, List.set_cons_succ, List.set_cons_zero]
    refine drawn_take (i := 11) (v := .int .i64 t0) (some 49) rfl rfl (by kernel_rfl) (by kernel_rfl) (by kernel_rfl) (fun _ _ _ h => h) (Or.inl ⟨by kernel_rfl, fun wq hw => by obtain ⟨⟨g1, g2⟩, g3, g4, g5⟩ := hw; go_simp⟩) hHeld ?_
    simp only [Act.put, List.setIfInBounds_toArray, List.set_cons_succ, List.set_cons_zero]
    refine drawn_take (i := 12) (v := .pointer (some ⟨bx, 1, none⟩)) (some 50) rfl rfl (by kernel_rfl) (by kernel_rfl) (by kernel_rfl) (fun _ _ _ h => h) (Or.inl ⟨by kernel_rfl, fun wq hw => by go_simp⟩) hHeld ?_
    simp only [Act.put, List.setIfInBounds_toArray, List.set_cons_succ, List.set_cons_zero]
    refine drawn_take (i := 13) (v := .slice (some ⟨sb, so, none⟩) sl sc) (some 51) rfl rfl (by kernel_rfl) (by kernel_rfl) (by kernel_rfl) (fun _ _ _ h => h) (Or.inl ⟨by kernel_rfl, fun wq hw => by obtain ⟨⟨g1, g2⟩, g3, g4, g5⟩ := hw; go_simp⟩) hHeld ?_
    simp only [Act.put, List.setIfInBounds_toArray, List.set_cons_succ, List.set_cons_zero]
    refine drawn_take (i := 14) (v := .pointer (some ⟨bx, 1, none⟩)) (some 52) rfl rfl (by kernel_rfl) (by kernel_rfl) (by kernel_rfl) (fun _ _ _ h => h) (Or.inl ⟨by kernel_rfl, fun wq hw => by go_simp⟩) hHeld ?_
    simp only [Act.put, List.setIfInBounds_toArray, List.set_cons_succ, List.set_cons_zero]
    refine drawn_take (i := 15) (v := .slice (some ⟨sb, so, none⟩) sl sc) (some 53) rfl rfl (by kernel_rfl) (by kernel_rfl) (by kernel_rfl) (fun _ _ _ h => h) (Or.inl ⟨by kernel_rfl, fun wq hw => by obtain ⟨⟨g1, g2⟩, g3, g4, g5⟩ := hw; go_simp⟩) hHeld ?_
    simp only [Act.put, List.setIfInBounds_toArray, List.set_cons_succ, List.set_cons_zero]
    refine drawn_take (i := 16) (v := .int .i64 (sl : Int)) (some 54) rfl rfl (by kernel_rfl) (by kernel_rfl) (by kernel_rfl) (fun _ _ _ h => h) (Or.inl ⟨by kernel_rfl, fun wq hw => by go_simp⟩) hHeld ?_
    simp only [Act.put, List.setIfInBounds_toArray, List.set_cons_succ, List.set_cons_zero]
    refine drawn_take (i := 17) (v := .int .i64 (l1 : Int)) (some 55) rfl rfl (by kernel_rfl) (by kernel_rfl) (by kernel_rfl) (fun _ _ _ h => h) (Or.inl ⟨by kernel_rfl, fun wq hw => by go_simp; rw [IntKind.wrap_i64]; omega⟩) hHeld ?_
    simp only [Act.put, List.setIfInBounds_toArray, List.set_cons_succ, List.set_cons_zero]
    refine drawn_take (i := 18) (v := .pointer (some ⟨sb, so + l1 * 2, none⟩)) (some 56) rfl rfl (by kernel_rfl) (by kernel_rfl) (by kernel_rfl) (fun _ _ _ h => h) (Or.inl ⟨by kernel_rfl, fun wq hw => by go_simp⟩) hHeld ?_
    simp only [Act.put, List.setIfInBounds_toArray, List.set_cons_succ, List.set_cons_zero]
    refine drawn_take (i := 19) (v := .pointer (some ⟨sb, so + l1 * 2, none⟩)) (some 57) rfl rfl (by kernel_rfl) (by kernel_rfl) (by kernel_rfl) (fun _ _ _ h => h) (Or.inl ⟨by kernel_rfl, fun wq hw => by go_simp⟩) hHeld ?_
    simp only [Act.put, List.setIfInBounds_toArray, List.set_cons_succ, List.set_cons_zero]
    refine drawn_take (i := 20) (v := .int .i64 t1) (some 58) rfl rfl (by kernel_rfl) (by kernel_rfl) (by kernel_rfl) (fun _ _ _ h => h) (Or.inl ⟨by kernel_rfl, fun wq hw => by obtain ⟨⟨g1, g2⟩, g3, g4, g5⟩ := hw; go_simp⟩) hHeld ?_
    simp only [Act.put, List.setIfInBounds_toArray, List.set_cons_succ, List.set_cons_zero]
    refine drawn_take (i := 21) (v := .agg #[.slice la ll lc, .int .i64 at', .int .i64 (n : Int), .int .i64 t0, .int .i64 t1]) (some 59) rfl rfl (by kernel_rfl) (by kernel_rfl) (by kernel_rfl) (fun _ _ _ h => h) (Or.inl ⟨by kernel_rfl, fun wq hw => by go_simp⟩) hHeld ?_
    simp only [Act.put, List.setIfInBounds_toArray, List.set_cons_succ, List.set_cons_zero]
    have keep2 : ∀ o : Obj, (((w2.drew.alloc o).cell? ⟨bx, 0, none⟩ = some (.slice la ll lc) ∧ (w2.drew.alloc o).cell? ⟨bx, 1, none⟩ = some (.slice (some ⟨sb, so, none⟩) sl sc)) ∧ (w2.drew.alloc o).cell? ⟨g, 2, none⟩ = some (.int .i64 at') ∧ (w2.drew.alloc o).cell? ⟨sb, so, none⟩ = some (.int .i64 t0) ∧ (w2.drew.alloc o).cell? ⟨sb, so + l1 * 2, none⟩ = some (.int .i64 t1)) := fun o => by
      obtain ⟨⟨g1, g2⟩, g3, g4, g5⟩ := hHeld
      exact ⟨⟨Lib.cell?_alloc_some o g1, Lib.cell?_alloc_some o g2⟩, Lib.cell?_alloc_some o g3, Lib.cell?_alloc_some o g4, Lib.cell?_alloc_some o g5⟩
    refine wpAnyH_ready (rs := [22]) (by kernel_rfl) (by simp) ?_
    refine rdy_val (i := 22) rfl rfl (some 8) rfl (.pointer (some ⟨w2.heap.size, 0, none⟩)) (w2.drew.alloc (.cells #[.slice none 0 0, .int .i64 0, .int .i64 0, .int .i64 0, .int .i64 0] 41)) (by go_simp) (keep2 _) (fun hHeld => ?_) rdy_nil
    simp only [Act.put, List.setIfInBounds_toArray, List.set_cons_succ, List.set_cons_zero]
    refine wpAnyH_ready (rs := [23]) (by kernel_rfl) (by simp) ?_
    refine rdy_unit (i := 23) rfl rfl none rfl (w2.drew.alloc (.cells #[.slice la ll lc, .int .i64 at', .int .i64 (n : Int), .int .i64 t0, .int .i64 t1] 41)) (by go_simp) (keep2 _) (fun hHeld => ?_) rdy_nil
    simp only [Act.put]
    refine wpAnyH_done (by kernel_rfl) ?_ _
    refine NoPanic.normal ?_
    clear hHeld
    obtain ⟨w3, hw3⟩ : ∃ w3, w3 = w2.drew.alloc (.cells #[.slice la ll lc, .int .i64 at', .int .i64 (n : Int), .int .i64 t0, .int .i64 t1] 41) := ⟨_, rfl⟩
    obtain ⟨be, hbe⟩ : ∃ be, be = w2.heap.size := ⟨_, rfl⟩
    have b3 : Below w2.heap.size w2 w3 := by rw [hw3]; exact ((Below.refl _ w2).drew).alloc (Nat.le_refl _) _
    have qb3 : w3.heap[be]? = some (.cells #[.slice la ll lc, .int .i64 at', .int .i64 (n : Int), .int .i64 t0, .int .i64 t1] 41 (0, 0)) := by rw [hw3, hbe]; exact heap_alloc_new w2.drew _
    have q3 := (b3.block g (Array.getElem?_eq_some_iff.1 q2).1).trans q2
    have qe3 := (b3.block e0 (Array.getElem?_eq_some_iff.1 qe2).1).trans qe2
    have qx3 := (b3.block bx (Array.getElem?_eq_some_iff.1 qx).1).trans qx
    have B3 := B2.trans (b3.mono B2.size)
    have lg2 := (Array.getElem?_eq_some_iff.1 q2).1
    have le2 := (Array.getElem?_eq_some_iff.1 qe2).1
    have lx2 := (Array.getElem?_eq_some_iff.1 qx).1
    have le1 := (Array.getElem?_eq_some_iff.1 qe1).1
    have lg1 := (Array.getElem?_eq_some_iff.1 q1).1
    have HBE := hidn hbe
    have n1 : ¬ be = g := by omega
    have n2 : ¬ be = e0 := by omega
    have n3 : ¬ bx = g := by have := HBX.out; omega
    have n4 : ¬ bx = e0 := by have := HBX.out; omega
    have n5 : ¬ e0 = g := fun e => hge e.symm
    have n6 : ¬ g = e0 := hge
    rw [← hw3, ← hbe]
    have d1 : w3.cell? ⟨g, 1, none⟩ = some (.slice (some ⟨b, off, none⟩) len cap) := cell_of_row _ _ _ _ _ _ q3
    have fd1 : w3.frozen? ⟨g, 1, none⟩ = false := by simp [World.frozen?, q3]
    have d2 : w3.cell? ⟨g, 2, none⟩ = some (.int .i64 at') := cell_of_row _ _ _ _ _ _ q3
    have fd2 : w3.frozen? ⟨g, 2, none⟩ = false := by simp [World.frozen?, q3]
    have x0 : w3.cell? ⟨e0, 0, none⟩ = some (.slice none 0 0) := cell_of_row _ _ _ _ _ _ qe3
    have fx0 : w3.frozen? ⟨e0, 0, none⟩ = false := by simp [World.frozen?, qe3]
    have x1 : w3.cell? ⟨e0, 1, none⟩ = some (.int .i64 0) := cell_of_row _ _ _ _ _ _ qe3
    have fx1 : w3.frozen? ⟨e0, 1, none⟩ = false := by simp [World.frozen?, qe3]
    have x2 : w3.cell? ⟨e0, 2, none⟩ = some (.int .i64 0) := cell_of_row _ _ _ _ _ _ qe3
    have fx2 : w3.frozen? ⟨e0, 2, none⟩ = false := by simp [World.frozen?, qe3]
    have x3 : w3.cell? ⟨e0, 3, none⟩ = some (.int .i64 0) := cell_of_row _ _ _ _ _ _ qe3
    have fx3 : w3.frozen? ⟨e0, 3, none⟩ = false := by simp [World.frozen?, qe3]
    have x4 : w3.cell? ⟨e0, 4, none⟩ = some (.int .i64 0) := cell_of_row _ _ _ _ _ _ qe3
    have fx4 : w3.frozen? ⟨e0, 4, none⟩ = false := by simp [World.frozen?, qe3]
    have z0 : w3.cell? ⟨be, 0, none⟩ = some (.slice la ll lc) := cell_of_row _ _ _ _ _ _ qb3
    have fz0 : w3.frozen? ⟨be, 0, none⟩ = false := by simp [World.frozen?, qb3]
    have z1 : w3.cell? ⟨be, 1, none⟩ = some (.int .i64 at') := cell_of_row _ _ _ _ _ _ qb3
    have fz1 : w3.frozen? ⟨be, 1, none⟩ = false := by simp [World.frozen?, qb3]
    have z2 : w3.cell? ⟨be, 2, none⟩ = some (.int .i64 (n : Int)) := cell_of_row _ _ _ _ _ _ qb3
    have fz2 : w3.frozen? ⟨be, 2, none⟩ = false := by simp [World.frozen?, qb3]
    have z3 : w3.cell? ⟨be, 3, none⟩ = some (.int .i64 t0) := cell_of_row _ _ _ _ _ _ qb3
    have fz3 : w3.frozen? ⟨be, 3, none⟩ = false := by simp [World.frozen?, qb3]
    have z4 : w3.cell? ⟨be, 4, none⟩ = some (.int .i64 t1) := cell_of_row _ _ _ _ _ _ qb3
    have fz4 : w3.frozen? ⟨be, 4, none⟩ = false := by simp [World.frozen?, qb3]
    have m1 : w3.cell? ⟨bx, 1, none⟩ = some (.slice (some ⟨sb, so, none⟩) sl sc) := cell_of_row _ _ _ _ _ _ qx3
    have fm1 : w3.frozen? ⟨bx, 1, none⟩ = false := by simp [World.frozen?, qx3]
    have HB3 := hidn ((hB.below B1).below (b2.trans (b3.mono b2.size)))
    have HW3 := hidn hw3
    clear hw3 hbe y0 y1 keep2 lg2 le2 lx2 le1 lg1
    by_cases hnc : cap = n
    · have hln : len = n := by omega
      subst hnc
      subst hln
      go_wp2_with fail
      obtain ⟨w4, hw4⟩ : ∃ w4, w4 = (w3.setCell ⟨g, 1, none⟩ (.slice (some ⟨b, off, none⟩) 0 0)).setCell ⟨g, 2, none⟩ (.int .i64 (wrap64 (at' + (len : Int)))) := ⟨_, rfl⟩
      rw [← hw4]
      have q4 : w4.heap[g]? = some (.cells #[.bool true, .slice (some ⟨b, off, none⟩) 0 0, .int .i64 (wrap64 (at' + (len : Int))), .int .i64 er] 59 (0, 0)) := by rw [hw4]; exact block_setCell (block_setCell q3 _) _
      have ko : ∀ k, k ≠ g → w4.heap[k]? = w3.heap[k]? := fun k h1 => by rw [hw4, Below.heap_setCell _ ⟨g, 2, none⟩ _ _ h1, Below.heap_setCell _ ⟨g, 1, none⟩ _ _ h1]
      have qe4 := (ko e0 n5).trans qe3
      have qb4 := (ko be n1).trans qb3
      have qx4 := (ko bx n3).trans qx3
      have bz4 : Below 0 w3 w4 := by rw [hw4]; exact (((Below.refl 0 w3).setCell (p := ⟨g, 1, none⟩) (Nat.zero_le _) _).setCell (p := ⟨g, 2, none⟩) (Nat.zero_le _) _)
      have z40 : w4.cell? ⟨be, 0, none⟩ = some (.slice la ll lc) := cell_of_row _ _ _ _ _ _ qb4
      have z41 : w4.cell? ⟨be, 1, none⟩ = some (.int .i64 at') := cell_of_row _ _ _ _ _ _ qb4
      have z42 : w4.cell? ⟨be, 2, none⟩ = some (.int .i64 (len : Int)) := cell_of_row _ _ _ _ _ _ qb4
      have z43 : w4.cell? ⟨be, 3, none⟩ = some (.int .i64 t0) := cell_of_row _ _ _ _ _ _ qb4
      have z44 : w4.cell? ⟨be, 4, none⟩ = some (.int .i64 t1) := cell_of_row _ _ _ _ _ _ qb4
      have m41 : w4.cell? ⟨bx, 1, none⟩ = some (.slice (some ⟨sb, so, none⟩) sl sc) := cell_of_row _ _ _ _ _ _ qx4
      have x40 : w4.cell? ⟨e0, 0, none⟩ = some (.slice none 0 0) := cell_of_row _ _ _ _ _ _ qe4
      have x41 : w4.cell? ⟨e0, 1, none⟩ = some (.int .i64 0) := cell_of_row _ _ _ _ _ _ qe4
      have x42 : w4.cell? ⟨e0, 2, none⟩ = some (.int .i64 0) := cell_of_row _ _ _ _ _ _ qe4
      have x43 : w4.cell? ⟨e0, 3, none⟩ = some (.int .i64 0) := cell_of_row _ _ _ _ _ _ qe4
      have x44 : w4.cell? ⟨e0, 4, none⟩ = some (.int .i64 0) := cell_of_row _ _ _ _ _ _ qe4
      have y40 : w4.frozen? ⟨e0, 0, none⟩ = false := by simp [World.frozen?, qe4]
      have y41 : w4.frozen? ⟨e0, 1, none⟩ = false := by simp [World.frozen?, qe4]
      have y42 : w4.frozen? ⟨e0, 2, none⟩ = false := by simp [World.frozen?, qe4]
      have y43 : w4.frozen? ⟨e0, 3, none⟩ = false := by simp [World.frozen?, qe4]
      have y44 : w4.frozen? ⟨e0, 4, none⟩ = false := by simp [World.frozen?, qe4]
      have HB4 : Hid (Bs w4 (some ⟨b, off, none⟩) 0 (zs.drop len)) := hidn (bs_zero _ (by rw [hB.1]; exact Nat.le_refl _) rfl)
      clear hw4 d1 fd1 d2 fd2 x0 fx0 z0 fz0 x1 fx1 z1 fz1 x2 fx2 z2 fz2 x3 fx3 z3 fz3 x4 fx4 z4 fz4 m1 fm1
      go_region
      go_wp2_with fail
      obtain ⟨W9, hW9⟩ : ∃ W9, W9 = (((((w4.setCell ⟨e0, 0, none⟩ (.slice la ll lc)).setCell ⟨e0, 1, none⟩ (.int .i64 at')).setCell ⟨e0, 2, none⟩ (.int .i64 (len : Int))).setCell ⟨e0, 3, none⟩ (.int .i64 t0)).setCell ⟨e0, 4, none⟩ (.int .i64 t1)).drew := ⟨_, rfl⟩
      rw [← hW9]
      have qz : W9.heap[e0]? = some (.cells #[.slice la ll lc, .int .i64 at', .int .i64 (len : Int), .int .i64 t0, .int .i64 t1] 41 (0, 0)) := by rw [hW9]; exact set5_row qe4 _ _ _ _ _
      have ko9 : ∀ k, k ≠ e0 → W9.heap[k]? = w4.heap[k]? := fun k h1 => by rw [hW9]; exact set5_other h1 _ _ _ _ _
      have bz9 : Below 0 w4 W9 := by rw [hW9]; exact ((((((Below.refl 0 w4).setCell (p := ⟨e0, 0, none⟩) (Nat.zero_le _) _).setCell (p := ⟨e0, 1, none⟩) (Nat.zero_le _) _).setCell (p := ⟨e0, 2, none⟩) (Nat.zero_le _) _).setCell (p := ⟨e0, 3, none⟩) (Nat.zero_le _) _).setCell (p := ⟨e0, 4, none⟩) (Nat.zero_le _) _).drew
      have HF : Hid (NxPost w g zs at' er (.returned (.tuple #[.agg #[.slice la ll lc, .int .i64 at', .int .i64 (len : Int), .int .i64 t0, .int .i64 t1], .slice (some ⟨sb, so, none⟩) sl sc, .bool true])) W9) := hidn (by
        have hk9 : ∀ k, k < w3.heap.size → k ≠ g → k ≠ e0 → W9.heap[k]? = w3.heap[k]? := fun k _ h1 h2 => (ko9 k h2).trans (ko k h1)
        refine ⟨⟨bz9.os.trans (bz4.os.trans B3.os), bz9.tape.trans (bz4.tape.trans B3.tape), bz9.output.trans (bz4.output.trans B3.output), Nat.le_trans B3.size (Nat.le_trans bz4.size bz9.size), fun k hk hne => ?_⟩, .inl ⟨⟨la, ll, lc, ls, some ⟨sb, so, none⟩, sl, sc, sm⟩, len, some ⟨b, off, none⟩, 0, HOK.out, ?_, ⟨?_, hll, ?_, hsc, hscm⟩, ?_, ?_, ?_, ?_, ?_⟩⟩
        · rw [hk9 k (Nat.lt_of_lt_of_le hk B3.size) (fun e => hne (by rw [e])) (by have := HE0.out; omega)]
          exact B3.block k hk
        · rw [HT0.out, HT1.out, HL1.out]
        · exact ls_kept9 (HLs.out.below b3) q3 qe3 hk9
        · exact sm_kept9 (HSm.out.below b3) (hk9 sb (Nat.lt_of_lt_of_le hsb (Nat.le_trans b2.size b3.size)) s1 s2)
        · rw [show zs.length - len = 0 from by rw [hB.1]; omega]
          exact (ko9 g n6).trans q4
        · rw [show zs.length - len = 0 from by rw [hB.1]; omega]
          exact bs_move HB4.out (ko9 b s3)
        · rw [hB.1]; omega
        · exact Nat.zero_le _
        · rw [hB.1]; omega)
      clear hW9 ko9 bz9
      exact bodyPost_ret (v := .tuple #[.agg #[.slice la ll lc, .int .i64 at', .int .i64 (len : Int), .int .i64 t0, .int .i64 t1], .slice (some ⟨sb, so, none⟩) sl sc, .bool true]) (ent_results _ rfl _ _ _ (by kernel_rfl) (by kernel_rfl) (by kernel_rfl) (cell_of_row _ _ _ _ _ _ qz) (cell_of_row _ _ _ _ _ _ qz) (cell_of_row _ _ _ _ _ _ qz) (cell_of_row _ _ _ _ _ _ qz) (cell_of_row _ _ _ _ _ _ qz)) rfl HF.out
    · have hnc2 : ¬ (cap - n = 0) := by omega
      have n7 : n ≤ len := hnl
      have n8 : (0 : Int) ≤ (n : Int) := by omega
      go_wp2_with fail
      obtain ⟨w4, hw4⟩ : ∃ w4, w4 = (w3.setCell ⟨g, 1, none⟩ (.slice (some ⟨b, off + n, none⟩) (len - n) (cap - n))).setCell ⟨g, 2, none⟩ (.int .i64 (wrap64 (at' + (n : Int)))) := ⟨_, rfl⟩
      rw [← hw4]
      have q4 : w4.heap[g]? = some (.cells #[.bool true, .slice (some ⟨b, off + n, none⟩) (len - n) (cap - n), .int .i64 (wrap64 (at' + (n : Int))), .int .i64 er] 59 (0, 0)) := by rw [hw4]; exact block_setCell (block_setCell q3 _) _
      have ko : ∀ k, k ≠ g → w4.heap[k]? = w3.heap[k]? := fun k h1 => by rw [hw4, Below.heap_setCell _ ⟨g, 2, none⟩ _ _ h1, Below.heap_setCell _ ⟨g, 1, none⟩ _ _ h1]
      have qe4 := (ko e0 n5).trans qe3
      have qb4 := (ko be n1).trans qb3
      have qx4 := (ko bx n3).trans qx3
      have bz4 : Below 0 w3 w4 := by rw [hw4]; exact (((Below.refl 0 w3).setCell (p := ⟨g, 1, none⟩) (Nat.zero_le _) _).setCell (p := ⟨g, 2, none⟩) (Nat.zero_le _) _)
      have z40 : w4.cell? ⟨be, 0, none⟩ = some (.slice la ll lc) := cell_of_row _ _ _ _ _ _ qb4
      have z41 : w4.cell? ⟨be, 1, none⟩ = some (.int .i64 at') := cell_of_row _ _ _ _ _ _ qb4
      have z42 : w4.cell? ⟨be, 2, none⟩ = some (.int .i64 (n : Int)) := cell_of_row _ _ _ _ _ _ qb4
      have z43 : w4.cell? ⟨be, 3, none⟩ = some (.int .i64 t0) := cell_of_row _ _ _ _ _ _ qb4
      have z44 : w4.cell? ⟨be, 4, none⟩ = some (.int .i64 t1) := cell_of_row _ _ _ _ _ _ qb4
      have m41 : w4.cell? ⟨bx, 1, none⟩ = some (.slice (some ⟨sb, so, none⟩) sl sc) := cell_of_row _ _ _ _ _ _ qx4
      have x40 : w4.cell? ⟨e0, 0, none⟩ = some (.slice none 0 0) := cell_of_row _ _ _ _ _ _ qe4
      have x41 : w4.cell? ⟨e0, 1, none⟩ = some (.int .i64 0) := cell_of_row _ _ _ _ _ _ qe4
      have x42 : w4.cell? ⟨e0, 2, none⟩ = some (.int .i64 0) := cell_of_row _ _ _ _ _ _ qe4
      have x43 : w4.cell? ⟨e0, 3, none⟩ = some (.int .i64 0) := cell_of_row _ _ _ _ _ _ qe4
      have x44 : w4.cell? ⟨e0, 4, none⟩ = some (.int .i64 0) := cell_of_row _ _ _ _ _ _ qe4
      have y40 : w4.frozen? ⟨e0, 0, none⟩ = false := by simp [World.frozen?, qe4]
      have y41 : w4.frozen? ⟨e0, 1, none⟩ = false := by simp [World.frozen?, qe4]
      have y42 : w4.frozen? ⟨e0, 2, none⟩ = false := by simp [World.frozen?, qe4]
      have y43 : w4.frozen? ⟨e0, 3, none⟩ = false := by simp [World.frozen?, qe4]
      have y44 : w4.frozen? ⟨e0, 4, none⟩ = false := by simp [World.frozen?, qe4]
      have HB4 : Hid (Bs w4 (some ⟨b, off + n, none⟩) (len - n) (zs.drop n)) := hidn (bs_keep HB3.out ko hbg n hnl)
      clear hw4 d1 fd1 d2 fd2 x0 fx0 z0 fz0 x1 fx1 z1 fz1 x2 fx2 z2 fz2 x3 fx3 z3 fz3 x4 fx4 z4 fz4 m1 fm1
      go_region
      go_wp2_with fail
      obtain ⟨W9, hW9⟩ : ∃ W9, W9 = (((((w4.setCell ⟨e0, 0, none⟩ (.slice la ll lc)).setCell ⟨e0, 1, none⟩ (.int .i64 at')).setCell ⟨e0, 2, none⟩ (.int .i64 (n : Int))).setCell ⟨e0, 3, none⟩ (.int .i64 t0)).setCell ⟨e0, 4, none⟩ (.int .i64 t1)).drew := ⟨_, rfl⟩
      rw [← hW9]
      have qz : W9.heap[e0]? = some (.cells #[.slice la ll lc, .int .i64 at', .int .i64 (n : Int), .int .i64 t0, .int .i64 t1] 41 (0, 0)) := by rw [hW9]; exact set5_row qe4 _ _ _ _ _
      have ko9 : ∀ k, k ≠ e0 → W9.heap[k]? = w4.heap[k]? := fun k h1 => by rw [hW9]; exact set5_other h1 _ _ _ _ _
      have bz9 : Below 0 w4 W9 := by rw [hW9]; exact ((((((Below.refl 0 w4).setCell (p := ⟨e0, 0, none⟩) (Nat.zero_le _) _).setCell (p := ⟨e0, 1, none⟩) (Nat.zero_le _) _).setCell (p := ⟨e0, 2, none⟩) (Nat.zero_le _) _).setCell (p := ⟨e0, 3, none⟩) (Nat.zero_le _) _).setCell (p := ⟨e0, 4, none⟩) (Nat.zero_le _) _).drew
      have HF : Hid (NxPost w g zs at' er (.returned (.tuple #[.agg #[.slice la ll lc, .int .i64 at', .int .i64 (n : Int), .int .i64 t0, .int .i64 t1], .slice (some ⟨sb, so, none⟩) sl sc, .bool true])) W9) := hidn (by
        have hk9 : ∀ k, k < w3.heap.size → k ≠ g → k ≠ e0 → W9.heap[k]? = w3.heap[k]? := fun k _ h1 h2 => (ko9 k h2).trans (ko k h1)
        refine ⟨⟨bz9.os.trans (bz4.os.trans B3.os), bz9.tape.trans (bz4.tape.trans B3.tape), bz9.output.trans (bz4.output.trans B3.output), Nat.le_trans B3.size (Nat.le_trans bz4.size bz9.size), fun k hk hne => ?_⟩, .inl ⟨⟨la, ll, lc, ls, some ⟨sb, so, none⟩, sl, sc, sm⟩, n, some ⟨b, off + n, none⟩, cap - n, HOK.out, ?_, ⟨?_, hll, ?_, hsc, hscm⟩, ?_, ?_, ?_, ?_, ?_⟩⟩
        · rw [hk9 k (Nat.lt_of_lt_of_le hk B3.size) (fun e => hne (by rw [e])) (by have := HE0.out; omega)]
          exact B3.block k hk
        · rw [HT0.out, HT1.out, HL1.out]
        · exact ls_kept9 (HLs.out.below b3) q3 qe3 hk9
        · exact sm_kept9 (HSm.out.below b3) (hk9 sb (Nat.lt_of_lt_of_le hsb (Nat.le_trans b2.size b3.size)) s1 s2)
        · rw [show zs.length - n = len - n from by rw [hB.1]]
          exact (ko9 g n6).trans q4
        · rw [show zs.length - n = len - n from by rw [hB.1]]
          exact bs_move HB4.out (ko9 b s3)
        · rw [hB.1]; omega
        · omega
        · rw [hB.1]; omega)
      clear hW9 ko9 bz9
      exact bodyPost_ret (v := .tuple #[.agg #[.slice la ll lc, .int .i64 at', .int .i64 (n : Int), .int .i64 t0, .int .i64 t1], .slice (some ⟨sb, so, none⟩) sl sc, .bool true]) (ent_results _ rfl _ _ _ (by kernel_rfl) (by kernel_rfl) (by kernel_rfl) (cell_of_row _ _ _ _ _ _ qz) (cell_of_row _ _ _ _ _ _ qz) (cell_of_row _ _ _ _ _ _ qz) (cell_of_row _ _ _ _ _ _ qz) (cell_of_row _ _ _ _ _ _ qz)) rfl HF.out
  · obtain ⟨w2, hw2⟩ : ∃ w2, w2 = w1.alloc (.cells #[.slice none 0 0, .slice none 0 0] 55) := ⟨_, rfl⟩
    have b2 : Below w1.heap.size w1 w2 := by rw [hw2]; exact (Below.refl _ w1).alloc (Nat.le_refl _) _
    have B2 := B1.trans (b2.mono B1.size)
    have q2 := (b2.block g (Array.getElem?_eq_some_iff.1 q1).1).trans q1
    have qe2 := (b2.block e0 (Array.getElem?_eq_some_iff.1 qe1).1).trans qe1
    have d1 : (w1.alloc (.cells #[.slice none 0 0, .slice none 0 0] 55)).cell? ⟨g, 1, none⟩ = some (.slice (some ⟨b, off, none⟩) len cap) := by rw [← hw2]; exact cell_of_row _ _ _ _ _ _ q2
    have fd1 : (w1.alloc (.cells #[.slice none 0 0, .slice none 0 0] 55)).frozen? ⟨g, 1, none⟩ = false := by rw [← hw2]; simp [World.frozen?, q2]
    have d3 : (w1.alloc (.cells #[.slice none 0 0, .slice none 0 0] 55)).cell? ⟨g, 3, none⟩ = some (.int .i64 er) := by rw [← hw2]; exact cell_of_row _ _ _ _ _ _ q2
    have fd3 : (w1.alloc (.cells #[.slice none 0 0, .slice none 0 0] 55)).frozen? ⟨g, 3, none⟩ = false := by rw [← hw2]; simp [World.frozen?, q2]
    have x0 : (w1.alloc (.cells #[.slice none 0 0, .slice none 0 0] 55)).cell? ⟨e0, 0, none⟩ = some (.slice none 0 0) := by rw [← hw2]; exact cell_of_row _ _ _ _ _ _ qe2
    have fx0 : (w1.alloc (.cells #[.slice none 0 0, .slice none 0 0] 55)).frozen? ⟨e0, 0, none⟩ = false := by rw [← hw2]; simp [World.frozen?, qe2]
    have x1 : (w1.alloc (.cells #[.slice none 0 0, .slice none 0 0] 55)).cell? ⟨e0, 1, none⟩ = some (.int .i64 0) := by rw [← hw2]; exact cell_of_row _ _ _ _ _ _ qe2
    have fx1 : (w1.alloc (.cells #[.slice none 0 0, .slice none 0 0] 55)).frozen? ⟨e0, 1, none⟩ = false := by rw [← hw2]; simp [World.frozen?, qe2]
    have x2 : (w1.alloc (.cells #[.slice none 0 0, .slice none 0 0] 55)).cell? ⟨e0, 2, none⟩ = some (.int .i64 0) := by rw [← hw2]; exact cell_of_row _ _ _ _ _ _ qe2
    have fx2 : (w1.alloc (.cells #[.slice none 0 0, .slice none 0 0] 55)).frozen? ⟨e0, 2, none⟩ = false := by rw [← hw2]; simp [World.frozen?, qe2]
    have x3 : (w1.alloc (.cells #[.slice none 0 0, .slice none 0 0] 55)).cell? ⟨e0, 3, none⟩ = some (.int .i64 0) := by rw [← hw2]; exact cell_of_row _ _ _ _ _ _ qe2
    have fx3 : (w1.alloc (.cells #[.slice none 0 0, .slice none 0 0] 55)).frozen? ⟨e0, 3, none⟩ = false := by rw [← hw2]; simp [World.frozen?, qe2]
    have x4 : (w1.alloc (.cells #[.slice none 0 0, .slice none 0 0] 55)).cell? ⟨e0, 4, none⟩ = some (.int .i64 0) := by rw [← hw2]; exact cell_of_row _ _ _ _ _ _ qe2
    have fx4 : (w1.alloc (.cells #[.slice none 0 0, .slice none 0 0] 55)).frozen? ⟨e0, 4, none⟩ = false := by rw [← hw2]; simp [World.frozen?, qe2]
    have hge2 : ¬ e0 = g := fun e => hge e.symm
    have hge3 : ¬ g = e0 := hge
    have HW2 := hidn hw2
    have HNO := hidn hno
    clear hw2 hno
    go_wp2_with (fail)
    rw [← HW2.out]
    obtain ⟨W9, hW9⟩ : ∃ W9, W9 = ((((((w2.setCell ⟨g, 1, none⟩ (.slice none 0 0)).setCell ⟨g, 3, none⟩ (.int .i64 5)).setCell ⟨e0, 0, none⟩ (.slice none 0 0)).setCell ⟨e0, 1, none⟩ (.int .i64 0)).setCell ⟨e0, 2, none⟩ (.int .i64 0)).setCell ⟨e0, 3, none⟩ (.int .i64 0)).setCell ⟨e0, 4, none⟩ (.int .i64 0) := ⟨_, rfl⟩
    rw [← hW9]
    have qg3 := block_setCell (i := 3) (block_setCell (i := 1) q2 (.slice none 0 0)) (.int .i64 5)
    have qe3 : ((w2.setCell ⟨g, 1, none⟩ (.slice none 0 0)).setCell ⟨g, 3, none⟩ (.int .i64 5)).heap[e0]? = some (.cells #[.slice none 0 0, .int .i64 0, .int .i64 0, .int .i64 0, .int .i64 0] 41 (0, 0)) := by
      rw [Below.heap_setCell _ ⟨g, 3, none⟩ _ _ hge2, Below.heap_setCell _ ⟨g, 1, none⟩ _ _ hge2]; exact qe2
    have qz : W9.heap[e0]? = some (.cells #[.slice none 0 0, .int .i64 0, .int .i64 0, .int .i64 0, .int .i64 0] 41 (0, 0)) := by rw [hW9]; exact set5_row qe3 _ _ _ _ _
    have qgz : W9.heap[g]? = some (.cells #[.bool true, .slice none 0 0, .int .i64 at', .int .i64 5] 59 (0, 0)) := by rw [hW9, set5_other hge]; exact qg3
    have hkp : ∀ k, k ≠ g → k ≠ e0 → W9.heap[k]? = w2.heap[k]? := fun k h1 h2 => by rw [hW9, set5_other h2, Below.heap_setCell _ ⟨g, 3, none⟩ _ _ h1, Below.heap_setCell _ ⟨g, 1, none⟩ _ _ h1]
    have bz : Below 0 w2 W9 := by rw [hW9]; exact ((((((((Below.refl 0 w2).setCell (p := ⟨g, 1, none⟩) (Nat.zero_le _) _).setCell (p := ⟨g, 3, none⟩) (Nat.zero_le _) _).setCell (p := ⟨e0, 0, none⟩) (Nat.zero_le _) _).setCell (p := ⟨e0, 1, none⟩) (Nat.zero_le _) _).setCell (p := ⟨e0, 2, none⟩) (Nat.zero_le _) _).setCell (p := ⟨e0, 3, none⟩) (Nat.zero_le _) _).setCell (p := ⟨e0, 4, none⟩) (Nat.zero_le _) _)
    have HF : Hid (NxPost w g zs at' er (.returned (.tuple #[zEnt, .slice none 0 0, .bool false])) W9) := hidn (by
      refine ⟨⟨bz.os.trans B2.os, bz.tape.trans B2.tape, bz.output.trans B2.output, Nat.le_trans B2.size bz.size, fun k hk hne => ?_⟩, .inr ⟨HNO.out, rfl, qgz, Bs.nil _, Nat.le_refl _, Nat.zero_le _, Nat.zero_le _⟩⟩
      rw [hkp k (fun e => hne (by rw [e])) (by have := HE0.out; omega)]
      exact B2.block k hk)
    clear hW9 qg3 qe3 hkp bz
    exact bodyPost_ret (v := .tuple #[zEnt, .slice none 0 0, .bool false]) (ent_results _ rfl _ _ _ (by kernel_rfl) (by kernel_rfl) (by kernel_rfl) (cell_of_row _ _ _ _ _ _ qz) (cell_of_row _ _ _ _ _ _ qz) (cell_of_row _ _ _ _ _ _ qz) (cell_of_row _ _ _ _ _ _ qz) (cell_of_row _ _ _ _ _ _ qz)) rfl HF.out
end Go.Proofs.YtcjhkpcnhnnjbaaDoor
