/- merge: the heap's push at any size. -/
import Derived.Test.YtccjgciknaooaaaHhC
namespace Go.Proofs.Ytccjgciknaooaaa
open Go.RowKit Go.Joins
set_option linter.unusedVariables false

theorem above_any (p q : Nat) (w : World) (h0 : 0 < p) (hm : p ≤ 1000) (hq : q = (p - 1) / 2) : Calls Try.prog 38 #[.int .i64 (p : Int)] w fun e w' => e = .returned (.int .i64 (q : Int)) ∧ w' = w := by
  obtain ⟨k, rfl⟩ : ∃ k, p = k + 1 := ⟨p - 1, by omega⟩
  have e : (k : Int).tdiv 2 = (q : Int) := by
    rw [Int.tdiv_eq_ediv_of_nonneg (by omega)]
    omega
  have e2 : IntKind.i64.wrap (q : Int) = (q : Int) := by unfold IntKind.wrap IntKind.bits IntKind.signed; simp; omega
  have e3 : (k : Int) / 2 = (q : Int) := by omega
  have HQ : Hid (q = (k + 1 - 1) / 2) := hidn hq
  clear hq
  go_enter Try.func38, Try.ntmps38
  go_wp2_with fail
  go_ret
  exact ⟨rfl, rfl⟩

theorem app_runG {B : Nat} {v : Value} {rs : List Run} {W : World} (ho : W.ownsRow B 70 3 v rs.length (rvs rs)) (hB : B ≤ W.heap.size) (hn : rs.length ≤ 1000) (r : Run) (ad : Addr) (hc : ∀ j u, (rvs [r])[j]? = some u → W.cell? (ad.add j) = some u) :
    ∃ g c' W', (Builtin.append_ #[65, 65] 65 #[v, .slice (some ad) 1 1]).run Try.prog W = .ok (.slice (some ⟨g, 0, none⟩) (rs.length + 1) c') W' ∧ W'.ownsRow B 70 3 (.slice (some ⟨g, 0, none⟩) (rs.length + 1) c') (rs.length + 1) (rvs (rs ++ [r])) ∧ W.grownBy W' v.ownBlock ∧ (v.ownBlock = some g ∨ W.heap.size ≤ g) := by
  obtain ⟨i0, hi, hz0, hz1, hz2⟩ := info_parts zRun
  obtain ⟨g, c', W', hr, ho', hg, h4⟩ := appN (P := Try.prog) W 65 65 70 i0 (.agg #[.slice none 0 0, .int .i64 0, .int .i64 0]) 3 40 Try.underlying65 hi hz0 hz1 hz2 rfl (by decide) v rs.length (rvs rs) B ho hB ad 1 1 (by decide) (rvs [r]) rfl hc (one_rvs [r]) (by unfold maxLen; omega) (by omega)
  exact ⟨g, c', W', hr, by rw [rvs_app]; exact ho', hg, h4⟩

/-- What push leaves at any size. -/
def PushQ (T : Run → Int) (B : Nat) (W : World) (h : Nat) (v : Value) (rs : List Run) (e : Ending) (W' : World) : Prop :=
  e = .returned (.tuple #[]) ∧ ∃ (g c : Nat) (rs' : List Run), rs'.Perm rs ∧ Heap T rs' ∧ HpI B W' h (.slice (some ⟨g, 0, none⟩) rs'.length c) rs' ∧ Below B W W' ∧ ∀ k, k < W.heap.size → k ≠ h → some k ≠ v.ownBlock → W'.heap[k]? = W.heap[k]?

set_option maxHeartbeats 8000000 in
set_option maxRecDepth 100000 in
theorem push_any (T : Run → Int) (B h : Nat) (va : Option Addr) (n c : Nat) (rs : List Run) (bb ob l1 c1 : Nat) (k1 p1 : Int) (w : World) (hn : rs.length = n) (hm : n ≤ 900) (hx : HpI B w h (.slice va n c) rs) (hB : B ≤ w.heap.size) (hX : Heap T rs) (hR : RunsAt T B w (rs ++ [(⟨some ⟨bb, ob, none⟩, l1, c1, k1, p1⟩ : Run)])) :
    Calls Try.prog 31 #[.pointer (some ⟨h, 0, none⟩), .agg #[.slice (some ⟨bb, ob, none⟩) l1 c1, .int .i64 k1, .int .i64 p1]] w (PushQ T B w h (.slice va n c) (rs ++ [(⟨some ⟨bb, ob, none⟩, l1, c1, k1, p1⟩ : Run)])) := by
  obtain ⟨hh, ho, hBh⟩ := hx
  rw [hn] at ho
  have hhs : h < w.heap.size := (Array.getElem?_eq_some_iff.1 hh).1
  obtain ⟨w1, hw1⟩ : ∃ w1, w1 = w.alloc (.cells #[.slice (some ⟨bb, ob, none⟩) l1 c1, .int .i64 k1, .int .i64 p1] 70) := ⟨_, rfl⟩
  have b1 : Below w.heap.size w w1 := by rw [hw1]; exact (Below.refl _ w).alloc (Nat.le_refl _) _
  have s1 : w1.heap.size = w.heap.size + 1 := by rw [hw1]; simp
  have qb : w1.heap[w.heap.size]? = some (.cells #[.slice (some ⟨bb, ob, none⟩) l1 c1, .int .i64 k1, .int .i64 p1] 70 (0, 0)) := by rw [hw1]; exact heap_alloc_new w _
  obtain ⟨w2, hw2⟩ : ∃ w2, w2 = w1.drew.alloc (.cells #[.slice (some ⟨bb, ob, none⟩) l1 c1, .int .i64 k1, .int .i64 p1] 70) := ⟨_, rfl⟩
  have b12 : Below w1.heap.size w1 w2 := by rw [hw2]; exact ((Below.refl _ w1).drew).alloc (Nat.le_refl _) _
  have b2 : Below w.heap.size w w2 := b1.trans (b12.mono (by omega))
  have qn : w2.heap[w1.heap.size]? = some (.cells #[.slice (some ⟨bb, ob, none⟩) l1 c1, .int .i64 k1, .int .i64 p1] 70 (0, 0)) := by rw [hw2]; exact heap_alloc_new w1.drew _
  have qb2 : w2.heap[w.heap.size]? = some (.cells #[.slice (some ⟨bb, ob, none⟩) l1 c1, .int .i64 k1, .int .i64 p1] 70 (0, 0)) := (b12.block _ (by omega)).trans qb
  have hh2 : HpB w2 h (.slice va n c) := (b2.block h hhs).trans hh
  have ho2 : w2.ownsRow B 70 3 (.slice va n c) rs.length (rvs rs) := by rw [hn]; exact own_skip ho b2
  obtain ⟨g3, c3, w3, hr3, ho3, hg3, hgg⟩ := app_runG ho2 (Nat.le_trans hB b2.size) (by omega) (⟨some ⟨bb, ob, none⟩, l1, c1, k1, p1⟩ : Run) ⟨w1.heap.size, 0, none⟩ (fun j u hj => by
    have hjl : j < 3 := (List.getElem?_eq_some_iff.1 hj).1
    rw [add_none, Nat.zero_add, cell_of_row _ _ _ _ _ _ qn]
    match j, hjl, hj with
    | 0, _, hj => cases hj; rfl
    | 1, _, hj => cases hj; rfl
    | 2, _, hj => cases hj; rfl)
  rw [hn] at hr3 ho3
  have hne : ∀ {k : Nat} {cs : Array Value} {t : TypeId}, w2.heap[k]? = some (.cells cs t (0, 0)) → t ≠ 70 → some k ≠ ((.slice va n c) : Value).ownBlock := fun {k cs t} hk ht e => by
    rcases (own_skip ho b2).2 with ⟨h1, _⟩ | ⟨g', _, cur, h1, _, h2, _⟩
    · rw [h1] at e; cases e
    · rw [h1] at e
      have e2 : k = g' := by simpa [Value.ownBlock] using e
      subst e2
      rw [hk] at h2
      cases h2
      exact ht rfl
  have hlt : ∀ k, ((.slice va n c) : Value).ownBlock = some k → k < w.heap.size := fun k hk => (ho.lt k hk).2
  have hh3 : HpB w3 h (.slice va n c) := (hg3.block h (Array.getElem?_eq_some_iff.1 hh2).1 (hne hh2 (by decide))).trans hh2
  have qb3 : w3.heap[w.heap.size]? = some (.cells #[.slice (some ⟨bb, ob, none⟩) l1 c1, .int .i64 k1, .int .i64 p1] 70 (0, 0)) := (hg3.block _ (Array.getElem?_eq_some_iff.1 qb2).1 (fun e => by have := hlt _ e.symm; omega)).trans qb2
  have b3 : Below B w w3 := (b2.mono hB).trans ((Below.refl B w2).grown hg3 (Nat.le_trans hB b2.size) (fun k hk => (ho.lt k hk).1))
  have h30 : w3.cell? ⟨h, 0, none⟩ = some (.slice va n c) := cell_of_row w3 h 0 _ _ _ hh3
  have f30 := unfrozen_of_block hh3 0
  obtain ⟨w4, hw4⟩ : ∃ w4, w4 = w3.setCell ⟨h, 0, none⟩ (.slice (some ⟨g3, 0, none⟩) (n + 1) c3) := ⟨_, rfl⟩
  have hh4 : HpB w4 h (.slice (some ⟨g3, 0, none⟩) (n + 1) c3) := by rw [hw4]; exact block_setCell hh3 _
  have k4 : ∀ k, k ≠ h → w4.heap[k]? = w3.heap[k]? := fun k hk => by rw [hw4]; exact Below.heap_setCell _ ⟨h, 0, none⟩ _ _ hk
  have qb4 := (k4 _ (by omega)).trans qb3
  have ho4 : w4.ownsRow B 70 3 (.slice (some ⟨g3, 0, none⟩) (n + 1) c3) (n + 1) (rvs (rs ++ [(⟨some ⟨bb, ob, none⟩, l1, c1, k1, p1⟩ : Run)])) := own_stay ho3 (fun k hk => k4 k (fun e => by
    subst e
    obtain ⟨_, _, cur, hcur⟩ := own_blk ho3
    have e2 : g3 = k := by simpa [Value.ownBlock] using hk
    subst e2
    rw [show w3.heap[g3]? = _ from hh3] at hcur
    cases hcur))
  have b4 : Below B w w4 := by rw [hw4]; exact b3.setCell (p := ⟨h, 0, none⟩) hBh _
  have h40 : w4.cell? ⟨h, 0, none⟩ = some (.slice (some ⟨g3, 0, none⟩) (n + 1) c3) := cell_of_row w4 h 0 _ _ _ hh4
  have hh1 : w1.drew.cell? ⟨h, 0, none⟩ = some (.slice va n c) := cell_of_row w1.drew h 0 _ _ _ (show w1.drew.heap[h]? = _ from (b1.block h hhs).trans hh)
  have hh20 : w2.cell? ⟨h, 0, none⟩ = some (.slice va n c) := cell_of_row w2 h 0 _ _ _ hh2
  have HBG : Hid (B ≤ g3) := hidn ((own_blk ho4).1)
  have HB4 := hidn b4
  have HBS : Hid (B ≤ w4.heap.size) := hidn (Nat.le_trans hB (by have := b4.size; exact this))
  have HW1 := hidn hw1
  have HBH := hidn hBh
  have HW2 := hidn hw2
  have HW4 := hidn hw4
  have HSZ : Hid (w.heap.size ≤ w4.heap.size) := hidn (by rw [hw4]; exact Nat.le_trans b2.size (by have := ((Below.refl 0 w2).grown hg3 (Nat.zero_le _) (fun k hk => Nat.zero_le _)).size; simpa [World.setCell] using this))
  have HG3 : Hid (∀ k, k < w.heap.size → some k ≠ ((.slice va n c) : Value).ownBlock → k ≠ g3) := hidn (fun k hk h1 e => by
    subst e
    rcases hgg with h5 | h5
    · exact h1 h5.symm
    · have := b2.size; omega)
  have HFR : Hid (∀ k, k < w.heap.size → k ≠ h → some k ≠ ((.slice va n c) : Value).ownBlock → w4.heap[k]? = w.heap[k]?) := hidn (fun k hk h1 h2 => (k4 k h1).trans ((hg3.block k (Nat.lt_of_lt_of_le hk b2.size) h2).trans (b2.block k hk)))
  have HS0 : Hid (HpS B h g3 (n + 1) c3 w4 (rs ++ [(⟨some ⟨bb, ob, none⟩, l1, c1, k1, p1⟩ : Run)]) w4) := hidn ⟨by simp [hn], hh4, ho4, Kr.refl _ _⟩
  have HU0 : Hid (HeapU T (rs ++ [(⟨some ⟨bb, ob, none⟩, l1, c1, k1, p1⟩ : Run)]) n) := hidn (by have := heap_more hX (⟨some ⟨bb, ob, none⟩, l1, c1, k1, p1⟩ : Run); rwa [hn] at this)
  have HRN0 : Hid (RunsAt T B w4 (rs ++ [(⟨some ⟨bb, ob, none⟩, l1, c1, k1, p1⟩ : Run)])) := hidn (hR.below b4)
  clear hw1 hw2 hw4 ho3 k4 hh ho hne hlt hg3 b3 b12 b2 hh2 hh3 hgg ho2 hR hX hh4 ho4 b4 s1
  go_enter Try.func31, Try.ntmps31
  go_wp2_with fail
  rw [← HW1.out]
  refine wp_region_noPanic ?_
  refine wp_region_held_drew (S := fun w' => w'.heap[w.heap.size]? = some (.cells #[.slice (some ⟨bb, ob, none⟩) l1 c1, .int .i64 k1, .int .i64 p1] 70 (0, 0))) (by kernel_rfl) (qb) (fun hHeld => ?_)
  refine drawn_take (i := 0) (v := .pointer (some ⟨h, 0, none⟩)) (some 5) rfl rfl (by kernel_rfl) (by kernel_rfl) (by kernel_rfl) (fun _ _ _ h => h) (Or.inl ⟨by kernel_rfl, fun wq hw => by go_simp⟩) hHeld ?_
  simp only [Act.put, List.setIfInBounds_toArray, List.set_cons_succ, List.set_cons_zero]
  refine drawn_take (i := 1) (v := .pointer (some ⟨h, 0, none⟩)) (some 6) rfl rfl (by kernel_rfl) (by kernel_rfl) (by kernel_rfl) (fun _ _ _ h => h) (Or.inl ⟨by kernel_rfl, fun wq hw => by go_simp⟩) hHeld ?_
  simp only [Act.put, List.setIfInBounds_toArray, List.set_cons_succ, List.set_cons_zero]
  refine drawn_take (i := 2) (v := .pointer (some ⟨h, 0, none⟩)) (some 7) rfl rfl (by kernel_rfl) (by kernel_rfl) (by kernel_rfl) (fun _ _ _ h => h) (Or.inl ⟨by kernel_rfl, fun wq hw => by go_simp⟩) hHeld ?_
  simp only [Act.put, List.setIfInBounds_toArray, List.set_cons_succ, List.set_cons_zero]
  refine drawn_take (i := 3) (v := .pointer (some ⟨h, 0, none⟩)) (some 8) rfl rfl (by kernel_rfl) (by kernel_rfl) (by kernel_rfl) (fun _ _ _ h => h) (Or.inl ⟨by kernel_rfl, fun wq hw => by go_simp⟩) hHeld ?_
  simp only [Act.put, List.setIfInBounds_toArray, List.set_cons_succ, List.set_cons_zero]
  refine drawn_take (i := 5) (v := .agg #[.slice (some ⟨bb, ob, none⟩) l1 c1, .int .i64 k1, .int .i64 p1]) (some 10) rfl rfl (by kernel_rfl) (by kernel_rfl) (by kernel_rfl) (fun _ _ _ h => h) (Or.inl ⟨by kernel_rfl, fun wq hw => by have q7 := cell_of_row _ _ 0 _ _ _ hw; have q8 := cell_of_row _ _ 1 _ _ _ hw; have q9 := cell_of_row _ _ 2 _ _ _ hw; go_simp⟩) hHeld ?_
  simp only [Act.put, List.setIfInBounds_toArray, List.set_cons_succ, List.set_cons_zero]
  refine wpAnyH_ready (rs := [4, 6]) (by kernel_rfl) (by simp) ?_
  refine rdy_val (i := 4) rfl rfl (some 9) rfl (.slice va n c) (w1.drew) (by have q9 := hh1; go_simp) qb (fun hHeld => ?_) (rdy_val (i := 6) rfl rfl (some 11) rfl (.slice (some ⟨w1.heap.size, 0, none⟩) 1 1) w2 (by rw [HW2.out]; go_simp) qb2 (fun hHeld => ?_) rdy_nil)
  · simp only [Act.put, List.setIfInBounds_toArray, List.set_cons_succ, List.set_cons_zero]
    refine wpAnyH_ready (rs := [6]) (by kernel_rfl) (by simp) ?_
    refine rdy_val (i := 6) rfl rfl (some 11) rfl (.slice (some ⟨w1.heap.size, 0, none⟩) 1 1) (w2) (by rw [HW2.out]; go_simp) (qb2) (fun hHeld => ?_) rdy_nil
    simp only [Act.put, List.setIfInBounds_toArray, List.set_cons_succ, List.set_cons_zero]
    refine wpAnyH_ready (rs := [7]) (by kernel_rfl) (by simp) ?_
    refine rdy_val (i := 7) rfl rfl (some 12) rfl (.slice (some ⟨g3, 0, none⟩) (n + 1) c3) (w3) (appRun_exec (x := .tmp 9) (y := .tmp 11) (by kernel_rfl) (by kernel_rfl) (by kernel_rfl) hr3) (qb3) (fun hHeld => ?_) rdy_nil
    simp only [Act.put, List.setIfInBounds_toArray, List.set_cons_succ, List.set_cons_zero]
    refine drawn_take (i := 8) (v := .pointer (some ⟨h, 0, none⟩)) (some 13) rfl rfl (by kernel_rfl) (by kernel_rfl) (by kernel_rfl) (fun _ _ _ h => h) (Or.inl ⟨by kernel_rfl, fun wq hw => by go_simp⟩) hHeld ?_
    simp only [Act.put, List.setIfInBounds_toArray, List.set_cons_succ, List.set_cons_zero]
    refine drawn_take (i := 9) (v := .pointer (some ⟨h, 0, none⟩)) (some 14) rfl rfl (by kernel_rfl) (by kernel_rfl) (by kernel_rfl) (fun _ _ _ h => h) (Or.inl ⟨by kernel_rfl, fun wq hw => by go_simp⟩) hHeld ?_
    simp only [Act.put, List.setIfInBounds_toArray, List.set_cons_succ, List.set_cons_zero]
    refine wpAnyH_ready (rs := [10]) (by kernel_rfl) (by simp) ?_
    refine rdy_unit (i := 10) rfl rfl none rfl (w4) (by rw [HW4.out]; go_simp) (qb4) (fun hHeld => ?_) rdy_nil
    simp only [Act.put]
    refine wpAnyH_done (by kernel_rfl) ?_ _
    refine NoPanic.normal ?_
    clear hHeld
    clear hh1 hh20 h30 f30 qb qb2 qb3 qb4 hHeld hr3
    go_wp2_with fail
    go_loopw [4] (fun av wr => ∃ (p : Nat) (r1 : List Run), av = .int .i64 (p : Int) ∧ p ≤ n ∧ Hid (r1.Perm (rs ++ [(⟨some ⟨bb, ob, none⟩, l1, c1, k1, p1⟩ : Run)])) ∧ Hid (HeapU T r1 p) ∧ Hid (HpS B h g3 (n + 1) c3 w4 r1 wr)) (fun av _ => (intOf av).toNat)
    case atStart => exact ⟨n, rs ++ [(⟨some ⟨bb, ob, none⟩, l1, c1, k1, p1⟩ : Run)], by first | rfl | simp, Nat.le_refl _, hidn (List.Perm.refl _), HU0, HS0⟩
    case round =>
      obtain ⟨p, r1, rfl, hpn, HP, HX, H2⟩ := hrel
      obtain ⟨w5, hw5⟩ : ∃ w5, w5 = wr := ⟨_, rfl⟩
      subst hw5
      by_cases hp0 : p = 0
      · subst hp0
        have HHP : Hid (Heap T r1) := hidn (up_end HX.out (.inl rfl))
        go_wp2_with fail
        refine wp_region_noPanic ?_
        refine wp_region_held_drew (S := fun w' => Below w5.heap.size w5 w') (by kernel_rfl) ((Below.refl _ w5).drew) (fun hHeld => ?_)
        refine drawn_take (i := 0) (v := .int .i64 0) (some 21) rfl rfl (by kernel_rfl) (by kernel_rfl) (by kernel_rfl) (fun _ _ _ h => h) (Or.inl ⟨by kernel_rfl, fun wq hw => by go_simp⟩) hHeld ?_
        simp only [Act.put, List.setIfInBounds_toArray, List.set_cons_succ, List.set_cons_zero]
        refine drawn_take (i := 1) (v := .bool false) (some 22) rfl rfl (by kernel_rfl) (by kernel_rfl) (by kernel_rfl) (fun _ _ _ h => h) (Or.inl ⟨by kernel_rfl, fun wq hw => by go_simp <;> omega⟩) hHeld ?_
        simp only [Act.put, List.setIfInBounds_toArray, List.set_cons_succ, List.set_cons_zero]
        refine drawn_take (i := 2) (v := .bool false) (some 23) rfl rfl (by kernel_rfl) (by kernel_rfl) (by kernel_rfl) (fun _ _ _ h => h) (Or.inl ⟨by kernel_rfl, fun wq hw => by go_simp⟩) hHeld ?_
        simp only [Act.put, List.setIfInBounds_toArray, List.set_cons_succ, List.set_cons_zero]
        refine drawn_take (i := 3) (v := undef) (some 24) rfl rfl (by kernel_rfl) (by kernel_rfl) (by kernel_rfl) (fun _ _ _ h => h) (Or.inr ⟨by kernel_rfl, rfl⟩) hHeld ?_
        simp only [Act.put, List.setIfInBounds_toArray, List.set_cons_succ, List.set_cons_zero]
        refine drawn_take (i := 4) (v := undef) (some 25) rfl rfl (by kernel_rfl) (by kernel_rfl) (by kernel_rfl) (fun _ _ _ h => h) (Or.inr ⟨by kernel_rfl, rfl⟩) hHeld ?_
        simp only [Act.put, List.setIfInBounds_toArray, List.set_cons_succ, List.set_cons_zero]
        refine drawn_take (i := 5) (v := undef) (some 26) rfl rfl (by kernel_rfl) (by kernel_rfl) (by kernel_rfl) (fun _ _ _ h => h) (Or.inr ⟨by kernel_rfl, rfl⟩) hHeld ?_
        simp only [Act.put, List.setIfInBounds_toArray, List.set_cons_succ, List.set_cons_zero]
        refine drawn_take (i := 6) (v := undef) (some 27) rfl rfl (by kernel_rfl) (by kernel_rfl) (by kernel_rfl) (fun _ _ _ h => h) (Or.inr ⟨by kernel_rfl, rfl⟩) hHeld ?_
        simp only [Act.put, List.setIfInBounds_toArray, List.set_cons_succ, List.set_cons_zero]
        refine drawn_take (i := 7) (v := undef) (some 28) rfl rfl (by kernel_rfl) (by kernel_rfl) (by kernel_rfl) (fun _ _ _ h => h) (Or.inr ⟨by kernel_rfl, rfl⟩) hHeld ?_
        simp only [Act.put, List.setIfInBounds_toArray, List.set_cons_succ, List.set_cons_zero]
        refine drawn_take (i := 8) (v := undef) (some 29) rfl rfl (by kernel_rfl) (by kernel_rfl) (by kernel_rfl) (fun _ _ _ h => h) (Or.inr ⟨by kernel_rfl, rfl⟩) hHeld ?_
        simp only [Act.put, List.setIfInBounds_toArray, List.set_cons_succ, List.set_cons_zero]
        refine drawn_take (i := 9) (v := undef) (some 30) rfl rfl (by kernel_rfl) (by kernel_rfl) (by kernel_rfl) (fun _ _ _ h => h) (Or.inr ⟨by kernel_rfl, rfl⟩) hHeld ?_
        simp only [Act.put, List.setIfInBounds_toArray, List.set_cons_succ, List.set_cons_zero]
        refine drawn_take (i := 10) (v := undef) (some 31) rfl rfl (by kernel_rfl) (by kernel_rfl) (by kernel_rfl) (fun _ _ _ h => h) (Or.inr ⟨by kernel_rfl, rfl⟩) hHeld ?_
        simp only [Act.put, List.setIfInBounds_toArray, List.set_cons_succ, List.set_cons_zero]
        refine drawn_take (i := 11) (v := undef) (some 32) rfl rfl (by kernel_rfl) (by kernel_rfl) (by kernel_rfl) (fun _ _ _ h => h) (Or.inr ⟨by kernel_rfl, rfl⟩) hHeld ?_
        simp only [Act.put, List.setIfInBounds_toArray, List.set_cons_succ, List.set_cons_zero]
        refine drawn_take (i := 12) (v := undef) (some 33) rfl rfl (by kernel_rfl) (by kernel_rfl) (by kernel_rfl) (fun _ _ _ h => h) (Or.inr ⟨by kernel_rfl, rfl⟩) hHeld ?_
        simp only [Act.put, List.setIfInBounds_toArray, List.set_cons_succ, List.set_cons_zero]
        refine drawn_take (i := 13) (v := undef) (some 34) rfl rfl (by kernel_rfl) (by kernel_rfl) (by kernel_rfl) (fun _ _ _ h => h) (Or.inr ⟨by kernel_rfl, rfl⟩) hHeld ?_
        simp only [Act.put, List.setIfInBounds_toArray, List.set_cons_succ, List.set_cons_zero]
        refine drawn_take (i := 14) (v := undef) (some 35) rfl rfl (by kernel_rfl) (by kernel_rfl) (by kernel_rfl) (fun _ _ _ h => h) (Or.inr ⟨by kernel_rfl, rfl⟩) hHeld ?_
        simp only [Act.put, List.setIfInBounds_toArray, List.set_cons_succ, List.set_cons_zero]
        refine drawn_take (i := 15) (v := undef) (some 36) rfl rfl (by kernel_rfl) (by kernel_rfl) (by kernel_rfl) (fun _ _ _ h => h) (Or.inr ⟨by kernel_rfl, rfl⟩) hHeld ?_
        simp only [Act.put, List.setIfInBounds_toArray, List.set_cons_succ, List.set_cons_zero]
        refine drawn_take (i := 16) (v := undef) (some 37) rfl rfl (by kernel_rfl) (by kernel_rfl) (by kernel_rfl) (fun _ _ _ h => h) (Or.inr ⟨by kernel_rfl, rfl⟩) hHeld ?_
        simp only [Act.put, List.setIfInBounds_toArray, List.set_cons_succ, List.set_cons_zero]
        refine drawn_take (i := 17) (v := undef) (some 38) rfl rfl (by kernel_rfl) (by kernel_rfl) (by kernel_rfl) (fun _ _ _ h => h) (Or.inr ⟨by kernel_rfl, rfl⟩) hHeld ?_
        simp only [Act.put, List.setIfInBounds_toArray, List.set_cons_succ, List.set_cons_zero]
        refine drawn_take (i := 18) (v := undef) (some 39) rfl rfl (by kernel_rfl) (by kernel_rfl) (by kernel_rfl) (fun _ _ _ h => h) (Or.inr ⟨by kernel_rfl, rfl⟩) hHeld ?_
        simp only [Act.put, List.setIfInBounds_toArray, List.set_cons_succ, List.set_cons_zero]
        refine drawn_take (i := 19) (v := undef) (some 40) rfl rfl (by kernel_rfl) (by kernel_rfl) (by kernel_rfl) (fun _ _ _ h => h) (Or.inr ⟨by kernel_rfl, rfl⟩) hHeld ?_
        simp only [Act.put, List.setIfInBounds_toArray, List.set_cons_succ, List.set_cons_zero]
        refine drawn_take (i := 20) (v := undef) (some 41) rfl rfl (by kernel_rfl) (by kernel_rfl) (by kernel_rfl) (fun _ _ _ h => h) (Or.inr ⟨by kernel_rfl, rfl⟩) hHeld ?_
        simp only [Act.put, List.setIfInBounds_toArray, List.set_cons_succ, List.set_cons_zero]
        refine drawn_take (i := 21) (v := undef) (some 42) rfl rfl (by kernel_rfl) (by kernel_rfl) (by kernel_rfl) (fun _ _ _ h => h) (Or.inr ⟨by kernel_rfl, rfl⟩) hHeld ?_
        simp only [Act.put, List.setIfInBounds_toArray, List.set_cons_succ, List.set_cons_zero]
        refine drawn_take (i := 22) (v := undef) (some 43) rfl rfl (by kernel_rfl) (by kernel_rfl) (by kernel_rfl) (fun _ _ _ h => h) (Or.inr ⟨by kernel_rfl, rfl⟩) hHeld ?_
        simp only [Act.put, List.setIfInBounds_toArray, List.set_cons_succ, List.set_cons_zero]
        refine drawn_take (i := 23) (v := .bool false) (some 44) rfl rfl (by kernel_rfl) (by kernel_rfl) (by kernel_rfl) (fun _ _ _ h => h) (Or.inl ⟨by kernel_rfl, fun wq hw => by go_simp⟩) hHeld ?_
        simp only [Act.put, List.setIfInBounds_toArray, List.set_cons_succ, List.set_cons_zero]
        refine wpAnyH_done (by kernel_rfl) ?_ _
        refine NoPanic.normal ?_
        clear hHeld
        have H3 := hidn (H2.out.below ((Below.refl _ w5).drew))
        go_wp2_with fail
        go_end0
        exact ⟨rfl, g3, c3, r1, HP.out, HHP.out, ⟨by rw [H3.out.1]; exact H3.out.2.1, by rw [H3.out.1]; exact H3.out.2.2.1, HBH.out⟩, HB4.out.trans (H3.out.2.2.2.below HBS.out HBG.out), fun k hk h1 h2 => (H3.out.2.2.2.2.2.2.2 k (Nat.lt_of_lt_of_le hk HSZ.out) (HG3.out k hk h2)).trans (HFR.out k hk h1 h2)⟩
      · obtain ⟨q, hq⟩ : ∃ q, q = (p - 1) / 2 := ⟨_, rfl⟩
        have hqp : q < p := by omega
        have hc0 : w5.cell? ⟨h, 0, none⟩ = some (.slice (some ⟨g3, 0, none⟩) (n + 1) c3) := cell_of_row _ _ _ _ _ _ H2.out.2.1
        have hc1 : w5.cell? ⟨h, 1, none⟩ = some (.func (.func 30) #[] #[]) := cell_of_row _ _ _ _ _ _ H2.out.2.1
        have HRN := hidn (HRN0.out.perm HP.out)
        have hb0 := rn_get (rs := r1) (i := p) (by rw [H2.out.1]; omega)
        have hf0 := rn_get (rs := r1) (i := q) (by rw [H2.out.1]; omega)
        obtain ⟨bp, op, hba, hbl, hbB, hbc⟩ := (HRN.out.below (H2.out.2.2.2.below HBS.out HBG.out)) _ (rn_mem (rs := r1) (i := p) (by rw [H2.out.1]; omega))
        obtain ⟨bq, oq, hfa, hfl, hfB, hfc⟩ := (HRN.out.below (H2.out.2.2.2.below HBS.out HBG.out)) _ (rn_mem (rs := r1) (i := q) (by rw [H2.out.1]; omega))
        obtain ⟨ab, hab⟩ : ∃ ab, ab = aheadR T (rn r1 p) (rn r1 q) := ⟨_, rfl⟩
        obtain ⟨x0, x1, x2, _⟩ := own_rn H2.out.2.2.1 hb0
        obtain ⟨y0, y1, y2, _⟩ := own_rn H2.out.2.2.1 hf0
        have HAB := hidn hab
        have hab2 := hab
        unfold aheadR at hab2
        obtain ⟨tp, htb⟩ : ∃ tp, tp = T (rn r1 p) := ⟨_, rfl⟩
        obtain ⟨tq, htf⟩ : ∃ tq, tq = T (rn r1 q) := ⟨_, rfl⟩
        rw [← htb] at hab2 hbc
        rw [← htf] at hab2 hfc
        obtain ⟨rp, hrb⟩ : ∃ z, z = (rn r1 p).rank := ⟨_, rfl⟩
        obtain ⟨pp, hpb⟩ : ∃ z, z = (rn r1 p).place := ⟨_, rfl⟩
        obtain ⟨lp, hlb⟩ : ∃ z, z = (rn r1 p).len := ⟨_, rfl⟩
        obtain ⟨cp, hcb⟩ : ∃ z, z = (rn r1 p).cap := ⟨_, rfl⟩
        obtain ⟨rq, hrf⟩ : ∃ z, z = (rn r1 q).rank := ⟨_, rfl⟩
        obtain ⟨pq, hpf⟩ : ∃ z, z = (rn r1 q).place := ⟨_, rfl⟩
        obtain ⟨lq, hlf⟩ : ∃ z, z = (rn r1 q).len := ⟨_, rfl⟩
        obtain ⟨cq, hcf⟩ : ∃ z, z = (rn r1 q).cap := ⟨_, rfl⟩
        rw [hba, ← hlb, ← hcb] at x0
        rw [← hrb] at x1
        rw [← hpb] at x2
        rw [hfa, ← hlf, ← hcf] at y0
        rw [← hrf] at y1
        rw [← hpf] at y2
        rw [← hrb, ← hpb, ← hrf, ← hpf] at hab2
        rw [← hlb] at hbl
        rw [← hlf] at hfl
        have HAH := hidn (ahead_any bp op lp cp bq oq lq cq tp tq rp rq pp pq w5.drew hbl hfl hbc hfc)
        rw [← hab2] at HAH
        have HAB2 := hidn (fun wx => above_any p q wx (by omega) (by omega) hq)
        have HRD : Hid (∀ w', Below w5.heap.size w5 w' → w'.cell? ⟨h, 0, none⟩ = some (.slice (some ⟨g3, 0, none⟩) (n + 1) c3) ∧ w'.cell? ⟨h, 1, none⟩ = some (.func (.func 30) #[] #[]) ∧ w'.cell? ⟨g3, p * 3, none⟩ = some (.slice (some ⟨bp, op, none⟩) lp cp) ∧ w'.cell? ⟨g3, p * 3 + 1, none⟩ = some (.int .i64 rp) ∧ w'.cell? ⟨g3, p * 3 + 2, none⟩ = some (.int .i64 pp) ∧ w'.cell? ⟨g3, q * 3, none⟩ = some (.slice (some ⟨bq, oq, none⟩) lq cq) ∧ w'.cell? ⟨g3, q * 3 + 1, none⟩ = some (.int .i64 rq) ∧ w'.cell? ⟨g3, q * 3 + 2, none⟩ = some (.int .i64 pq)) := hidn (fun w' hbb => ⟨(hbb.cell (block_lt_of_cell hc0)).trans hc0, (hbb.cell (block_lt_of_cell hc1)).trans hc1, (hbb.cell (block_lt_of_cell x0)).trans x0, (hbb.cell (block_lt_of_cell x1)).trans x1, (hbb.cell (block_lt_of_cell x2)).trans x2, (hbb.cell (block_lt_of_cell y0)).trans y0, (hbb.cell (block_lt_of_cell y1)).trans y1, (hbb.cell (block_lt_of_cell y2)).trans y2⟩)
        have HQE := hidn hq
        clear hc1 x0 x1 x2 y0 y1 y2 hfc hbc hab2 hab htb htf hrb hpb hlb hcb hrf hpf hlf hcf hba hfa hb0 hf0 hc0 hq
        go_wp2_with fail
        refine wp_region_noPanic ?_
        refine wp_region_held_drew (S := fun w' => Below w5.heap.size w5 w') (by kernel_rfl) ((Below.refl _ w5).drew) (fun hHeld => ?_)
        refine drawn_take (i := 0) (v := .int .i64 (p : Int)) (some 21) rfl rfl (by kernel_rfl) (by kernel_rfl) (by kernel_rfl) (fun _ _ _ h => h) (Or.inl ⟨by kernel_rfl, fun wq hw => by go_simp⟩) hHeld ?_
        simp only [Act.put, List.setIfInBounds_toArray, List.set_cons_succ, List.set_cons_zero]
        refine drawn_take (i := 1) (v := .bool true) (some 22) rfl rfl (by kernel_rfl) (by kernel_rfl) (by kernel_rfl) (fun _ _ _ h => h) (Or.inl ⟨by kernel_rfl, fun wq hw => by go_simp <;> omega⟩) hHeld ?_
        simp only [Act.put, List.setIfInBounds_toArray, List.set_cons_succ, List.set_cons_zero]
        refine drawn_take (i := 2) (v := .bool true) (some 23) rfl rfl (by kernel_rfl) (by kernel_rfl) (by kernel_rfl) (fun _ _ _ h => h) (Or.inl ⟨by kernel_rfl, fun wq hw => by go_simp⟩) hHeld ?_
        simp only [Act.put, List.setIfInBounds_toArray, List.set_cons_succ, List.set_cons_zero]
        refine drawn_take (i := 3) (v := .pointer (some ⟨h, 0, none⟩)) (some 24) rfl rfl (by kernel_rfl) (by kernel_rfl) (by kernel_rfl) (fun _ _ _ h => h) (Or.inl ⟨by kernel_rfl, fun wq hw => by go_simp⟩) hHeld ?_
        simp only [Act.put, List.setIfInBounds_toArray, List.set_cons_succ, List.set_cons_zero]
        refine drawn_take (i := 4) (v := .pointer (some ⟨h, 0, none⟩)) (some 25) rfl rfl (by kernel_rfl) (by kernel_rfl) (by kernel_rfl) (fun _ _ _ h => h) (Or.inl ⟨by kernel_rfl, fun wq hw => by go_simp⟩) hHeld ?_
        simp only [Act.put, List.setIfInBounds_toArray, List.set_cons_succ, List.set_cons_zero]
        refine drawn_take (i := 5) (v := .pointer (some ⟨h, 1, none⟩)) (some 26) rfl rfl (by kernel_rfl) (by kernel_rfl) (by kernel_rfl) (fun _ _ _ h => h) (Or.inl ⟨by kernel_rfl, fun wq hw => by go_simp⟩) hHeld ?_
        simp only [Act.put, List.setIfInBounds_toArray, List.set_cons_succ, List.set_cons_zero]
        refine drawn_take (i := 6) (v := .func (.func 30) #[] #[]) (some 27) rfl rfl (by kernel_rfl) (by kernel_rfl) (by kernel_rfl) (fun _ _ _ h => h) (Or.inl ⟨by kernel_rfl, fun wq hw => by obtain ⟨q1, q2, q3, q4, q5, q6, q7, q8⟩ := HRD.out _ hw; go_simp⟩) hHeld ?_
        simp only [Act.put, List.setIfInBounds_toArray, List.set_cons_succ, List.set_cons_zero]
        refine drawn_take (i := 7) (v := .pointer (some ⟨h, 0, none⟩)) (some 28) rfl rfl (by kernel_rfl) (by kernel_rfl) (by kernel_rfl) (fun _ _ _ h => h) (Or.inl ⟨by kernel_rfl, fun wq hw => by go_simp⟩) hHeld ?_
        simp only [Act.put, List.setIfInBounds_toArray, List.set_cons_succ, List.set_cons_zero]
        refine drawn_take (i := 8) (v := .pointer (some ⟨h, 0, none⟩)) (some 29) rfl rfl (by kernel_rfl) (by kernel_rfl) (by kernel_rfl) (fun _ _ _ h => h) (Or.inl ⟨by kernel_rfl, fun wq hw => by go_simp⟩) hHeld ?_
        simp only [Act.put, List.setIfInBounds_toArray, List.set_cons_succ, List.set_cons_zero]
        refine drawn_take (i := 9) (v := .pointer (some ⟨h, 0, none⟩)) (some 30) rfl rfl (by kernel_rfl) (by kernel_rfl) (by kernel_rfl) (fun _ _ _ h => h) (Or.inl ⟨by kernel_rfl, fun wq hw => by go_simp⟩) hHeld ?_
        simp only [Act.put, List.setIfInBounds_toArray, List.set_cons_succ, List.set_cons_zero]
        refine drawn_take (i := 10) (v := .slice (some ⟨g3, 0, none⟩) (n + 1) c3) (some 31) rfl rfl (by kernel_rfl) (by kernel_rfl) (by kernel_rfl) (fun _ _ _ h => h) (Or.inl ⟨by kernel_rfl, fun wq hw => by obtain ⟨q1, q2, q3, q4, q5, q6, q7, q8⟩ := HRD.out _ hw; go_simp⟩) hHeld ?_
        simp only [Act.put, List.setIfInBounds_toArray, List.set_cons_succ, List.set_cons_zero]
        refine drawn_take (i := 11) (v := .int .i64 (p : Int)) (some 32) rfl rfl (by kernel_rfl) (by kernel_rfl) (by kernel_rfl) (fun _ _ _ h => h) (Or.inl ⟨by kernel_rfl, fun wq hw => by go_simp⟩) hHeld ?_
        simp only [Act.put, List.setIfInBounds_toArray, List.set_cons_succ, List.set_cons_zero]
        refine drawn_take (i := 12) (v := .pointer (some ⟨g3, p * 3, none⟩)) (some 33) rfl rfl (by kernel_rfl) (by kernel_rfl) (by kernel_rfl) (fun _ _ _ h => h) (Or.inl ⟨by kernel_rfl, fun wq hw => by go_simp <;> (intro h8; exfalso; omega)⟩) hHeld ?_
        simp only [Act.put, List.setIfInBounds_toArray, List.set_cons_succ, List.set_cons_zero]
        refine drawn_take (i := 13) (v := .agg #[.slice (some ⟨bp, op, none⟩) lp cp, .int .i64 rp, .int .i64 pp]) (some 34) rfl rfl (by kernel_rfl) (by kernel_rfl) (by kernel_rfl) (fun _ _ _ h => h) (Or.inl ⟨by kernel_rfl, fun wq hw => by obtain ⟨q1, q2, q3, q4, q5, q6, q7, q8⟩ := HRD.out _ hw; go_simp⟩) hHeld ?_
        simp only [Act.put, List.setIfInBounds_toArray, List.set_cons_succ, List.set_cons_zero]
        refine drawn_take (i := 14) (v := .pointer (some ⟨h, 0, none⟩)) (some 35) rfl rfl (by kernel_rfl) (by kernel_rfl) (by kernel_rfl) (fun _ _ _ h => h) (Or.inl ⟨by kernel_rfl, fun wq hw => by go_simp⟩) hHeld ?_
        simp only [Act.put, List.setIfInBounds_toArray, List.set_cons_succ, List.set_cons_zero]
        refine drawn_take (i := 15) (v := .pointer (some ⟨h, 0, none⟩)) (some 36) rfl rfl (by kernel_rfl) (by kernel_rfl) (by kernel_rfl) (fun _ _ _ h => h) (Or.inl ⟨by kernel_rfl, fun wq hw => by go_simp⟩) hHeld ?_
        simp only [Act.put, List.setIfInBounds_toArray, List.set_cons_succ, List.set_cons_zero]
        refine drawn_take (i := 16) (v := .pointer (some ⟨h, 0, none⟩)) (some 37) rfl rfl (by kernel_rfl) (by kernel_rfl) (by kernel_rfl) (fun _ _ _ h => h) (Or.inl ⟨by kernel_rfl, fun wq hw => by go_simp⟩) hHeld ?_
        simp only [Act.put, List.setIfInBounds_toArray, List.set_cons_succ, List.set_cons_zero]
        refine drawn_take (i := 17) (v := .slice (some ⟨g3, 0, none⟩) (n + 1) c3) (some 38) rfl rfl (by kernel_rfl) (by kernel_rfl) (by kernel_rfl) (fun _ _ _ h => h) (Or.inl ⟨by kernel_rfl, fun wq hw => by obtain ⟨q1, q2, q3, q4, q5, q6, q7, q8⟩ := HRD.out _ hw; go_simp⟩) hHeld ?_
        simp only [Act.put, List.setIfInBounds_toArray, List.set_cons_succ, List.set_cons_zero]
        refine drawn_take (i := 18) (v := .int .i64 (p : Int)) (some 39) rfl rfl (by kernel_rfl) (by kernel_rfl) (by kernel_rfl) (fun _ _ _ h => h) (Or.inl ⟨by kernel_rfl, fun wq hw => by go_simp⟩) hHeld ?_
        simp only [Act.put, List.setIfInBounds_toArray, List.set_cons_succ, List.set_cons_zero]
        refine wpAnyH_ready (rs := [19]) (by kernel_rfl) (by simp) ?_
        refine rdy_callw (i := 19) rfl (by kernel_rfl) (some 40) rfl 38 #[.int .i64 (p : Int)] (call1_run (x := 39) rfl (fun _ _ => rfl) (by kernel_rfl)) (fun r w9 => r = .int .i64 (q : Int) ∧ w9 = w5.drew) ((HAB2.out w5.drew).mono (by rintro e w9 ⟨rfl, h9⟩; exact ⟨_, rfl, rfl, h9⟩)) (fun r w9 hR => ?_) rdy_nil
        obtain ⟨rfl, rfl⟩ := hR
        refine ⟨hHeld, fun hHeld => ?_⟩
        simp only [Act.put, List.setIfInBounds_toArray, List.set_cons_succ, List.set_cons_zero]
        refine drawn_take (i := 20) (v := .pointer (some ⟨g3, q * 3, none⟩)) (some 41) rfl rfl (by kernel_rfl) (by kernel_rfl) (by kernel_rfl) (fun _ _ _ h => h) (Or.inl ⟨by kernel_rfl, fun wq hw => by go_simp <;> (intro h8; exfalso; omega)⟩) hHeld ?_
        simp only [Act.put, List.setIfInBounds_toArray, List.set_cons_succ, List.set_cons_zero]
        refine drawn_take (i := 21) (v := .agg #[.slice (some ⟨bq, oq, none⟩) lq cq, .int .i64 rq, .int .i64 pq]) (some 42) rfl rfl (by kernel_rfl) (by kernel_rfl) (by kernel_rfl) (fun _ _ _ h => h) (Or.inl ⟨by kernel_rfl, fun wq hw => by obtain ⟨q1, q2, q3, q4, q5, q6, q7, q8⟩ := HRD.out _ hw; go_simp⟩) hHeld ?_
        simp only [Act.put, List.setIfInBounds_toArray, List.set_cons_succ, List.set_cons_zero]
        refine wpAnyH_ready (rs := [22]) (by kernel_rfl) (by simp) ?_
        refine rdy_callw (i := 22) rfl (by kernel_rfl) (some 43) rfl 30 #[.agg #[.slice (some ⟨bp, op, none⟩) lp cp, .int .i64 rp, .int .i64 pp], .agg #[.slice (some ⟨bq, oq, none⟩) lq cq, .int .i64 rq, .int .i64 pq]] (callV2_run (z := 27) (x := 34) (y := 42) rfl (by kernel_rfl) (fun _ _ => rfl) (by kernel_rfl) (by kernel_rfl)) (fun r w9 => r = .bool ab ∧ Below w5.heap.size w5 w9) (HAH.out.mono (by rintro e w9 ⟨rfl, h9⟩; exact ⟨_, rfl, rfl, ((Below.refl _ w5).drew).trans h9⟩)) (fun r w9 hR => ?_) rdy_nil
        obtain ⟨rfl, h9⟩ := hR
        refine ⟨h9, fun hHeld => ?_⟩
        simp only [Act.put, List.setIfInBounds_toArray, List.set_cons_succ, List.set_cons_zero]
        refine drawn_take (i := 23) (v := .bool ab) (some 44) rfl rfl (by kernel_rfl) (by kernel_rfl) (by kernel_rfl) (fun _ _ _ h => h) (Or.inl ⟨by kernel_rfl, fun wq hw => by go_simp⟩) hHeld ?_
        simp only [Act.put, List.setIfInBounds_toArray, List.set_cons_succ, List.set_cons_zero]
        refine wpAnyH_done (by kernel_rfl) ?_ _
        refine NoPanic.normal ?_
        clear hHeld
        have H3 := hidn (H2.out.below h9)
        clear h9
        cases ab
        · have HHP : Hid (Heap T r1) := hidn (up_end HX.out (.inr (by rw [← HQE.out]; exact HAB.out.symm)))
          go_wp2_with fail
          go_end0
          exact ⟨rfl, g3, c3, r1, HP.out, HHP.out, ⟨by rw [H3.out.1]; exact H3.out.2.1, by rw [H3.out.1]; exact H3.out.2.2.1, HBH.out⟩, HB4.out.trans (H3.out.2.2.2.below HBS.out HBG.out), fun k hk h1 h2 => (H3.out.2.2.2.2.2.2.2 k (Nat.lt_of_lt_of_le hk HSZ.out) (HG3.out k hk h2)).trans (HFR.out k hk h1 h2)⟩
        · have HXN : Hid (HeapU T (swapL r1 p q) q) := hidn (by
            have h8 := up_step HX.out (by omega) (by rw [H2.out.1]; omega) (by rw [← HQE.out]; exact HAB.out.symm)
            rw [← HQE.out] at h8
            exact h8)
          have HPN : Hid ((swapL r1 p q).Perm (rs ++ [(⟨some ⟨bb, ob, none⟩, l1, c1, k1, p1⟩ : Run)])) := hidn ((swapL_perm r1 p q (by rw [H2.out.1]; omega) (by rw [H2.out.1]; omega)).trans HP.out)
          have HSW := hidn (hps_swap (i := p) (j := q) H3.out (by omega) (by omega))
          go_wp2_with fail
          refine (HAB2.out _).mono ?_
          rintro e w7 ⟨rfl, rfl⟩
          go_wp2_with fail
          refine HSW.out.mono ?_
          rintro e w7 ⟨rfl, h7⟩
          have H7 := hidn h7
          clear h7
          go_wp2_with fail
          refine (HAB2.out _).mono ?_
          rintro e w8 ⟨rfl, rfl⟩
          go_wp2_with fail
          go_roundw
          case rel => first | exact ⟨q, swapL r1 p q, rfl, by omega, HPN, HXN, H7⟩ | (repeat apply Exists.intro; exact ⟨⟨q, swapL r1 p q, rfl, by omega, HPN, HXN, H7⟩, rfl⟩)
          case measure => simp [intOf]; omega
  · simp only [Act.put, List.setIfInBounds_toArray, List.set_cons_succ, List.set_cons_zero]
    refine wpAnyH_ready (rs := [4]) (by kernel_rfl) (by simp) ?_
    refine rdy_val (i := 4) rfl rfl (some 9) rfl (.slice va n c) (w2) (by have q9 := hh20; go_simp) (qb2) (fun hHeld => ?_) rdy_nil
    simp only [Act.put, List.setIfInBounds_toArray, List.set_cons_succ, List.set_cons_zero]
    refine wpAnyH_ready (rs := [7]) (by kernel_rfl) (by simp) ?_
    refine rdy_val (i := 7) rfl rfl (some 12) rfl (.slice (some ⟨g3, 0, none⟩) (n + 1) c3) (w3) (appRun_exec (x := .tmp 9) (y := .tmp 11) (by kernel_rfl) (by kernel_rfl) (by kernel_rfl) hr3) (qb3) (fun hHeld => ?_) rdy_nil
    simp only [Act.put, List.setIfInBounds_toArray, List.set_cons_succ, List.set_cons_zero]
    refine drawn_take (i := 8) (v := .pointer (some ⟨h, 0, none⟩)) (some 13) rfl rfl (by kernel_rfl) (by kernel_rfl) (by kernel_rfl) (fun _ _ _ h => h) (Or.inl ⟨by kernel_rfl, fun wq hw => by go_simp⟩) hHeld ?_
    simp only [Act.put, List.setIfInBounds_toArray, List.set_cons_succ, List.set_cons_zero]
    refine drawn_take (i := 9) (v := .pointer (some ⟨h, 0, none⟩)) (some 14) rfl rfl (by kernel_rfl) (by kernel_rfl) (by kernel_rfl) (fun _ _ _ h => h) (Or.inl ⟨by kernel_rfl, fun wq hw => by go_simp⟩) hHeld ?_
    simp only [Act.put, List.setIfInBounds_toArray, List.set_cons_succ, List.set_cons_zero]
    refine wpAnyH_ready (rs := [10]) (by kernel_rfl) (by simp) ?_
    refine rdy_unit (i := 10) rfl rfl none rfl (w4) (by rw [HW4.out]; go_simp) (qb4) (fun hHeld => ?_) rdy_nil
    simp only [Act.put]
    refine wpAnyH_done (by kernel_rfl) ?_ _
    refine NoPanic.normal ?_
    clear hHeld
    clear hh1 hh20 h30 f30 qb qb2 qb3 qb4 hHeld hr3
    go_wp2_with fail
    go_loopw [4] (fun av wr => ∃ (p : Nat) (r1 : List Run), av = .int .i64 (p : Int) ∧ p ≤ n ∧ Hid (r1.Perm (rs ++ [(⟨some ⟨bb, ob, none⟩, l1, c1, k1, p1⟩ : Run)])) ∧ Hid (HeapU T r1 p) ∧ Hid (HpS B h g3 (n + 1) c3 w4 r1 wr)) (fun av _ => (intOf av).toNat)
    case atStart => exact ⟨n, rs ++ [(⟨some ⟨bb, ob, none⟩, l1, c1, k1, p1⟩ : Run)], by first | rfl | simp, Nat.le_refl _, hidn (List.Perm.refl _), HU0, HS0⟩
    case round =>
      obtain ⟨p, r1, rfl, hpn, HP, HX, H2⟩ := hrel
      obtain ⟨w5, hw5⟩ : ∃ w5, w5 = wr := ⟨_, rfl⟩
      subst hw5
      by_cases hp0 : p = 0
      · subst hp0
        have HHP : Hid (Heap T r1) := hidn (up_end HX.out (.inl rfl))
        go_wp2_with fail
        refine wp_region_noPanic ?_
        refine wp_region_held_drew (S := fun w' => Below w5.heap.size w5 w') (by kernel_rfl) ((Below.refl _ w5).drew) (fun hHeld => ?_)
        refine drawn_take (i := 0) (v := .int .i64 0) (some 21) rfl rfl (by kernel_rfl) (by kernel_rfl) (by kernel_rfl) (fun _ _ _ h => h) (Or.inl ⟨by kernel_rfl, fun wq hw => by go_simp⟩) hHeld ?_
        simp only [Act.put, List.setIfInBounds_toArray, List.set_cons_succ, List.set_cons_zero]
        refine drawn_take (i := 1) (v := .bool false) (some 22) rfl rfl (by kernel_rfl) (by kernel_rfl) (by kernel_rfl) (fun _ _ _ h => h) (Or.inl ⟨by kernel_rfl, fun wq hw => by go_simp <;> omega⟩) hHeld ?_
        simp only [Act.put, List.setIfInBounds_toArray, List.set_cons_succ, List.set_cons_zero]
        refine drawn_take (i := 2) (v := .bool false) (some 23) rfl rfl (by kernel_rfl) (by kernel_rfl) (by kernel_rfl) (fun _ _ _ h => h) (Or.inl ⟨by kernel_rfl, fun wq hw => by go_simp⟩) hHeld ?_
        simp only [Act.put, List.setIfInBounds_toArray, List.set_cons_succ, List.set_cons_zero]
        refine drawn_take (i := 3) (v := undef) (some 24) rfl rfl (by kernel_rfl) (by kernel_rfl) (by kernel_rfl) (fun _ _ _ h => h) (Or.inr ⟨by kernel_rfl, rfl⟩) hHeld ?_
        simp only [Act.put, List.setIfInBounds_toArray, List.set_cons_succ, List.set_cons_zero]
        refine drawn_take (i := 4) (v := undef) (some 25) rfl rfl (by kernel_rfl) (by kernel_rfl) (by kernel_rfl) (fun _ _ _ h => h) (Or.inr ⟨by kernel_rfl, rfl⟩) hHeld ?_
        simp only [Act.put, List.setIfInBounds_toArray, List.set_cons_succ, List.set_cons_zero]
        refine drawn_take (i := 5) (v := undef) (some 26) rfl rfl (by kernel_rfl) (by kernel_rfl) (by kernel_rfl) (fun _ _ _ h => h) (Or.inr ⟨by kernel_rfl, rfl⟩) hHeld ?_
        simp only [Act.put, List.setIfInBounds_toArray, List.set_cons_succ, List.set_cons_zero]
        refine drawn_take (i := 6) (v := undef) (some 27) rfl rfl (by kernel_rfl) (by kernel_rfl) (by kernel_rfl) (fun _ _ _ h => h) (Or.inr ⟨by kernel_rfl, rfl⟩) hHeld ?_
        simp only [Act.put, List.setIfInBounds_toArray, List.set_cons_succ, List.set_cons_zero]
        refine drawn_take (i := 7) (v := undef) (some 28) rfl rfl (by kernel_rfl) (by kernel_rfl) (by kernel_rfl) (fun _ _ _ h => h) (Or.inr ⟨by kernel_rfl, rfl⟩) hHeld ?_
        simp only [Act.put, List.setIfInBounds_toArray, List.set_cons_succ, List.set_cons_zero]
        refine drawn_take (i := 8) (v := undef) (some 29) rfl rfl (by kernel_rfl) (by kernel_rfl) (by kernel_rfl) (fun _ _ _ h => h) (Or.inr ⟨by kernel_rfl, rfl⟩) hHeld ?_
        simp only [Act.put, List.setIfInBounds_toArray, List.set_cons_succ, List.set_cons_zero]
        refine drawn_take (i := 9) (v := undef) (some 30) rfl rfl (by kernel_rfl) (by kernel_rfl) (by kernel_rfl) (fun _ _ _ h => h) (Or.inr ⟨by kernel_rfl, rfl⟩) hHeld ?_
        simp only [Act.put, List.setIfInBounds_toArray, List.set_cons_succ, List.set_cons_zero]
        refine drawn_take (i := 10) (v := undef) (some 31) rfl rfl (by kernel_rfl) (by kernel_rfl) (by kernel_rfl) (fun _ _ _ h => h) (Or.inr ⟨by kernel_rfl, rfl⟩) hHeld ?_
        simp only [Act.put, List.setIfInBounds_toArray, List.set_cons_succ, List.set_cons_zero]
        refine drawn_take (i := 11) (v := undef) (some 32) rfl rfl (by kernel_rfl) (by kernel_rfl) (by kernel_rfl) (fun _ _ _ h => h) (Or.inr ⟨by kernel_rfl, rfl⟩) hHeld ?_
        simp only [Act.put, List.setIfInBounds_toArray, List.set_cons_succ, List.set_cons_zero]
        refine drawn_take (i := 12) (v := undef) (some 33) rfl rfl (by kernel_rfl) (by kernel_rfl) (by kernel_rfl) (fun _ _ _ h => h) (Or.inr ⟨by kernel_rfl, rfl⟩) hHeld ?_
        simp only [Act.put, List.setIfInBounds_toArray, List.set_cons_succ, List.set_cons_zero]
        refine drawn_take (i := 13) (v := undef) (some 34) rfl rfl (by kernel_rfl) (by kernel_rfl) (by kernel_rfl) (fun _ _ _ h => h) (Or.inr ⟨by kernel_rfl, rfl⟩) hHeld ?_
        simp only [Act.put, List.setIfInBounds_toArray, List.set_cons_succ, List.set_cons_zero]
        refine drawn_take (i := 14) (v := undef) (some 35) rfl rfl (by kernel_rfl) (by kernel_rfl) (by kernel_rfl) (fun _ _ _ h => h) (Or.inr ⟨by kernel_rfl, rfl⟩) hHeld ?_
        simp only [Act.put, List.setIfInBounds_toArray, List.set_cons_succ, List.set_cons_zero]
        refine drawn_take (i := 15) (v := undef) (some 36) rfl rfl (by kernel_rfl) (by kernel_rfl) (by kernel_rfl) (fun _ _ _ h => h) (Or.inr ⟨by kernel_rfl, rfl⟩) hHeld ?_
        simp only [Act.put, List.setIfInBounds_toArray, List.set_cons_succ, List.set_cons_zero]
        refine drawn_take (i := 16) (v := undef) (some 37) rfl rfl (by kernel_rfl) (by kernel_rfl) (by kernel_rfl) (fun _ _ _ h => h) (Or.inr ⟨by kernel_rfl, rfl⟩) hHeld ?_
        simp only [Act.put, List.setIfInBounds_toArray, List.set_cons_succ, List.set_cons_zero]
        refine drawn_take (i := 17) (v := undef) (some 38) rfl rfl (by kernel_rfl) (by kernel_rfl) (by kernel_rfl) (fun _ _ _ h => h) (Or.inr ⟨by kernel_rfl, rfl⟩) hHeld ?_
        simp only [Act.put, List.setIfInBounds_toArray, List.set_cons_succ, List.set_cons_zero]
        refine drawn_take (i := 18) (v := undef) (some 39) rfl rfl (by kernel_rfl) (by kernel_rfl) (by kernel_rfl) (fun _ _ _ h => h) (Or.inr ⟨by kernel_rfl, rfl⟩) hHeld ?_
        simp only [Act.put, List.setIfInBounds_toArray, List.set_cons_succ, List.set_cons_zero]
        refine drawn_take (i := 19) (v := undef) (some 40) rfl rfl (by kernel_rfl) (by kernel_rfl) (by kernel_rfl) (fun _ _ _ h => h) (Or.inr ⟨by kernel_rfl, rfl⟩) hHeld ?_
        simp only [Act.put, List.setIfInBounds_toArray, List.set_cons_succ, List.set_cons_zero]
        refine drawn_take (i := 20) (v := undef) (some 41) rfl rfl (by kernel_rfl) (by kernel_rfl) (by kernel_rfl) (fun _ _ _ h => h) (Or.inr ⟨by kernel_rfl, rfl⟩) hHeld ?_
        simp only [Act.put, List.setIfInBounds_toArray, List.set_cons_succ, List.set_cons_zero]
        refine drawn_take (i := 21) (v := undef) (some 42) rfl rfl (by kernel_rfl) (by kernel_rfl) (by kernel_rfl) (fun _ _ _ h => h) (Or.inr ⟨by kernel_rfl, rfl⟩) hHeld ?_
        simp only [Act.put, List.setIfInBounds_toArray, List.set_cons_succ, List.set_cons_zero]
        refine drawn_take (i := 22) (v := undef) (some 43) rfl rfl (by kernel_rfl) (by kernel_rfl) (by kernel_rfl) (fun _ _ _ h => h) (Or.inr ⟨by kernel_rfl, rfl⟩) hHeld ?_
        simp only [Act.put, List.setIfInBounds_toArray, List.set_cons_succ, List.set_cons_zero]
        refine drawn_take (i := 23) (v := .bool false) (some 44) rfl rfl (by kernel_rfl) (by kernel_rfl) (by kernel_rfl) (fun _ _ _ h => h) (Or.inl ⟨by kernel_rfl, fun wq hw => by go_simp⟩) hHeld ?_
        simp only [Act.put, List.setIfInBounds_toArray, List.set_cons_succ, List.set_cons_zero]
        refine wpAnyH_done (by kernel_rfl) ?_ _
        refine NoPanic.normal ?_
        clear hHeld
        have H3 := hidn (H2.out.below ((Below.refl _ w5).drew))
        go_wp2_with fail
        go_end0
        exact ⟨rfl, g3, c3, r1, HP.out, HHP.out, ⟨by rw [H3.out.1]; exact H3.out.2.1, by rw [H3.out.1]; exact H3.out.2.2.1, HBH.out⟩, HB4.out.trans (H3.out.2.2.2.below HBS.out HBG.out), fun k hk h1 h2 => (H3.out.2.2.2.2.2.2.2 k (Nat.lt_of_lt_of_le hk HSZ.out) (HG3.out k hk h2)).trans (HFR.out k hk h1 h2)⟩
      · obtain ⟨q, hq⟩ : ∃ q, q = (p - 1) / 2 := ⟨_, rfl⟩
        have hqp : q < p := by omega
        have hc0 : w5.cell? ⟨h, 0, none⟩ = some (.slice (some ⟨g3, 0, none⟩) (n + 1) c3) := cell_of_row _ _ _ _ _ _ H2.out.2.1
        have hc1 : w5.cell? ⟨h, 1, none⟩ = some (.func (.func 30) #[] #[]) := cell_of_row _ _ _ _ _ _ H2.out.2.1
        have HRN := hidn (HRN0.out.perm HP.out)
        have hb0 := rn_get (rs := r1) (i := p) (by rw [H2.out.1]; omega)
        have hf0 := rn_get (rs := r1) (i := q) (by rw [H2.out.1]; omega)
        obtain ⟨bp, op, hba, hbl, hbB, hbc⟩ := (HRN.out.below (H2.out.2.2.2.below HBS.out HBG.out)) _ (rn_mem (rs := r1) (i := p) (by rw [H2.out.1]; omega))
        obtain ⟨bq, oq, hfa, hfl, hfB, hfc⟩ := (HRN.out.below (H2.out.2.2.2.below HBS.out HBG.out)) _ (rn_mem (rs := r1) (i := q) (by rw [H2.out.1]; omega))
        obtain ⟨ab, hab⟩ : ∃ ab, ab = aheadR T (rn r1 p) (rn r1 q) := ⟨_, rfl⟩
        obtain ⟨x0, x1, x2, _⟩ := own_rn H2.out.2.2.1 hb0
        obtain ⟨y0, y1, y2, _⟩ := own_rn H2.out.2.2.1 hf0
        have HAB := hidn hab
        have hab2 := hab
        unfold aheadR at hab2
        obtain ⟨tp, htb⟩ : ∃ tp, tp = T (rn r1 p) := ⟨_, rfl⟩
        obtain ⟨tq, htf⟩ : ∃ tq, tq = T (rn r1 q) := ⟨_, rfl⟩
        rw [← htb] at hab2 hbc
        rw [← htf] at hab2 hfc
        obtain ⟨rp, hrb⟩ : ∃ z, z = (rn r1 p).rank := ⟨_, rfl⟩
        obtain ⟨pp, hpb⟩ : ∃ z, z = (rn r1 p).place := ⟨_, rfl⟩
        obtain ⟨lp, hlb⟩ : ∃ z, z = (rn r1 p).len := ⟨_, rfl⟩
        obtain ⟨cp, hcb⟩ : ∃ z, z = (rn r1 p).cap := ⟨_, rfl⟩
        obtain ⟨rq, hrf⟩ : ∃ z, z = (rn r1 q).rank := ⟨_, rfl⟩
        obtain ⟨pq, hpf⟩ : ∃ z, z = (rn r1 q).place := ⟨_, rfl⟩
        obtain ⟨lq, hlf⟩ : ∃ z, z = (rn r1 q).len := ⟨_, rfl⟩
        obtain ⟨cq, hcf⟩ : ∃ z, z = (rn r1 q).cap := ⟨_, rfl⟩
        rw [hba, ← hlb, ← hcb] at x0
        rw [← hrb] at x1
        rw [← hpb] at x2
        rw [hfa, ← hlf, ← hcf] at y0
        rw [← hrf] at y1
        rw [← hpf] at y2
        rw [← hrb, ← hpb, ← hrf, ← hpf] at hab2
        rw [← hlb] at hbl
        rw [← hlf] at hfl
        have HAH := hidn (ahead_any bp op lp cp bq oq lq cq tp tq rp rq pp pq w5.drew hbl hfl hbc hfc)
        rw [← hab2] at HAH
        have HAB2 := hidn (fun wx => above_any p q wx (by omega) (by omega) hq)
        have HRD : Hid (∀ w', Below w5.heap.size w5 w' → w'.cell? ⟨h, 0, none⟩ = some (.slice (some ⟨g3, 0, none⟩) (n + 1) c3) ∧ w'.cell? ⟨h, 1, none⟩ = some (.func (.func 30) #[] #[]) ∧ w'.cell? ⟨g3, p * 3, none⟩ = some (.slice (some ⟨bp, op, none⟩) lp cp) ∧ w'.cell? ⟨g3, p * 3 + 1, none⟩ = some (.int .i64 rp) ∧ w'.cell? ⟨g3, p * 3 + 2, none⟩ = some (.int .i64 pp) ∧ w'.cell? ⟨g3, q * 3, none⟩ = some (.slice (some ⟨bq, oq, none⟩) lq cq) ∧ w'.cell? ⟨g3, q * 3 + 1, none⟩ = some (.int .i64 rq) ∧ w'.cell? ⟨g3, q * 3 + 2, none⟩ = some (.int .i64 pq)) := hidn (fun w' hbb => ⟨(hbb.cell (block_lt_of_cell hc0)).trans hc0, (hbb.cell (block_lt_of_cell hc1)).trans hc1, (hbb.cell (block_lt_of_cell x0)).trans x0, (hbb.cell (block_lt_of_cell x1)).trans x1, (hbb.cell (block_lt_of_cell x2)).trans x2, (hbb.cell (block_lt_of_cell y0)).trans y0, (hbb.cell (block_lt_of_cell y1)).trans y1, (hbb.cell (block_lt_of_cell y2)).trans y2⟩)
        have HQE := hidn hq
        clear hc1 x0 x1 x2 y0 y1 y2 hfc hbc hab2 hab htb htf hrb hpb hlb hcb hrf hpf hlf hcf hba hfa hb0 hf0 hc0 hq
        go_wp2_with fail
        refine wp_region_noPanic ?_
        refine wp_region_held_drew (S := fun w' => Below w5.heap.size w5 w') (by kernel_rfl) ((Below.refl _ w5).drew) (fun hHeld => ?_)
        refine drawn_take (i := 0) (v := .int .i64 (p : Int)) (some 21) rfl rfl (by kernel_rfl) (by kernel_rfl) (by kernel_rfl) (fun _ _ _ h => h) (Or.inl ⟨by kernel_rfl, fun wq hw => by go_simp⟩) hHeld ?_
        simp only [Act.put, List.setIfInBounds_toArray, List.set_cons_succ, List.set_cons_zero]
        refine drawn_take (i := 1) (v := .bool true) (some 22) rfl rfl (by kernel_rfl) (by kernel_rfl) (by kernel_rfl) (fun _ _ _ h => h) (Or.inl ⟨by kernel_rfl, fun wq hw => by go_simp <;> omega⟩) hHeld ?_
        simp only [Act.put, List.setIfInBounds_toArray, List.set_cons_succ, List.set_cons_zero]
        refine drawn_take (i := 2) (v := .bool true) (some 23) rfl rfl (by kernel_rfl) (by kernel_rfl) (by kernel_rfl) (fun _ _ _ h => h) (Or.inl ⟨by kernel_rfl, fun wq hw => by go_simp⟩) hHeld ?_
        simp only [Act.put, List.setIfInBounds_toArray, List.set_cons_succ, List.set_cons_zero]
        refine drawn_take (i := 3) (v := .pointer (some ⟨h, 0, none⟩)) (some 24) rfl rfl (by kernel_rfl) (by kernel_rfl) (by kernel_rfl) (fun _ _ _ h => h) (Or.inl ⟨by kernel_rfl, fun wq hw => by go_simp⟩) hHeld ?_
        simp only [Act.put, List.setIfInBounds_toArray, List.set_cons_succ, List.set_cons_zero]
        refine drawn_take (i := 4) (v := .pointer (some ⟨h, 0, none⟩)) (some 25) rfl rfl (by kernel_rfl) (by kernel_rfl) (by kernel_rfl) (fun _ _ _ h => h) (Or.inl ⟨by kernel_rfl, fun wq hw => by go_simp⟩) hHeld ?_
        simp only [Act.put, List.setIfInBounds_toArray, List.set_cons_succ, List.set_cons_zero]
        refine drawn_take (i := 5) (v := .pointer (some ⟨h, 1, none⟩)) (some 26) rfl rfl (by kernel_rfl) (by kernel_rfl) (by kernel_rfl) (fun _ _ _ h => h) (Or.inl ⟨by kernel_rfl, fun wq hw => by go_simp⟩) hHeld ?_
        simp only [Act.put, List.setIfInBounds_toArray, List.set_cons_succ, List.set_cons_zero]
        refine drawn_take (i := 6) (v := .func (.func 30) #[] #[]) (some 27) rfl rfl (by kernel_rfl) (by kernel_rfl) (by kernel_rfl) (fun _ _ _ h => h) (Or.inl ⟨by kernel_rfl, fun wq hw => by obtain ⟨q1, q2, q3, q4, q5, q6, q7, q8⟩ := HRD.out _ hw; go_simp⟩) hHeld ?_
        simp only [Act.put, List.setIfInBounds_toArray, List.set_cons_succ, List.set_cons_zero]
        refine drawn_take (i := 7) (v := .pointer (some ⟨h, 0, none⟩)) (some 28) rfl rfl (by kernel_rfl) (by kernel_rfl) (by kernel_rfl) (fun _ _ _ h => h) (Or.inl ⟨by kernel_rfl, fun wq hw => by go_simp⟩) hHeld ?_
        simp only [Act.put, List.setIfInBounds_toArray, List.set_cons_succ, List.set_cons_zero]
        refine drawn_take (i := 8) (v := .pointer (some ⟨h, 0, none⟩)) (some 29) rfl rfl (by kernel_rfl) (by kernel_rfl) (by kernel_rfl) (fun _ _ _ h => h) (Or.inl ⟨by kernel_rfl, fun wq hw => by go_simp⟩) hHeld ?_
        simp only [Act.put, List.setIfInBounds_toArray, List.set_cons_succ, List.set_cons_zero]
        refine drawn_take (i := 9) (v := .pointer (some ⟨h, 0, none⟩)) (some 30) rfl rfl (by kernel_rfl) (by kernel_rfl) (by kernel_rfl) (fun _ _ _ h => h) (Or.inl ⟨by kernel_rfl, fun wq hw => by go_simp⟩) hHeld ?_
        simp only [Act.put, List.setIfInBounds_toArray, List.set_cons_succ, List.set_cons_zero]
        refine drawn_take (i := 10) (v := .slice (some ⟨g3, 0, none⟩) (n + 1) c3) (some 31) rfl rfl (by kernel_rfl) (by kernel_rfl) (by kernel_rfl) (fun _ _ _ h => h) (Or.inl ⟨by kernel_rfl, fun wq hw => by obtain ⟨q1, q2, q3, q4, q5, q6, q7, q8⟩ := HRD.out _ hw; go_simp⟩) hHeld ?_
        simp only [Act.put, List.setIfInBounds_toArray, List.set_cons_succ, List.set_cons_zero]
        refine drawn_take (i := 11) (v := .int .i64 (p : Int)) (some 32) rfl rfl (by kernel_rfl) (by kernel_rfl) (by kernel_rfl) (fun _ _ _ h => h) (Or.inl ⟨by kernel_rfl, fun wq hw => by go_simp⟩) hHeld ?_
        simp only [Act.put, List.setIfInBounds_toArray, List.set_cons_succ, List.set_cons_zero]
        refine drawn_take (i := 12) (v := .pointer (some ⟨g3, p * 3, none⟩)) (some 33) rfl rfl (by kernel_rfl) (by kernel_rfl) (by kernel_rfl) (fun _ _ _ h => h) (Or.inl ⟨by kernel_rfl, fun wq hw => by go_simp <;> (intro h8; exfalso; omega)⟩) hHeld ?_
        simp only [Act.put, List.setIfInBounds_toArray, List.set_cons_succ, List.set_cons_zero]
        refine drawn_take (i := 13) (v := .agg #[.slice (some ⟨bp, op, none⟩) lp cp, .int .i64 rp, .int .i64 pp]) (some 34) rfl rfl (by kernel_rfl) (by kernel_rfl) (by kernel_rfl) (fun _ _ _ h => h) (Or.inl ⟨by kernel_rfl, fun wq hw => by obtain ⟨q1, q2, q3, q4, q5, q6, q7, q8⟩ := HRD.out _ hw; go_simp⟩) hHeld ?_
        simp only [Act.put, List.setIfInBounds_toArray, List.set_cons_succ, List.set_cons_zero]
        refine drawn_take (i := 14) (v := .pointer (some ⟨h, 0, none⟩)) (some 35) rfl rfl (by kernel_rfl) (by kernel_rfl) (by kernel_rfl) (fun _ _ _ h => h) (Or.inl ⟨by kernel_rfl, fun wq hw => by go_simp⟩) hHeld ?_
        simp only [Act.put, List.setIfInBounds_toArray, List.set_cons_succ, List.set_cons_zero]
        refine drawn_take (i := 15) (v := .pointer (some ⟨h, 0, none⟩)) (some 36) rfl rfl (by kernel_rfl) (by kernel_rfl) (by kernel_rfl) (fun _ _ _ h => h) (Or.inl ⟨by kernel_rfl, fun wq hw => by go_simp⟩) hHeld ?_
        simp only [Act.put, List.setIfInBounds_toArray, List.set_cons_succ, List.set_cons_zero]
        refine drawn_take (i := 16) (v := .pointer (some ⟨h, 0, none⟩)) (some 37) rfl rfl (by kernel_rfl) (by kernel_rfl) (by kernel_rfl) (fun _ _ _ h => h) (Or.inl ⟨by kernel_rfl, fun wq hw => by go_simp⟩) hHeld ?_
        simp only [Act.put, List.setIfInBounds_toArray, List.set_cons_succ, List.set_cons_zero]
        refine drawn_take (i := 17) (v := .slice (some ⟨g3, 0, none⟩) (n + 1) c3) (some 38) rfl rfl (by kernel_rfl) (by kernel_rfl) (by kernel_rfl) (fun _ _ _ h => h) (Or.inl ⟨by kernel_rfl, fun wq hw => by obtain ⟨q1, q2, q3, q4, q5, q6, q7, q8⟩ := HRD.out _ hw; go_simp⟩) hHeld ?_
        simp only [Act.put, List.setIfInBounds_toArray, List.set_cons_succ, List.set_cons_zero]
        refine drawn_take (i := 18) (v := .int .i64 (p : Int)) (some 39) rfl rfl (by kernel_rfl) (by kernel_rfl) (by kernel_rfl) (fun _ _ _ h => h) (Or.inl ⟨by kernel_rfl, fun wq hw => by go_simp⟩) hHeld ?_
        simp only [Act.put, List.setIfInBounds_toArray, List.set_cons_succ, List.set_cons_zero]
        refine wpAnyH_ready (rs := [19]) (by kernel_rfl) (by simp) ?_
        refine rdy_callw (i := 19) rfl (by kernel_rfl) (some 40) rfl 38 #[.int .i64 (p : Int)] (call1_run (x := 39) rfl (fun _ _ => rfl) (by kernel_rfl)) (fun r w9 => r = .int .i64 (q : Int) ∧ w9 = w5.drew) ((HAB2.out w5.drew).mono (by rintro e w9 ⟨rfl, h9⟩; exact ⟨_, rfl, rfl, h9⟩)) (fun r w9 hR => ?_) rdy_nil
        obtain ⟨rfl, rfl⟩ := hR
        refine ⟨hHeld, fun hHeld => ?_⟩
        simp only [Act.put, List.setIfInBounds_toArray, List.set_cons_succ, List.set_cons_zero]
        refine drawn_take (i := 20) (v := .pointer (some ⟨g3, q * 3, none⟩)) (some 41) rfl rfl (by kernel_rfl) (by kernel_rfl) (by kernel_rfl) (fun _ _ _ h => h) (Or.inl ⟨by kernel_rfl, fun wq hw => by go_simp <;> (intro h8; exfalso; omega)⟩) hHeld ?_
        simp only [Act.put, List.setIfInBounds_toArray, List.set_cons_succ, List.set_cons_zero]
        refine drawn_take (i := 21) (v := .agg #[.slice (some ⟨bq, oq, none⟩) lq cq, .int .i64 rq, .int .i64 pq]) (some 42) rfl rfl (by kernel_rfl) (by kernel_rfl) (by kernel_rfl) (fun _ _ _ h => h) (Or.inl ⟨by kernel_rfl, fun wq hw => by obtain ⟨q1, q2, q3, q4, q5, q6, q7, q8⟩ := HRD.out _ hw; go_simp⟩) hHeld ?_
        simp only [Act.put, List.setIfInBounds_toArray, List.set_cons_succ, List.set_cons_zero]
        refine wpAnyH_ready (rs := [22]) (by kernel_rfl) (by simp) ?_
        refine rdy_callw (i := 22) rfl (by kernel_rfl) (some 43) rfl 30 #[.agg #[.slice (some ⟨bp, op, none⟩) lp cp, .int .i64 rp, .int .i64 pp], .agg #[.slice (some ⟨bq, oq, none⟩) lq cq, .int .i64 rq, .int .i64 pq]] (callV2_run (z := 27) (x := 34) (y := 42) rfl (by kernel_rfl) (fun _ _ => rfl) (by kernel_rfl) (by kernel_rfl)) (fun r w9 => r = .bool ab ∧ Below w5.heap.size w5 w9) (HAH.out.mono (by rintro e w9 ⟨rfl, h9⟩; exact ⟨_, rfl, rfl, ((Below.refl _ w5).drew).trans h9⟩)) (fun r w9 hR => ?_) rdy_nil
        obtain ⟨rfl, h9⟩ := hR
        refine ⟨h9, fun hHeld => ?_⟩
        simp only [Act.put, List.setIfInBounds_toArray, List.set_cons_succ, List.set_cons_zero]
        refine drawn_take (i := 23) (v := .bool ab) (some 44) rfl rfl (by kernel_rfl) (by kernel_rfl) (by kernel_rfl) (fun _ _ _ h => h) (Or.inl ⟨by kernel_rfl, fun wq hw => by go_simp⟩) hHeld ?_
        simp only [Act.put, List.setIfInBounds_toArray, List.set_cons_succ, List.set_cons_zero]
        refine wpAnyH_done (by kernel_rfl) ?_ _
        refine NoPanic.normal ?_
        clear hHeld
        have H3 := hidn (H2.out.below h9)
        clear h9
        cases ab
        · have HHP : Hid (Heap T r1) := hidn (up_end HX.out (.inr (by rw [← HQE.out]; exact HAB.out.symm)))
          go_wp2_with fail
          go_end0
          exact ⟨rfl, g3, c3, r1, HP.out, HHP.out, ⟨by rw [H3.out.1]; exact H3.out.2.1, by rw [H3.out.1]; exact H3.out.2.2.1, HBH.out⟩, HB4.out.trans (H3.out.2.2.2.below HBS.out HBG.out), fun k hk h1 h2 => (H3.out.2.2.2.2.2.2.2 k (Nat.lt_of_lt_of_le hk HSZ.out) (HG3.out k hk h2)).trans (HFR.out k hk h1 h2)⟩
        · have HXN : Hid (HeapU T (swapL r1 p q) q) := hidn (by
            have h8 := up_step HX.out (by omega) (by rw [H2.out.1]; omega) (by rw [← HQE.out]; exact HAB.out.symm)
            rw [← HQE.out] at h8
            exact h8)
          have HPN : Hid ((swapL r1 p q).Perm (rs ++ [(⟨some ⟨bb, ob, none⟩, l1, c1, k1, p1⟩ : Run)])) := hidn ((swapL_perm r1 p q (by rw [H2.out.1]; omega) (by rw [H2.out.1]; omega)).trans HP.out)
          have HSW := hidn (hps_swap (i := p) (j := q) H3.out (by omega) (by omega))
          go_wp2_with fail
          refine (HAB2.out _).mono ?_
          rintro e w7 ⟨rfl, rfl⟩
          go_wp2_with fail
          refine HSW.out.mono ?_
          rintro e w7 ⟨rfl, h7⟩
          have H7 := hidn h7
          clear h7
          go_wp2_with fail
          refine (HAB2.out _).mono ?_
          rintro e w8 ⟨rfl, rfl⟩
          go_wp2_with fail
          go_roundw
          case rel => first | exact ⟨q, swapL r1 p q, rfl, by omega, HPN, HXN, H7⟩ | (repeat apply Exists.intro; exact ⟨⟨q, swapL r1 p q, rfl, by omega, HPN, HXN, H7⟩, rfl⟩)
          case measure => simp [intOf]; omega
end Go.Proofs.Ytccjgciknaooaaa
