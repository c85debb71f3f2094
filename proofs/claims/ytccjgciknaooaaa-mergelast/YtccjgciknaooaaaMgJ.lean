/- merge: merged, of two lists of two samples and of one. -/
import Derived.Test.YtccjgciknaooaaaMgF
import Derived.Test.YtccjgciknaooaaaMgI
import Derived.Laws.EntriesVeiled
namespace Go.Proofs.Ytccjgciknaooaaa
open Go.RowKit Go.Joins
set_option linter.unusedVariables false

/-- A row of samples lies neither in the heap's block nor in its row's. -/
theorem own_fr {W W' : World} {B n m h : Nat} {v hv : Value} {xs ys : List Value} (ho : W.ownsRow B 36 2 v n xs) (hh : HpB W h hv) (hg : W.ownsRow B 70 3 hv m ys) (hf : ∀ k, k < W.heap.size → k ≠ h → some k ≠ hv.ownBlock → W'.heap[k]? = W.heap[k]?) : W'.ownsRow B 36 2 v n xs := by
  refine own_stay ho (fun k hk => ?_)
  obtain ⟨cur, hcur⟩ : ∃ cur, W.heap[k]? = some (.cells cur 36 (0, 0)) := by
    rcases ho.2 with ⟨h1, _⟩ | ⟨g', cap, cur, h1, hb, hg', _⟩
    · rw [h1] at hk; cases hk
    · rw [h1] at hk
      have e2 : g' = k := by simpa [Value.ownBlock] using hk
      subst e2
      exact ⟨cur, hg'⟩
  refine hf k (ho.lt k hk).2 (fun e => ?_) (fun e => ?_)
  · subst e
    rw [show W.heap[k]? = _ from hh] at hcur
    cases hcur
  · rcases hg.2 with ⟨h1, _⟩ | ⟨g', cap, cur', h1, hb, hg', _⟩
    · rw [h1] at e; cases e
    · rw [h1] at e
      have e2 : k = g' := by simpa [Value.ownBlock] using e
      subst e2
      rw [hg'] at hcur
      cases hcur

theorem own_ne {W : World} {base e size n k : Nat} {v : Value} {xs : List Value} {cs : Array Value} {t : TypeId} (ho : W.ownsRow base e size v n xs) (hk : W.heap[k]? = some (.cells cs t (0, 0))) (ht : t ≠ e) : some k ≠ v.ownBlock := by
  intro e1
  rcases ho.2 with ⟨h1, _⟩ | ⟨g', cap, cur, h1, hb, hg', _⟩
  · rw [h1] at e1; cases e1
  · rw [h1] at e1
    have e2 : k = g' := by simpa [Value.ownBlock] using e1
    subst e2
    rw [hg'] at hk
    cases hk
    exact ht rfl

theorem own_some {W : World} {base e size n : Nat} {v : Value} {xs : List Value} (ho : W.ownsRow base e size v n xs) (h0 : 0 < n) : ∃ g c, v = .slice (some ⟨g, 0, none⟩) n c := by
  rcases ho.2 with ⟨h1, h2⟩ | ⟨g', cap, cur, h1, _⟩
  · omega
  · exact ⟨_, _, h1⟩

/-- The heap stays where only a row of samples changes. -/
theorem hpi_fr {B h n : Nat} {W W' : World} {v hv : Value} {rs : List Run} {xs : List Value} (x : HpI B W h hv rs) (ho : W.ownsRow B 36 2 v n xs) (hf : ∀ k, k < W.heap.size → some k ≠ v.ownBlock → W'.heap[k]? = W.heap[k]?) : HpI B W' h hv rs := by
  obtain ⟨hh, hr, hB⟩ := x
  refine ⟨(hf h (Array.getElem?_eq_some_iff.1 hh).1 (own_ne ho hh (by decide))).trans hh, own_stay hr (fun k hk => hf k (hr.lt k hk).2 ?_), hB⟩
  rcases hr.2 with ⟨h1, _⟩ | ⟨g', cap, cur, h1, hb, hg', _⟩
  · rw [h1] at hk; cases hk
  · rw [h1] at hk
    have e2 : g' = k := by simpa [Value.ownBlock] using hk
    subst e2
    exact own_ne ho hg' (by decide)

/-- A slice's length. -/
def sln (v : Value) : Nat := match v with | .slice _ n _ => n | _ => 0

/-- The two lists lie there. -/
def Two (W : World) (L s0 s1 : Nat) : Prop :=
  W.cell? ⟨L, 0, none⟩ = some (.int .i64 1) ∧ W.cell? ⟨L, 1, none⟩ = some (.slice (some ⟨s0, 0, none⟩) 2 2) ∧ W.cell? ⟨L, 2, none⟩ = some (.int .i64 2) ∧ W.cell? ⟨L, 3, none⟩ = some (.slice (some ⟨s1, 0, none⟩) 1 1) ∧
  W.cell? ⟨s0, 0, none⟩ = some (.int .i64 1) ∧ W.cell? ⟨s0, 1, none⟩ = some (.int .u64 1) ∧ W.cell? ⟨s0, 2, none⟩ = some (.int .i64 3) ∧ W.cell? ⟨s0, 3, none⟩ = some (.int .u64 1) ∧
  W.cell? ⟨s1, 0, none⟩ = some (.int .i64 3) ∧ W.cell? ⟨s1, 1, none⟩ = some (.int .u64 2)

theorem Two.below {W W' : World} {L s0 s1 : Nat} (h : Two W L s0 s1) (hb : Below W.heap.size W W') : Two W' L s0 s1 := by
  obtain ⟨a1, a2, a3, a4, a5, a6, a7, a8, a9, a10⟩ := h
  exact ⟨(hb.cell (block_lt_of_cell a1)).trans a1, (hb.cell (block_lt_of_cell a2)).trans a2, (hb.cell (block_lt_of_cell a3)).trans a3, (hb.cell (block_lt_of_cell a4)).trans a4, (hb.cell (block_lt_of_cell a5)).trans a5, (hb.cell (block_lt_of_cell a6)).trans a6, (hb.cell (block_lt_of_cell a7)).trans a7, (hb.cell (block_lt_of_cell a8)).trans a8, (hb.cell (block_lt_of_cell a9)).trans a9, (hb.cell (block_lt_of_cell a10)).trans a10⟩

def run0 (s0 : Nat) : Run := ⟨some ⟨s0, 0, none⟩, 2, 2, 1, 0⟩
def run1 (s1 : Nat) : Run := ⟨some ⟨s1, 0, none⟩, 1, 1, 2, 1⟩
def run0' (s0 : Nat) : Run := ⟨some ⟨s0, 2, none⟩, 1, 1, 1, 0⟩

/-- The first loop's rounds. -/
def L1 (B : Nat) (W : World) (h s0 s1 : Nat) (k : Nat) : Prop :=
  (k = 0 ∧ HpI B W h (.slice none 0 0) []) ∨ (k = 1 ∧ ∃ g c, HpI B W h (.slice (some ⟨g, 0, none⟩) 1 c) [run0 s0]) ∨ (k = 2 ∧ ∃ g c, HpI B W h (.slice (some ⟨g, 0, none⟩) 2 c) [run0 s0, run1 s1])

/-- The second loop's rounds. -/
def L2 (B : Nat) (W : World) (h s0 s1 : Nat) (av : Value) : Prop :=
  (av = .slice none 0 0 ∧ ∃ g c, HpI B W h (.slice (some ⟨g, 0, none⟩) 2 c) [run0 s0, run1 s1]) ∨
  (W.ownsRow B 36 2 av 1 (vsm [⟨1, 1⟩]) ∧ ∃ g c, HpI B W h (.slice (some ⟨g, 0, none⟩) 2 c) [run1 s1, run0' s0]) ∨
  (W.ownsRow B 36 2 av 2 (vsm [⟨1, 1⟩, ⟨3, 2⟩]) ∧ ∃ g c, HpI B W h (.slice (some ⟨g, 0, none⟩) 1 c) [run0' s0]) ∨
  (W.ownsRow B 36 2 av 2 (vsm [⟨1, 1⟩, ⟨3, 2⟩]) ∧ ∃ g c, HpI B W h (.slice (some ⟨g, 0, none⟩) 0 c) [])

set_option maxHeartbeats 4000000 in
set_option maxRecDepth 100000 in
theorem merged_two (L s0 s1 : Nat) (w : World) (ht : Two w L s0 s1) :
    Calls Try.prog 24 #[.slice (some ⟨L, 0, none⟩) 2 2] w fun e w' => ∃ v, e = .returned v ∧ w'.ownsRow w.heap.size 36 2 v 2 (vsm [⟨1, 1⟩, ⟨3, 2⟩]) ∧ Below w.heap.size w w' := by
  have HT := hidn ht
  have hsL := block_lt_of_cell ht.1
  have hs0 := block_lt_of_cell ht.2.2.2.2.1
  have hs1 := block_lt_of_cell ht.2.2.2.2.2.2.2.2.1
  obtain ⟨w1, hw1⟩ : ∃ w1, w1 = w.alloc (.cells #[.slice none 0 0, .func (.func 30) #[] #[]] 67) := ⟨_, rfl⟩
  have hb1 : Below w.heap.size w w1 := by rw [hw1]; exact (Below.refl _ w).alloc (Nat.le_refl _) _
  have q1 : HpB w1 w.heap.size (.slice none 0 0) := by rw [hw1]; exact heap_alloc_new w _
  have HW1 := hidn hw1
  have HB1 := hidn hb1
  have HI1 : Hid (HpI w.heap.size w1 w.heap.size (.slice none 0 0) []) := hidn ⟨q1, World.ownsRow_nil _ _ _ _, Nat.le_refl _⟩
  clear ht hw1 hb1 q1
  go_enter Try.func24, Try.ntmps24
  go_wp2_with fail
  rw [← HW1.out]
  go_loopw [12] (fun iv wr => ∃ k : Nat, k ≤ 2 ∧ iv = .int .i64 (k : Int) ∧ Hid (Below w.heap.size w wr) ∧ Hid (L1 w.heap.size wr w.heap.size s0 s1 k)) (fun iv _ => 2 - (intOf iv).toNat)
  case atStart => exact ⟨0, by omega, rfl, HB1, hidn (.inl ⟨rfl, HI1.out⟩)⟩
  case round =>
    obtain ⟨k, hk, rfl, HB, HL⟩ := hrel
    obtain ⟨wo, hwo⟩ : ∃ wo, wo = wr := ⟨_, rfl⟩
    subst hwo
    rcases HL.out with ⟨rfl, hx⟩ | ⟨rfl, g, c, hx⟩ | ⟨rfl, g, c, hx⟩
    · obtain ⟨a1, a2, a3, a4, a5, a6, a7, a8, a9, a10⟩ := HT.out.below HB.out
      obtain ⟨w2, hw2⟩ : ∃ w2, w2 = wo.alloc (.cells #[.int .i64 1, .slice (some ⟨s0, 0, none⟩) 2 2] 47) := ⟨_, rfl⟩
      have b2 : Below wo.heap.size wo w2 := by rw [hw2]; exact (Below.refl _ wo).alloc (Nat.le_refl _) _
      have q2 : w2.heap[wo.heap.size]? = some (.cells #[.int .i64 1, .slice (some ⟨s0, 0, none⟩) 2 2] 47 (0, 0)) := by rw [hw2]; exact heap_alloc_new wo _
      have e0 : w2.cell? ⟨wo.heap.size, 0, none⟩ = some (.int .i64 1) := cell_of_row _ _ _ _ _ _ q2
      have e1 : w2.cell? ⟨wo.heap.size, 1, none⟩ = some (.slice (some ⟨s0, 0, none⟩) 2 2) := cell_of_row _ _ _ _ _ _ q2
      have hx2 := hx.below b2
      have HW2 := hidn hw2
      have HB2 := hidn b2
      have HP := hidn (push0 w.heap.size w.heap.size (some ⟨s0, 0, none⟩) 2 2 1 0 w2 hx2 (Nat.le_trans HB.out.size b2.size))
      clear hx2 hw2 b2 q2 hx a5 a6 a7 a8 a9 a10
      go_wp2_with fail
      rw [← HW2.out]
      go_wp2_with fail
      refine HP.out.mono ?_
      rintro e w3 ⟨rfl, g', c', hx3, hb3, _⟩
      have HX3 := hidn hx3
      have HB3 := hidn (HB.out.trans ((HB2.out.mono HB.out.size).trans hb3))
      clear hx3 hb3
      go_wp2_with fail
      go_roundw
      case rel => exact ⟨1, by omega, by first | rfl | simp, HB3, hidn (.inr (.inl ⟨rfl, g', c', HX3.out⟩))⟩
      case measure => simp [intOf]
    · obtain ⟨a1, a2, a3, a4, a5, a6, a7, a8, a9, a10⟩ := HT.out.below HB.out
      obtain ⟨w2, hw2⟩ : ∃ w2, w2 = wo.alloc (.cells #[.int .i64 2, .slice (some ⟨s1, 0, none⟩) 1 1] 47) := ⟨_, rfl⟩
      have b2 : Below wo.heap.size wo w2 := by rw [hw2]; exact (Below.refl _ wo).alloc (Nat.le_refl _) _
      have q2 : w2.heap[wo.heap.size]? = some (.cells #[.int .i64 2, .slice (some ⟨s1, 0, none⟩) 1 1] 47 (0, 0)) := by rw [hw2]; exact heap_alloc_new wo _
      have e0 : w2.cell? ⟨wo.heap.size, 0, none⟩ = some (.int .i64 2) := cell_of_row _ _ _ _ _ _ q2
      have e1 : w2.cell? ⟨wo.heap.size, 1, none⟩ = some (.slice (some ⟨s1, 0, none⟩) 1 1) := cell_of_row _ _ _ _ _ _ q2
      have hx2 := hx.below b2
      have HW2 := hidn hw2
      have HB2 := hidn b2
      have HP := hidn (push1 w.heap.size w.heap.size s0 0 g c 2 2 1 0 s1 0 1 3 1 1 2 1 w2 hx2 (Nat.le_trans HB.out.size b2.size) (by omega) (by omega) hs0 hs1 ((b2.cell (block_lt_of_cell a5)).trans a5) ((b2.cell (block_lt_of_cell a9)).trans a9) (by decide))
      clear hx2 hw2 b2 q2 hx a5 a6 a7 a8 a9 a10
      go_wp2_with fail
      rw [← HW2.out]
      go_wp2_with fail
      refine HP.out.mono ?_
      rintro e w3 ⟨rfl, g', c', hx3, hb3, _⟩
      have HX3 := hidn hx3
      have HB3 := hidn (HB.out.trans ((HB2.out.mono HB.out.size).trans hb3))
      clear hx3 hb3
      go_wp2_with fail
      go_roundw
      case rel => exact ⟨2, by omega, by first | rfl | simp, HB3, hidn (.inr (.inr ⟨rfl, g', c', HX3.out⟩))⟩
      case measure => simp [intOf]
    · clear HL
      go_wp2_with fail
      go_loopw [6] (fun av wr => Hid (Below w.heap.size w wr) ∧ Hid (L2 w.heap.size wr w.heap.size s0 s1 av)) (fun av wr => (2 - sln av) + sln ((wr.cell? ⟨w.heap.size, 0, none⟩).getD undef))
      case atStart => exact ⟨HB, hidn (.inl ⟨rfl, g, c, hx⟩)⟩
      case round =>
        clear HB hx
        obtain ⟨HB, HL⟩ := hrel
        obtain ⟨wo, hwo⟩ : ∃ wo, wo = wr := ⟨_, rfl⟩
        subst hwo
        rcases HL.out with ⟨rfl, g, c, hx⟩ | ⟨ho, g, c, hx⟩ | ⟨ho, g, c, hx⟩ | ⟨ho, g, c, hx⟩
        · clear HL
          have h0 : wo.cell? ⟨w.heap.size, 0, none⟩ = some (.slice (some ⟨g, 0, none⟩) 2 c) := cell_of_row wo _ 0 _ _ _ hx.1
          have HP : Hid (Calls Try.prog 32 #[.pointer (some ⟨w.heap.size, 0, none⟩)] wo (fun e w' => e = .returned (.agg #[.slice (some ⟨s0, 0, none⟩) 2 2, .int .i64 1, .int .i64 0]) ∧ HpI w.heap.size w' w.heap.size (.slice (some ⟨g, 0, none⟩) 1 c) [run1 s1] ∧ Below w.heap.size wo w' ∧ ∀ k, k < wo.heap.size → k ≠ w.heap.size → k ≠ g → w'.heap[k]? = wo.heap[k]?)) := hidn (pop2 w.heap.size w.heap.size g c (some ⟨s0, 0, none⟩) (some ⟨s1, 0, none⟩) 2 2 1 1 1 0 2 1 wo hx HB.out.size)
          have HOF : Hid (∀ wa : World, (∀ k, k < wo.heap.size → k ≠ w.heap.size → k ≠ g → wa.heap[k]? = wo.heap[k]?) → wa.ownsRow w.heap.size 36 2 (.slice none 0 0) 0 (vsm [])) := hidn (fun wa _ => World.ownsRow_nil _ _ _ _)
          clear hx
          go_wp2_with fail
          refine HP.out.mono ?_
          rintro e wa ⟨rfl, hxa, hba, hfa⟩
          obtain ⟨a1, a2, a3, a4, a5, a6, a7, a8, a9, a10⟩ := HT.out.below (HB.out.trans hba)
          have HOA := hidn (HOF.out wa hfa)
          have HXA := hidn hxa
          have HBA := hidn (HB.out.trans hba)
          have d5 : (wa.alloc (.cells #[.slice (some ⟨s0, 0, none⟩) 2 2, .int .i64 1, .int .i64 0] 70)).cell? ⟨s0, 0, none⟩ = some (.int .i64 1) := Lib.cell?_alloc_some _ a5
          have d6 : (wa.alloc (.cells #[.slice (some ⟨s0, 0, none⟩) 2 2, .int .i64 1, .int .i64 0] 70)).cell? ⟨s0, 1, none⟩ = some (.int .u64 1) := Lib.cell?_alloc_some _ a6
          clear HP HOF hxa hfa hba a1 a2 a3 a4 a5 a6 a7 a8 a9 a10
          obtain ⟨wb, hwb⟩ : ∃ wb, wb = (wa.alloc (.cells #[.slice (some ⟨s0, 0, none⟩) 2 2, .int .i64 1, .int .i64 0] 70)).alloc (.cells #[.int .i64 1, .int .u64 1] 36) := ⟨_, rfl⟩
          have bb : Below wa.heap.size wa wb := by rw [hwb]; exact ((Below.refl _ wa).alloc (Nat.le_refl _) _).alloc (by simp) _
          have q7 : wb.heap[wa.heap.size]? = some (.cells #[.slice (some ⟨s0, 0, none⟩) 2 2, .int .i64 1, .int .i64 0] 70 (0, 0)) := by rw [hwb]; exact heap_alloc2_old wa _ _
          have q8 : wb.heap[wa.heap.size + 1]? = some (.cells #[.int .i64 1, .int .u64 1] 36 (0, 0)) := by rw [hwb]; exact heap_alloc2_new wa _ _
          have HWB := hidn hwb
          have HBB := hidn bb
          have HQ7 := hidn q7
          have HQ8 := hidn q8
          have f0 : wb.cell? ⟨wa.heap.size + 1, 0, none⟩ = some (.int .i64 1) := cell_of_row _ _ _ _ _ _ q8
          have f1 : wb.cell? ⟨wa.heap.size + 1, 1, none⟩ = some (.int .u64 1) := cell_of_row _ _ _ _ _ _ q8
          clear hwb bb q7 q8
          go_wp2_with fail
          rw [← HWB.out]
          go_region
          obtain ⟨wc, hwc⟩ : ∃ wc, wc = wb.drew.alloc (.cells #[.int .i64 1, .int .u64 1] 36) := ⟨_, rfl⟩
          have HWC : Hid (wc = (wb.alloc (.cells #[.int .i64 1, .int .u64 1] 36)).drew) := hidn hwc
          have HWC2 := hidn hwc
          have bc : Below wa.heap.size wa wc := by rw [hwc]; exact (HBB.out.drew).alloc HBB.out.size _
          have bc2 : Below wb.heap.size wb wc := by rw [hwc]; exact ((Below.refl _ wb).drew).alloc (Nat.le_refl _) _
          have qc : wc.heap[wb.heap.size]? = some (.cells #[.int .i64 1, .int .u64 1] 36 (0, 0)) := by rw [hwc]; exact heap_alloc_new wb.drew _
          have q7c : wc.heap[wa.heap.size]? = some (.cells #[.slice (some ⟨s0, 0, none⟩) 2 2, .int .i64 1, .int .i64 0] 70 (0, 0)) := (bc2.block _ (Array.getElem?_eq_some_iff.1 HQ7.out).1).trans HQ7.out
          obtain ⟨gn, cn, wd, hr, hod, hgd⟩ := app_sam1 (l := []) (own_skip HOA.out bc) (Nat.le_trans HBA.out.size bc.size) (by omega) (⟨1, 1⟩ : Sam) ⟨wb.heap.size, 0, none⟩ (cell_of_row _ _ _ _ _ _ qc) (cell_of_row _ _ 1 _ _ _ qc)
          have q7d : wd.heap[wa.heap.size]? = some (.cells #[.slice (some ⟨s0, 0, none⟩) 2 2, .int .i64 1, .int .i64 0] 70 (0, 0)) := (hgd.block _ (Array.getElem?_eq_some_iff.1 q7c).1 (own_ne (own_skip HOA.out bc) q7c (by decide))).trans q7c
          have HR := hidn hr
          have fd : ∀ k, k < wa.heap.size → some k ≠ (.slice none 0 0 : Value).ownBlock → wd.heap[k]? = wa.heap[k]? := fun k hk hn => (hgd.block k (Nat.lt_of_lt_of_le hk bc.size) hn).trans (bc.block k hk)
          have bd : Below w.heap.size w wd := (HBA.out.trans (bc.mono HBA.out.size)).grown hgd (Nat.le_trans HBA.out.size bc.size) (fun k hk => (HOA.out.lt k hk).1)
          have c7 : wd.cell? ⟨wa.heap.size, 0, none⟩ = some (.slice (some ⟨s0, 0, none⟩) 2 2) := cell_of_row _ _ _ _ _ _ q7d
          have c71 : wd.cell? ⟨wa.heap.size, 1, none⟩ = some (.int .i64 1) := cell_of_row _ _ _ _ _ _ q7d
          have c72 : wd.cell? ⟨wa.heap.size, 2, none⟩ = some (.int .i64 0) := cell_of_row _ _ _ _ _ _ q7d
          have u7 := unfrozen_of_block q7d 0
          obtain ⟨we, hwe⟩ : ∃ we, we = wd.setCell ⟨wa.heap.size, 0, none⟩ (.slice (some ⟨s0, 2, none⟩) 1 1) := ⟨_, rfl⟩
          have HWE := hidn hwe
          have q7e : we.heap[wa.heap.size]? = some (.cells #[.slice (some ⟨s0, 2, none⟩) 1 1, .int .i64 1, .int .i64 0] 70 (0, 0)) := by rw [hwe]; exact block_setCell q7d _
          have r0 : we.cell? ⟨wa.heap.size, 0, none⟩ = some (.slice (some ⟨s0, 2, none⟩) 1 1) := cell_of_row _ _ _ _ _ _ q7e
          have r1 : we.cell? ⟨wa.heap.size, 1, none⟩ = some (.int .i64 1) := cell_of_row _ _ _ _ _ _ q7e
          have r2 : we.cell? ⟨wa.heap.size, 2, none⟩ = some (.int .i64 0) := cell_of_row _ _ _ _ _ _ q7e
          have HXE := hidn (hpi_fr (W' := we) HXA.out HOA.out (fun k hk hn => by rw [hwe]; exact (Below.heap_setCell _ ⟨wa.heap.size, 0, none⟩ _ _ (Nat.ne_of_lt hk)).trans (fd k hk hn)))
          have HOE : Hid (we.ownsRow w.heap.size 36 2 (.slice (some ⟨gn, 0, none⟩) 1 cn) 1 (vsm [⟨1, 1⟩])) := hidn (own_stay hod (fun k hk => by rw [hwe]; exact Below.heap_setCell _ ⟨wa.heap.size, 0, none⟩ _ _ (fun e => own_ne hod q7d (by decide) (by rw [hk, e]))))
          have HBE : Hid (Below w.heap.size w we) := hidn (by rw [hwe]; exact bd.setCell (p := ⟨wa.heap.size, 0, none⟩) HBA.out.size _)
          have mE := cell_of_row we w.heap.size 0 _ _ _ HXE.out.1
          obtain ⟨a1, a2, a3, a4, a5, a6, a7, a8, a9, a10⟩ := HT.out.below HBE.out
          have HP2 := hidn (push1 w.heap.size w.heap.size s1 0 g c 1 1 2 1 s0 2 3 3 1 1 1 0 we HXE.out HBE.out.size (by omega) (by omega) hs1 hs0 a9 a7 (by decide))
          clear a1 a2 a3 a4 a5 a6 a7 a8 a9 a10
          clear q7e hwe q7d fd bd hod hr hgd q7c qc bc bc2 hwc d5 d6
          go_wp2_with (at_builtin; first | rw [← HWC2.out] | rw [← HWC.out]; refine wpList_app_run2 rfl (.tmp 53) (.tmp 55) 25 25 rfl rfl (.slice none 0 0) (.slice (some ⟨wb.heap.size, 0, none⟩) 1 1) _ rfl rfl HR.out ?_)
          rw [← HWE.out]
          refine HP2.out.mono ?_
          rintro e wf ⟨rfl, g', c', hxf, hbf, hff⟩
          have HXF := hidn hxf
          have HBF := hidn (HBE.out.trans hbf)
          have HOF := hidn (own_fr HOE.out HXE.out.1 HXE.out.2.1 hff)
          have mF := cell_of_row wf w.heap.size 0 _ _ _ hxf.1
          clear hxf hbf hff
          go_wp2_with fail
          go_roundw
          case rel =>
            repeat apply Exists.intro
            exact ⟨⟨HBF, hidn (.inr (.inl ⟨HOF.out, g', c', HXF.out⟩))⟩, rfl⟩
          case measure => simp [sln, mF, h0]
        · clear HL
          have h0 : wo.cell? ⟨w.heap.size, 0, none⟩ = some (.slice (some ⟨g, 0, none⟩) 2 c) := cell_of_row wo _ 0 _ _ _ hx.1
          have HP : Hid (Calls Try.prog 32 #[.pointer (some ⟨w.heap.size, 0, none⟩)] wo (fun e w' => e = .returned (.agg #[.slice (some ⟨s1, 0, none⟩) 1 1, .int .i64 2, .int .i64 1]) ∧ HpI w.heap.size w' w.heap.size (.slice (some ⟨g, 0, none⟩) 1 c) [run0' s0] ∧ Below w.heap.size wo w' ∧ ∀ k, k < wo.heap.size → k ≠ w.heap.size → k ≠ g → w'.heap[k]? = wo.heap[k]?)) := hidn (pop2 w.heap.size w.heap.size g c (some ⟨s1, 0, none⟩) (some ⟨s0, 2, none⟩) 1 1 1 1 2 1 1 0 wo hx HB.out.size)
          obtain ⟨ga, ca, rfl⟩ := own_some ho (by omega)
          have HOF : Hid (∀ wa : World, (∀ k, k < wo.heap.size → k ≠ w.heap.size → k ≠ g → wa.heap[k]? = wo.heap[k]?) → wa.ownsRow w.heap.size 36 2 (.slice (some ⟨ga, 0, none⟩) 1 ca) 1 (vsm [⟨1, 1⟩])) := hidn (fun wa hfa => own_fr ho hx.1 hx.2.1 (fun k a b cc => hfa k a b (fun e => cc (by rw [e]; rfl))))
          clear ho
          clear hx
          go_wp2_with fail
          refine HP.out.mono ?_
          rintro e wa ⟨rfl, hxa, hba, hfa⟩
          obtain ⟨a1, a2, a3, a4, a5, a6, a7, a8, a9, a10⟩ := HT.out.below (HB.out.trans hba)
          have HOA := hidn (HOF.out wa hfa)
          have HXA := hidn hxa
          have HBA := hidn (HB.out.trans hba)
          have d5 : (wa.alloc (.cells #[.slice (some ⟨s1, 0, none⟩) 1 1, .int .i64 2, .int .i64 1] 70)).cell? ⟨s1, 0, none⟩ = some (.int .i64 3) := Lib.cell?_alloc_some _ a9
          have d6 : (wa.alloc (.cells #[.slice (some ⟨s1, 0, none⟩) 1 1, .int .i64 2, .int .i64 1] 70)).cell? ⟨s1, 1, none⟩ = some (.int .u64 2) := Lib.cell?_alloc_some _ a10
          clear HP HOF hxa hfa hba a1 a2 a3 a4 a5 a6 a7 a8 a9 a10
          obtain ⟨wb, hwb⟩ : ∃ wb, wb = (wa.alloc (.cells #[.slice (some ⟨s1, 0, none⟩) 1 1, .int .i64 2, .int .i64 1] 70)).alloc (.cells #[.int .i64 3, .int .u64 2] 36) := ⟨_, rfl⟩
          have bb : Below wa.heap.size wa wb := by rw [hwb]; exact ((Below.refl _ wa).alloc (Nat.le_refl _) _).alloc (by simp) _
          have q7 : wb.heap[wa.heap.size]? = some (.cells #[.slice (some ⟨s1, 0, none⟩) 1 1, .int .i64 2, .int .i64 1] 70 (0, 0)) := by rw [hwb]; exact heap_alloc2_old wa _ _
          have q8 : wb.heap[wa.heap.size + 1]? = some (.cells #[.int .i64 3, .int .u64 2] 36 (0, 0)) := by rw [hwb]; exact heap_alloc2_new wa _ _
          have HWB := hidn hwb
          have HBB := hidn bb
          have HQ7 := hidn q7
          have HQ8 := hidn q8
          have f0 : wb.cell? ⟨wa.heap.size + 1, 0, none⟩ = some (.int .i64 3) := cell_of_row _ _ _ _ _ _ q8
          have f1 : wb.cell? ⟨wa.heap.size + 1, 1, none⟩ = some (.int .u64 2) := cell_of_row _ _ _ _ _ _ q8
          have hrow := (own_skip HOA.out bb).cells (g := ga) rfl
          have g0 : wb.cell? ⟨ga, 0, none⟩ = some (.int .i64 1) := by have q := hrow 0 _ rfl; rw [add_none, Nat.zero_add] at q; exact q
          clear hrow
          clear hwb bb q7 q8
          go_wp2_with fail
          rw [← HWB.out]
          go_region
          obtain ⟨wc, hwc⟩ : ∃ wc, wc = wb.drew.alloc (.cells #[.int .i64 3, .int .u64 2] 36) := ⟨_, rfl⟩
          have HWC : Hid (wc = (wb.alloc (.cells #[.int .i64 3, .int .u64 2] 36)).drew) := hidn hwc
          have HWC2 := hidn hwc
          have bc : Below wa.heap.size wa wc := by rw [hwc]; exact (HBB.out.drew).alloc HBB.out.size _
          have bc2 : Below wb.heap.size wb wc := by rw [hwc]; exact ((Below.refl _ wb).drew).alloc (Nat.le_refl _) _
          have qc : wc.heap[wb.heap.size]? = some (.cells #[.int .i64 3, .int .u64 2] 36 (0, 0)) := by rw [hwc]; exact heap_alloc_new wb.drew _
          have q7c : wc.heap[wa.heap.size]? = some (.cells #[.slice (some ⟨s1, 0, none⟩) 1 1, .int .i64 2, .int .i64 1] 70 (0, 0)) := (bc2.block _ (Array.getElem?_eq_some_iff.1 HQ7.out).1).trans HQ7.out
          obtain ⟨gn, cn, wd, hr, hod, hgd⟩ := app_sam1 (l := [⟨1, 1⟩]) (own_skip HOA.out bc) (Nat.le_trans HBA.out.size bc.size) (by omega) (⟨3, 2⟩ : Sam) ⟨wb.heap.size, 0, none⟩ (cell_of_row _ _ _ _ _ _ qc) (cell_of_row _ _ 1 _ _ _ qc)
          have q7d : wd.heap[wa.heap.size]? = some (.cells #[.slice (some ⟨s1, 0, none⟩) 1 1, .int .i64 2, .int .i64 1] 70 (0, 0)) := (hgd.block _ (Array.getElem?_eq_some_iff.1 q7c).1 (own_ne (own_skip HOA.out bc) q7c (by decide))).trans q7c
          have HR := hidn hr
          have fd : ∀ k, k < wa.heap.size → some k ≠ (.slice (some ⟨ga, 0, none⟩) 1 ca : Value).ownBlock → wd.heap[k]? = wa.heap[k]? := fun k hk hn => (hgd.block k (Nat.lt_of_lt_of_le hk bc.size) hn).trans (bc.block k hk)
          have bd : Below w.heap.size w wd := (HBA.out.trans (bc.mono HBA.out.size)).grown hgd (Nat.le_trans HBA.out.size bc.size) (fun k hk => (HOA.out.lt k hk).1)
          have c7 : wd.cell? ⟨wa.heap.size, 0, none⟩ = some (.slice (some ⟨s1, 0, none⟩) 1 1) := cell_of_row _ _ _ _ _ _ q7d
          have c71 : wd.cell? ⟨wa.heap.size, 1, none⟩ = some (.int .i64 2) := cell_of_row _ _ _ _ _ _ q7d
          have c72 : wd.cell? ⟨wa.heap.size, 2, none⟩ = some (.int .i64 1) := cell_of_row _ _ _ _ _ _ q7d
          have u7 := unfrozen_of_block q7d 0
          obtain ⟨we, hwe⟩ : ∃ we, we = wd.setCell ⟨wa.heap.size, 0, none⟩ (.slice (some ⟨s1, 0, none⟩) 0 0) := ⟨_, rfl⟩
          have HWE := hidn hwe
          have q7e : we.heap[wa.heap.size]? = some (.cells #[.slice (some ⟨s1, 0, none⟩) 0 0, .int .i64 2, .int .i64 1] 70 (0, 0)) := by rw [hwe]; exact block_setCell q7d _
          have r0 : we.cell? ⟨wa.heap.size, 0, none⟩ = some (.slice (some ⟨s1, 0, none⟩) 0 0) := cell_of_row _ _ _ _ _ _ q7e
          have r1 : we.cell? ⟨wa.heap.size, 1, none⟩ = some (.int .i64 2) := cell_of_row _ _ _ _ _ _ q7e
          have r2 : we.cell? ⟨wa.heap.size, 2, none⟩ = some (.int .i64 1) := cell_of_row _ _ _ _ _ _ q7e
          have HXE := hidn (hpi_fr (W' := we) HXA.out HOA.out (fun k hk hn => by rw [hwe]; exact (Below.heap_setCell _ ⟨wa.heap.size, 0, none⟩ _ _ (Nat.ne_of_lt hk)).trans (fd k hk hn)))
          have HOE : Hid (we.ownsRow w.heap.size 36 2 (.slice (some ⟨gn, 0, none⟩) 2 cn) 2 (vsm [⟨1, 1⟩, ⟨3, 2⟩])) := hidn (own_stay hod (fun k hk => by rw [hwe]; exact Below.heap_setCell _ ⟨wa.heap.size, 0, none⟩ _ _ (fun e => own_ne hod q7d (by decide) (by rw [hk, e]))))
          have HBE : Hid (Below w.heap.size w we) := hidn (by rw [hwe]; exact bd.setCell (p := ⟨wa.heap.size, 0, none⟩) HBA.out.size _)
          have mE := cell_of_row we w.heap.size 0 _ _ _ HXE.out.1
          clear q7e hwe q7d fd bd hod hr hgd q7c qc bc bc2 hwc d5 d6
          go_wp2_with (at_builtin; first | rw [← HWC2.out] | rw [← HWC.out]; refine wpList_app_run2 rfl (.tmp 53) (.tmp 55) 25 25 rfl rfl (.slice (some ⟨ga, 0, none⟩) 1 ca) (.slice (some ⟨wb.heap.size, 0, none⟩) 1 1) _ rfl rfl HR.out ?_)
          go_roundw
          case rel =>
            rw [← HWE.out]
            repeat apply Exists.intro
            exact ⟨⟨HBE, hidn (.inr (.inr (.inl ⟨HOE.out, g, c, HXE.out⟩)))⟩, rfl⟩
          case measure => rw [← HWE.out]; simp [sln, mE, h0]
        · clear HL
          have h0 : wo.cell? ⟨w.heap.size, 0, none⟩ = some (.slice (some ⟨g, 0, none⟩) 1 c) := cell_of_row wo _ 0 _ _ _ hx.1
          have HP : Hid (Calls Try.prog 32 #[.pointer (some ⟨w.heap.size, 0, none⟩)] wo (fun e w' => e = .returned (.agg #[.slice (some ⟨s0, 2, none⟩) 1 1, .int .i64 1, .int .i64 0]) ∧ HpI w.heap.size w' w.heap.size (.slice (some ⟨g, 0, none⟩) 0 c) [] ∧ Below w.heap.size wo w' ∧ ∀ k, k < wo.heap.size → k ≠ w.heap.size → k ≠ g → w'.heap[k]? = wo.heap[k]?)) := hidn (pop1 w.heap.size w.heap.size g c (some ⟨s0, 2, none⟩) 1 1 1 0 wo hx HB.out.size)
          obtain ⟨ga, ca, rfl⟩ := own_some ho (by omega)
          have HOF : Hid (∀ wa : World, (∀ k, k < wo.heap.size → k ≠ w.heap.size → k ≠ g → wa.heap[k]? = wo.heap[k]?) → wa.ownsRow w.heap.size 36 2 (.slice (some ⟨ga, 0, none⟩) 2 ca) 2 (vsm [⟨1, 1⟩, ⟨3, 2⟩])) := hidn (fun wa hfa => own_fr ho hx.1 hx.2.1 (fun k a b cc => hfa k a b (fun e => cc (by rw [e]; rfl))))
          clear ho
          clear hx
          go_wp2_with fail
          refine HP.out.mono ?_
          rintro e wa ⟨rfl, hxa, hba, hfa⟩
          obtain ⟨a1, a2, a3, a4, a5, a6, a7, a8, a9, a10⟩ := HT.out.below (HB.out.trans hba)
          have HOA := hidn (HOF.out wa hfa)
          have HXA := hidn hxa
          have HBA := hidn (HB.out.trans hba)
          have d5 : (wa.alloc (.cells #[.slice (some ⟨s0, 2, none⟩) 1 1, .int .i64 1, .int .i64 0] 70)).cell? ⟨s0, 2, none⟩ = some (.int .i64 3) := Lib.cell?_alloc_some _ a7
          have d6 : (wa.alloc (.cells #[.slice (some ⟨s0, 2, none⟩) 1 1, .int .i64 1, .int .i64 0] 70)).cell? ⟨s0, 3, none⟩ = some (.int .u64 1) := Lib.cell?_alloc_some _ a8
          clear HP HOF hxa hfa hba a1 a2 a3 a4 a5 a6 a7 a8 a9 a10
          obtain ⟨wb, hwb⟩ : ∃ wb, wb = (wa.alloc (.cells #[.slice (some ⟨s0, 2, none⟩) 1 1, .int .i64 1, .int .i64 0] 70)).alloc (.cells #[.int .i64 3, .int .u64 1] 36) := ⟨_, rfl⟩
          have bb : Below wa.heap.size wa wb := by rw [hwb]; exact ((Below.refl _ wa).alloc (Nat.le_refl _) _).alloc (by simp) _
          have q7 : wb.heap[wa.heap.size]? = some (.cells #[.slice (some ⟨s0, 2, none⟩) 1 1, .int .i64 1, .int .i64 0] 70 (0, 0)) := by rw [hwb]; exact heap_alloc2_old wa _ _
          have q8 : wb.heap[wa.heap.size + 1]? = some (.cells #[.int .i64 3, .int .u64 1] 36 (0, 0)) := by rw [hwb]; exact heap_alloc2_new wa _ _
          have HWB := hidn hwb
          have HBB := hidn bb
          have HQ7 := hidn q7
          have HQ8 := hidn q8
          have f0 : wb.cell? ⟨wa.heap.size + 1, 0, none⟩ = some (.int .i64 3) := cell_of_row _ _ _ _ _ _ q8
          have f1 : wb.cell? ⟨wa.heap.size + 1, 1, none⟩ = some (.int .u64 1) := cell_of_row _ _ _ _ _ _ q8
          have hrow := (own_skip HOA.out bb).cells (g := ga) rfl
          have g0 : wb.cell? ⟨ga, 2, none⟩ = some (.int .i64 3) := by have q := hrow 2 _ rfl; rw [add_none, Nat.zero_add] at q; exact q
          clear hrow
          clear hwb bb q7 q8
          go_wp2_with fail
          rw [← HWB.out]
          go_region
          obtain ⟨wd, hwd⟩ : ∃ wd, wd = wb.drew := ⟨_, rfl⟩
          have HWD := hidn hwd
          have q7d : wd.heap[wa.heap.size]? = some (.cells #[.slice (some ⟨s0, 2, none⟩) 1 1, .int .i64 1, .int .i64 0] 70 (0, 0)) := by rw [hwd]; exact HQ7.out
          have fd : ∀ k, k < wa.heap.size → some k ≠ (.slice (some ⟨ga, 0, none⟩) 2 ca : Value).ownBlock → wd.heap[k]? = wa.heap[k]? := fun k hk hn => by rw [hwd]; exact HBB.out.block k hk
          have bd : Below w.heap.size w wd := by rw [hwd]; exact HBA.out.trans ((HBB.out.mono HBA.out.size).drew)
          have hod := own_skip HOA.out (show Below wa.heap.size wa wd by rw [hwd]; exact HBB.out.drew)
          have c7 : wd.cell? ⟨wa.heap.size, 0, none⟩ = some (.slice (some ⟨s0, 2, none⟩) 1 1) := cell_of_row _ _ _ _ _ _ q7d
          have c71 : wd.cell? ⟨wa.heap.size, 1, none⟩ = some (.int .i64 1) := cell_of_row _ _ _ _ _ _ q7d
          have c72 : wd.cell? ⟨wa.heap.size, 2, none⟩ = some (.int .i64 0) := cell_of_row _ _ _ _ _ _ q7d
          have u7 := unfrozen_of_block q7d 0
          obtain ⟨we, hwe⟩ : ∃ we, we = wd.setCell ⟨wa.heap.size, 0, none⟩ (.slice (some ⟨s0, 2, none⟩) 0 0) := ⟨_, rfl⟩
          have HWE := hidn hwe
          have q7e : we.heap[wa.heap.size]? = some (.cells #[.slice (some ⟨s0, 2, none⟩) 0 0, .int .i64 1, .int .i64 0] 70 (0, 0)) := by rw [hwe]; exact block_setCell q7d _
          have r0 : we.cell? ⟨wa.heap.size, 0, none⟩ = some (.slice (some ⟨s0, 2, none⟩) 0 0) := cell_of_row _ _ _ _ _ _ q7e
          have r1 : we.cell? ⟨wa.heap.size, 1, none⟩ = some (.int .i64 1) := cell_of_row _ _ _ _ _ _ q7e
          have r2 : we.cell? ⟨wa.heap.size, 2, none⟩ = some (.int .i64 0) := cell_of_row _ _ _ _ _ _ q7e
          have HXE := hidn (hpi_fr (W' := we) HXA.out HOA.out (fun k hk hn => by rw [hwe]; exact (Below.heap_setCell _ ⟨wa.heap.size, 0, none⟩ _ _ (Nat.ne_of_lt hk)).trans (fd k hk hn)))
          have HOE : Hid (we.ownsRow w.heap.size 36 2 (.slice (some ⟨ga, 0, none⟩) 2 ca) 2 (vsm [⟨1, 1⟩, ⟨3, 2⟩])) := hidn (own_stay hod (fun k hk => by rw [hwe]; exact Below.heap_setCell _ ⟨wa.heap.size, 0, none⟩ _ _ (fun e => own_ne hod q7d (by decide) (by rw [hk, e]))))
          have HBE : Hid (Below w.heap.size w we) := hidn (by rw [hwe]; exact bd.setCell (p := ⟨wa.heap.size, 0, none⟩) HBA.out.size _)
          have mE := cell_of_row we w.heap.size 0 _ _ _ HXE.out.1
          clear q7e hwe q7d fd bd hod hwd d5 d6
          rw [← HWD.out]
          go_wp2_with fail
          go_roundw
          case rel =>
            rw [← HWE.out]
            repeat apply Exists.intro
            exact ⟨⟨HBE, hidn (.inr (.inr (.inr ⟨HOE.out, g, c, HXE.out⟩)))⟩, rfl⟩
          case measure => rw [← HWE.out]; simp [sln, mE, h0]
        · clear HL
          have h0 : wo.cell? ⟨w.heap.size, 0, none⟩ = some (.slice (some ⟨g, 0, none⟩) 0 c) := cell_of_row wo _ 0 _ _ _ hx.1
          have HO := hidn ho
          clear ho hx
          go_wp2_with fail
          go_ret
          exact ⟨_, rfl, HO.out, HB.out⟩
end Go.Proofs.Ytccjgciknaooaaa
