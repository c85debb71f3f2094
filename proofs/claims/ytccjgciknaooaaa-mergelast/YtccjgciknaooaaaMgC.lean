/- merge: canMerge, ahead, above. -/
import Derived.Test.YtccjgciknaooaaaMgB
namespace Go.Proofs.Ytccjgciknaooaaa
open Go.RowKit Go.Joins
set_option linter.unusedVariables false

/-- Samples of a rank. -/
structure Rk where
  rank : Int
  sa : Option Addr
  sl : Nat
  sc : Nat
  zs : List Sam

/-- Lists of samples of several ranks. -/
def Rks (w : World) (a : Option Addr) (len : Nat) (l : List Rk) : Prop :=
  l.length = len ∧ len ≤ maxLen ∧ (∀ (j : Nat) (r : Rk), l[j]? = some r → Sm w r.sa r.sl r.zs ∧ r.sl ≤ r.sc) ∧
    (0 < len → ∃ b off, a = some ⟨b, off, none⟩ ∧ ∀ (j : Nat) (r : Rk), l[j]? = some r → w.cell? ⟨b, off + j * 2, none⟩ = some (.int .i64 r.rank) ∧ w.cell? ⟨b, off + j * 2 + 1, none⟩ = some (.slice r.sa r.sl r.sc))

theorem Rks.below {w w' : World} {a : Option Addr} {len : Nat} {l : List Rk} (h : Rks w a len l) (hb : Below w.heap.size w w') : Rks w' a len l := by
  obtain ⟨h1, h2, h3, h4⟩ := h
  refine ⟨h1, h2, fun j r hj => ⟨(h3 j r hj).1.below hb, (h3 j r hj).2⟩, fun h0 => ?_⟩
  obtain ⟨b, off, e, hc⟩ := h4 h0
  refine ⟨b, off, e, fun j r hj => ?_⟩
  obtain ⟨c1, c2⟩ := hc j r hj
  exact ⟨(hb.cell (block_lt_of_cell c1)).trans c1, (hb.cell (block_lt_of_cell c2)).trans c2⟩

set_option maxHeartbeats 4000000 in
set_option maxRecDepth 100000 in
/-- Lists that all rise may be merged. -/
theorem canMerge_yes (a : Option Addr) (len cap : Nat) (l : List Rk) (w : World) (h : Rks w a len l) (h40 : len ≤ 40) (hr : ∀ (j : Nat) (r : Rk), l[j]? = some r → riseB r.zs = true) :
    Calls Try.prog 22 #[.slice a len cap] w fun e w' => e = .returned (.bool true) ∧ Below w.heap.size w w' := by
  have HL := hidn h.1
  have H := hidn h
  have HRI := hidn hr
  have n40 : ¬ (40 : Int) < (len : Int) := by omega
  clear h hr
  go_enter Try.func22, Try.ntmps22
  go_wp2_with fail
  go_loopw [10] (fun iv wr => ∃ k : Nat, k ≤ len ∧ iv = .int .i64 (k : Int) ∧ Hid (Below w.heap.size w wr)) (fun iv _ => len - (intOf iv).toNat)
  case atStart => exact ⟨0, Nat.zero_le _, rfl, hidn (Below.refl _ _)⟩
  case round =>
    obtain ⟨k, hk, rfl, HB⟩ := hrel
    by_cases hlt : k < len
    · have hlt2 : (k : Int) < (len : Int) := by omega
      obtain ⟨r, hr⟩ : ∃ r, l[k]? = some r := ⟨_, List.getElem?_eq_getElem (by rw [HL.out]; exact hlt)⟩
      obtain ⟨h1, h2, h3, h4⟩ := H.out.below HB.out
      obtain ⟨b, off, rfl, hc⟩ := h4 (by omega)
      obtain ⟨c0, c1⟩ := hc k r hr
      obtain ⟨hS, _⟩ := h3 k r hr
      have hri := HRI.out k r hr
      obtain ⟨rank, sa, sl, sc, zs⟩ := r
      simp only at c0 c1 hS hri
      obtain ⟨w1, hw1⟩ : ∃ w1, w1 = wr.alloc (.cells #[.int .i64 rank, .slice sa sl sc] 47) := ⟨_, rfl⟩
      have hb1 : Below wr.heap.size wr w1 := by rw [hw1]; exact (Below.refl _ wr).alloc (Nat.le_refl _) _
      have q1 : w1.heap[wr.heap.size]? = some (.cells #[.int .i64 rank, .slice sa sl sc] 47 (0, 0)) := by rw [hw1]; exact heap_alloc_new wr _
      have HRS := hidn (rise_any sa sl sc zs w1 (hS.below hb1))
      rw [hri] at HRS
      have HB1 := hidn (HB.out.trans (hb1.mono HB.out.size))
      have e1 : w1.cell? ⟨wr.heap.size, 1, none⟩ = some (.slice sa sl sc) := cell_of_row _ _ _ _ _ _ q1
      have HW1 := hidn hw1
      clear h1 h2 h3 h4 hc hS hri hr hw1 hb1 q1
      go_wp2_with fail
      rw [← HW1.out]
      refine HRS.out.mono ?_
      rintro e w2 ⟨rfl, b2⟩
      have HB2 := hidn (HB1.out.trans (b2.mono HB1.out.size))
      clear b2
      go_wp2_with fail
      go_roundw
      case rel => exact ⟨k + 1, by omega, by first | rfl | simp, HB2⟩
      case measure => simp [intOf]; omega
    · have hlt2 : ¬ (k : Int) < (len : Int) := by omega
      go_wp2_with fail
      go_ret
      exact ⟨rfl, HB.out⟩

theorem above_one (w : World) : Calls Try.prog 38 #[.int .i64 1] w fun e w' => e = .returned (.int .i64 0) ∧ w' = w := by
  go_enter Try.func38, Try.ntmps38
  go_wp2_with fail
  go_ret
  exact ⟨rfl, rfl⟩

/-- A run: what is left of a list, its rank, its place. -/
structure Run where
  a : Option Addr
  len : Nat
  cap : Nat
  rank : Int
  place : Int

def Run.val (r : Run) : Value := .agg #[.slice r.a r.len r.cap, .int .i64 r.rank, .int .i64 r.place]

/-- Whether a run comes ahead of another one. -/
def aheadB (ta tb ra rb pa pb : Int) : Bool := if ta ≠ tb then decide (ta < tb) else if ra ≠ rb then decide (rb < ra) else decide (pb < pa)

set_option maxHeartbeats 4000000 in
set_option maxRecDepth 100000 in
theorem ahead_any (ba oa la ca bb ob lb cb : Nat) (ta tb ra rb pa pb : Int) (w : World) (hla : 0 < la) (hlb : 0 < lb) (c1 : w.cell? ⟨ba, oa, none⟩ = some (.int .i64 ta)) (c2 : w.cell? ⟨bb, ob, none⟩ = some (.int .i64 tb)) :
    Calls Try.prog 30 #[.agg #[.slice (some ⟨ba, oa, none⟩) la ca, .int .i64 ra, .int .i64 pa], .agg #[.slice (some ⟨bb, ob, none⟩) lb cb, .int .i64 rb, .int .i64 pb]] w fun e w' => e = .returned (.bool (aheadB ta tb ra rb pa pb)) ∧ Below w.heap.size w w' := by
  obtain ⟨w1, hw1⟩ : ∃ w1, w1 = (w.alloc (.cells #[.slice (some ⟨ba, oa, none⟩) la ca, .int .i64 ra, .int .i64 pa] 70)).alloc (.cells #[.slice (some ⟨bb, ob, none⟩) lb cb, .int .i64 rb, .int .i64 pb] 70) := ⟨_, rfl⟩
  have hb1 : Below w.heap.size w w1 := by rw [hw1]; exact ((Below.refl _ w).alloc (Nat.le_refl _) _).alloc (by simp) _
  have q1 : w1.heap[w.heap.size]? = some (.cells #[.slice (some ⟨ba, oa, none⟩) la ca, .int .i64 ra, .int .i64 pa] 70 (0, 0)) := by rw [hw1]; exact heap_alloc2_old w _ _
  have q2 : w1.heap[w.heap.size + 1]? = some (.cells #[.slice (some ⟨bb, ob, none⟩) lb cb, .int .i64 rb, .int .i64 pb] 70 (0, 0)) := by rw [hw1]; exact heap_alloc2_new w _ _
  have d1 := (hb1.cell (block_lt_of_cell c1)).trans c1
  have d2 := (hb1.cell (block_lt_of_cell c2)).trans c2
  have a0 : w1.cell? ⟨w.heap.size, 0, none⟩ = some (.slice (some ⟨ba, oa, none⟩) la ca) := cell_of_row _ _ _ _ _ _ q1
  have a1 : w1.cell? ⟨w.heap.size, 1, none⟩ = some (.int .i64 ra) := cell_of_row _ _ _ _ _ _ q1
  have a2 : w1.cell? ⟨w.heap.size, 2, none⟩ = some (.int .i64 pa) := cell_of_row _ _ _ _ _ _ q1
  have b0 : w1.cell? ⟨w.heap.size + 1, 0, none⟩ = some (.slice (some ⟨bb, ob, none⟩) lb cb) := cell_of_row _ _ _ _ _ _ q2
  have b1 : w1.cell? ⟨w.heap.size + 1, 1, none⟩ = some (.int .i64 rb) := cell_of_row _ _ _ _ _ _ q2
  have b2 : w1.cell? ⟨w.heap.size + 1, 2, none⟩ = some (.int .i64 pb) := cell_of_row _ _ _ _ _ _ q2
  have HB1 := hidn hb1
  have HW1 := hidn hw1
  have hla2 : (0 : Int) < (la : Int) := by omega
  have hlb2 : (0 : Int) < (lb : Int) := by omega
  clear hw1 hb1 q1 q2 c1 c2
  by_cases h1 : ta = tb
  · subst h1
    have e1 : (ta != ta) = false := by simp
    by_cases h2 : ra = rb
    · subst h2
      have e2 : (ra != ra) = false := by simp
      have HC : Hid (aheadB ta ta ra ra pa pb = decide (pb < pa)) := hidn (by unfold aheadB; simp)
      go_enter Try.func30, Try.ntmps30
      go_wp2_with fail
      rw [← HW1.out]
      go_region
      go_wp2_with fail
      go_ret
      exact ⟨by rw [HC.out]; rfl, HB1.out.trans ⟨rfl, rfl, rfl, Nat.le_refl _, fun _ _ => rfl⟩⟩
    · have e2 : (ra != rb) = true := bne_iff_ne.2 h2
      have HC : Hid (aheadB ta ta ra rb pa pb = decide (rb < ra)) := hidn (by unfold aheadB; simp [h2])
      go_enter Try.func30, Try.ntmps30
      go_wp2_with fail
      rw [← HW1.out]
      go_region
      go_wp2_with fail
      go_ret
      exact ⟨by rw [HC.out]; rfl, HB1.out.trans ⟨rfl, rfl, rfl, Nat.le_refl _, fun _ _ => rfl⟩⟩
  · have e1 : (ta != tb) = true := bne_iff_ne.2 h1
    have HC : Hid (aheadB ta tb ra rb pa pb = decide (ta < tb)) := hidn (by unfold aheadB; simp [h1])
    go_enter Try.func30, Try.ntmps30
    go_wp2_with fail
    rw [← HW1.out]
    go_region
    go_wp2_with fail
    go_region
    go_wp2_with fail
    go_ret
    exact ⟨by rw [HC.out]; rfl, HB1.out.trans ⟨rfl, rfl, rfl, Nat.le_refl _, fun _ _ => rfl⟩⟩
end Go.Proofs.Ytccjgciknaooaaa
