/- The walks of the document's Can and Put. -/
import Derived.Test.YtdpoiodaonhjiaaDoorRefPack
import Derived.Test.YtdpoiodaonhjiaaDoorBitsPutWalk
namespace Go.Proofs.YtdpoiodaonhjiaaDoor
open Go.RowKit
set_option linter.unusedVariables false

theorem vt_len (l : List Bool) : (vt l).length = l.length := by simp [vt]
theorem vt_getD (l : List Bool) (j : Nat) (h : j < l.length) : (vt l)[j]? = some (.bool (l.getD j false)) := by simp [vt, h]
theorem pack_any (v : Value) (m base : Nat) (l : List Bool) (w : World) (hown : w.ownsRow base 4 1 v m (vt l)) (hm : m ≤ 2199023255552) :
    Calls Tryd.prog 32 #[v] w fun e w' =>
      ∃ v ys, e = .returned (.agg #[v, .int .i64 m]) ∧ w'.ownsRow w.heap.size 5 1 v ys.length (vb ys) ∧ IsPack ys l ∧ Below w.heap.size w w' := by
  have hl : l.length = m := by have := hown.1; rw [vt_len] at this; omega
  have h' := hown
  rcases hown.2 with ⟨rfl, rfl⟩ | ⟨g, cap, cur, rfl, hg, hh, _⟩
  · exact pack_core none 0 0 l w hl hm (fun j hj => by omega)
  · refine pack_core (some ⟨g, 0, none⟩) m cap l w hl hm (fun j hj => ⟨g, rfl, (Array.getElem?_eq_some_iff.1 hh).1, ?_⟩)
    rw [h'.cellAt j (by omega), vt_getD l j (by omega)]

set_option maxHeartbeats 1000000 in
theorem refCan_any (a : Option Addr) (len cap : Nat) (x : Int) (zs : List Nat) (w : World) (hB : Bs w a len zs) (hm : len ≤ 137438953472) (hx : x ≤ 9223372036854775807) :
    Calls Tryd.prog 25 #[.agg #[.slice a len cap, .int .i64 x]] w fun e w' => e = .returned (.bool (canB zs x)) ∧ Below w.heap.size w w' := by
  have h0 : Below w.heap.size w (w.alloc (.cells #[.slice a len cap, .int .i64 x] 39)) := (Below.refl _ _).alloc (Nat.le_refl _) _
  have hB2 := hB.below h0
  go_enter Tryd.func25, Tryd.ntmps25
  go_wp2_with fail
  refine (list_any a len cap x zs _ hB2 hm hx).mono ?_
  rintro e w1 ⟨v, rfl, _, _, hb1⟩
  go_wp2
  go_ret
  exact ⟨rfl, h0.trans (hb1.mono (by simp))⟩

set_option maxHeartbeats 1000000 in
theorem refPut_bad (a : Option Addr) (len cap : Nat) (x : Int) (n : Nat) (count : Int) (zs : List Nat) (w : World) (hB : Bs w a len zs) (hm : len ≤ 137438953472) (hx : x ≤ 9223372036854775807)
    (hbad : canB zs x = false ∨ ¬ (0 ≤ count ∧ count ≤ 64)) :
    Calls Tryd.prog 22 #[.agg #[.slice a len cap, .int .i64 x], .int .u64 n, .int .i64 count] w fun e w' =>
      e = .returned (.tuple #[.agg #[.slice none 0 0, .int .i64 0], .int .i64 1]) ∧ Below w.heap.size w w' := by
  have h0 : Below w.heap.size w ((w.alloc (.cells #[.slice a len cap, .int .i64 x] 39)).alloc (.cells #[.slice none 0 0, .int .i64 0] 39)) := ((Below.refl w.heap.size w).alloc (Nat.le_refl _) _).alloc (by simp) _
  have hB2 := hB.below h0
  go_enter Tryd.func22, Tryd.ntmps22
  go_wp2_with fail
  refine (list_any a len cap x zs _ hB2 hm hx).mono ?_
  rintro e w1 ⟨v, rfl, _, _, hb1⟩
  obtain ⟨hc, hf⟩ := bcell hb1
  have hz : w.heap.size + 1 < w1.heap.size := by have := hb1.size; simp at this; omega
  have HB : Hid _ := hbad
  clear hbad
  cases hcan : canB zs x with
  | false =>
    go_wp2
    refine bodyPost_ret (v := .tuple #[.agg #[.slice none 0 0, .int .i64 0], .int .i64 1]) (by simp [results, Tryd.results22, go_sem, hc]) rfl ⟨rfl, ?_⟩
    exact ((h0.trans (hb1.mono (by simp; omega))).setCell (by simp) _).setCell (by simp) _
  | true =>
    have hct : ¬ (0 ≤ count ∧ count ≤ 64) := by
      rcases HB.out with h | h
      · rw [h] at hcan; cases hcan
      · exact h
    by_cases h1 : count < 0
    · have b1 : decide (count < 0) = true := decide_eq_true h1
      go_wp2
      refine bodyPost_ret (v := .tuple #[.agg #[.slice none 0 0, .int .i64 0], .int .i64 1]) (by simp [results, Tryd.results22, go_sem, hc]) rfl ⟨rfl, ?_⟩
      exact ((h0.trans (hb1.mono (by simp; omega))).setCell (by simp) _).setCell (by simp) _
    · have b1 : decide (count < 0) = false := decide_eq_false h1
      have b2 : decide (64 < count) = true := decide_eq_true (by omega)
      clear hct
      go_wp2
      refine bodyPost_ret (v := .tuple #[.agg #[.slice none 0 0, .int .i64 0], .int .i64 1]) (by simp [results, Tryd.results22, go_sem, hc]) rfl ⟨rfl, ?_⟩
      exact ((h0.trans (hb1.mono (by simp; omega))).setCell (by simp) _).setCell (by simp) _

set_option maxHeartbeats 2000000 in
theorem refPut_ok (a : Option Addr) (len cap : Nat) (x : Nat) (n : Nat) (count : Nat) (zs : List Nat) (w : World) (hB : Bs w a len zs) (hm : len ≤ 137438953472) (hx : x ≤ 1099511627776) (hn : n < 18446744073709551616)
    (hcan : canB zs x = true) (hct : count ≤ 64) :
    Calls Tryd.prog 22 #[.agg #[.slice a len cap, .int .i64 x], .int .u64 n, .int .i64 count] w fun e w' =>
      ∃ v ys, e = .returned (.tuple #[.agg #[v, .int .i64 ((x + count : Nat) : Int)], .int .i64 0]) ∧
        w'.ownsRow w.heap.size 5 1 v ys.length (vb ys) ∧ IsPack ys (bitsL zs x ++ lowBits n count) ∧ Below w.heap.size w w' := by
  have h0 : Below w.heap.size w ((w.alloc (.cells #[.slice a len cap, .int .i64 x] 39)).alloc (.cells #[.slice none 0 0, .int .i64 0] 39)) := ((Below.refl w.heap.size w).alloc (Nat.le_refl _) _).alloc (by simp) _
  have hB2 := hB.below h0
  have HC : Hid _ := hcan
  clear hcan
  have b1 : decide ((count : Int) < 0) = false := decide_eq_false (by omega)
  have b2 : decide (64 < (count : Int)) = false := decide_eq_false (by omega)
  go_enter Tryd.func22, Tryd.ntmps22
  go_wp2_with fail
  refine (list_any a len cap x zs _ hB2 hm (by omega)).mono ?_
  rintro e w1 ⟨v, rfl, hown1, _, hb1⟩
  replace hown1 := hown1 HC.out
  rw [HC.out]
  rw [Int.toNat_natCast] at hown1
  obtain ⟨hc, hf⟩ := bcell hb1
  have hz1 := hb1.size
  simp only [World.size_alloc] at hz1 hown1
  have hz : w.heap.size + 1 < w1.heap.size := by omega
  go_wp2_with fail
  refine (add_any v x n count (w.heap.size + 1 + 1) (bitsL zs x) _ hown1 hx hn hct hz1).mono ?_
  rintro e w2 ⟨v2, rfl, hown2, hb2⟩
  have hz2 := hb2.size
  go_wp2_with fail
  refine (pack_any v2 (x + count) (w.heap.size + 1 + 1) _ _ hown2 (by omega)).mono ?_
  rintro e w3 ⟨v3, ys, rfl, hown3, hpk, hb3⟩
  have r0 : w3.cell? ⟨w.heap.size + 1, 0, none⟩ = some (.slice none 0 0) := by rw [hb3.cell (by simp; omega), hb2.cell (by simp), hc _ _ (by simp)]; simp
  have r1 : w3.cell? ⟨w.heap.size + 1, 1, none⟩ = some (.int .i64 0) := by rw [hb3.cell (by simp; omega), hb2.cell (by simp), hc _ _ (by simp)]; simp
  have f0 : w3.frozen? ⟨w.heap.size + 1, 0, none⟩ = false := by rw [hb3.frozen (by simp; omega), hb2.frozen (by simp), hf _ _ (by simp)]; simp
  have f1 : w3.frozen? ⟨w.heap.size + 1, 1, none⟩ = false := by rw [hb3.frozen (by simp; omega), hb2.frozen (by simp), hf _ _ (by simp)]; simp
  have hbw : Below w.heap.size w w3 := ((h0.trans (hb1.mono (by simp; omega))).trans (hb2.mono (by omega))).trans (hb3.mono (by omega))
  obtain ⟨ao, lo, co, hv⟩ : ∃ ao lo co, v3 = .slice ao lo co := by
    rcases hown3.2 with ⟨rfl, _⟩ | ⟨g', cap', cur, rfl, _⟩
    · exact ⟨_, _, _, rfl⟩
    · exact ⟨_, _, _, rfl⟩
  rw [hv] at hown3 ⊢
  clear hc hf hown1 hown2 hb1 hb2 hb3 hB hB2
  go_wp2
  refine bodyPost_ret (v := .tuple #[.agg #[.slice ao lo co, .int .i64 ((x + count : Nat) : Int)], .int .i64 0]) (by simp [results, Tryd.results22, go_sem, r0, r1]) rfl ⟨_, ys, rfl, ?_, hpk, (hbw.setCell (by simp) _).setCell (by simp) _⟩
  exact own_mono (ownsRow_setCell_below (ownsRow_setCell_below hown3 (by simp; omega) _) (by simp; omega) _) (by omega)
end Go.Proofs.YtdpoiodaonhjiaaDoor
