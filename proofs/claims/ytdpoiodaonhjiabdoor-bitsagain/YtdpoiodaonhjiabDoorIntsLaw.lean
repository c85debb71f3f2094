/- The walk of dryrotlaw02.BitsInts: it returns true. -/
import Derived.Test.YtdpoiodaonhjiabDoorRefTakeInt
namespace Go.Proofs.YtdpoiodaonhjiabDoor
open Go.RowKit
set_option linter.unusedVariables false

def PI (zs : List Nat) (x n : Int) (ya : List Nat) (na ea : Int) : Prop :=
  (canB zs x = true ∧ IsPack ya (bitsL zs x.toNat ++ intBits n) ∧ na = ((x.toNat + intLen n : Nat) : Int) ∧ ea = 0) ∨ (canB zs x = false ∧ ya = [] ∧ na = 0 ∧ ea = 1)
theorem PI.unique {zs : List Nat} {x n : Int} {ya yb : List Nat} {na nb ea eb : Int} (h : PI zs x n ya na ea) (h' : PI zs x n yb nb eb) : ya = yb ∧ na = nb ∧ ea = eb := by
  rcases h with ⟨g, p, rfl, rfl⟩ | ⟨g, rfl, rfl, rfl⟩ <;> rcases h' with ⟨g', p', rfl, rfl⟩ | ⟨g', rfl, rfl, rfl⟩
  · exact ⟨p.unique p', rfl, rfl⟩
  · rw [g] at g'; cases g'
  · rw [g] at g'; cases g'
  · exact ⟨rfl, rfl, rfl⟩
theorem putInt_all (a : Option Addr) (len cap : Nat) (x n : Int) (zs : List Nat) (w : World) (hB : Bs w a len zs) (hm : len ≤ 100000000) (hx : x ≤ 9223372036854775807) (hT : BitsTab w) :
    Calls Tryd.prog 11 #[.agg #[.slice a len cap, .int .i64 x], .int .i64 n] w fun e w' =>
      ∃ a4 l4 c4 ya na ea, e = .returned (.tuple #[.agg #[.slice a4 l4 c4, .int .i64 na], .int .i64 ea]) ∧ Bs w' a4 l4 ya ∧ PI zs x n ya na ea ∧ Below w.heap.size w w' := by
  cases hcan : canB zs x with
  | true =>
    have hsm := can_small' hcan hB.1
    obtain ⟨xn, rfl⟩ := Int.eq_ofNat_of_zero_le hsm.1
    refine (putInt_ok a len cap xn n zs w hB (by omega) hcan hT).mono ?_
    rintro e w4 ⟨g, ys, rfl, hg, hown4, hpk4, hb4⟩
    obtain ⟨a4, c4, hv, hB4⟩ := bs_of_own hown4 hpk4.2.1
    rw [hv]
    exact ⟨_, _, _, ys, _, _, rfl, hB4, .inl ⟨hcan, by rw [Int.toNat_natCast]; exact hpk4, by rw [Int.toNat_natCast], rfl⟩, hb4⟩
  | false =>
    refine (putInt_bad a len cap x n zs w hB hx hcan).mono ?_
    rintro e w4 ⟨rfl, hb4⟩
    exact ⟨_, _, _, [], _, _, rfl, Bs.nil _, .inr ⟨hcan, rfl, rfl, rfl⟩, hb4⟩
theorem refPutInt_all (a : Option Addr) (len cap : Nat) (x n : Int) (zs : List Nat) (w : World) (hB : Bs w a len zs) (hm : len ≤ 100000000) (hx : x ≤ 9223372036854775807) :
    Calls Tryd.prog 12 #[.agg #[.slice a len cap, .int .i64 x], .int .i64 n] w fun e w' =>
      ∃ a4 l4 c4 ya na ea, e = .returned (.tuple #[.agg #[.slice a4 l4 c4, .int .i64 na], .int .i64 ea]) ∧ Bs w' a4 l4 ya ∧ PI zs x n ya na ea ∧ Below w.heap.size w w' := by
  cases hcan : canB zs x with
  | true =>
    have hsm := can_small' hcan hB.1
    obtain ⟨xn, rfl⟩ := Int.eq_ofNat_of_zero_le hsm.1
    refine (refPutInt_ok a len cap xn n zs w hB (by omega) (by omega) hcan).mono ?_
    rintro e w4 ⟨v, ys, rfl, hown4, hpk4, hb4⟩
    obtain ⟨a4, c4, hv, hB4⟩ := bs_of_own hown4 hpk4.2.1
    rw [hv]
    exact ⟨_, _, _, ys, _, _, rfl, hB4, .inl ⟨hcan, by rw [Int.toNat_natCast]; exact hpk4, by rw [Int.toNat_natCast], rfl⟩, hb4⟩
  | false =>
    refine (refPutInt_bad a len cap x n zs w hB (by omega) hx hcan).mono ?_
    rintro e w4 ⟨rfl, hb4⟩
    exact ⟨_, _, _, [], _, _, rfl, Bs.nil _, .inr ⟨hcan, rfl, rfl, rfl⟩, hb4⟩
theorem below_cell' {W w' : World} {b o : Nat} {v : Value} (h : Below W.heap.size W w') (hc : W.cell? ⟨b, o, none⟩ = some v) : w'.cell? ⟨b, o, none⟩ = some v := (h.cell (block_lt_of_cell hc)).trans hc

set_option maxHeartbeats 4000000 in
theorem bitsInts_walk (a : Option Addr) (len cap : Nat) (x n at_ : Int) (zs : List Nat) (w : World) (hB : Bs w a len zs) (hx : (Lit.int .i64 x).wf = true) (hn : (Lit.int .i64 n).wf = true) (ha : (Lit.int .i64 at_).wf = true) (hT : BitsTab w) :
    Calls Tryd.prog 4 #[.agg #[.slice a len cap, .int .i64 x], .int .i64 n, .int .i64 at_] w fun e w' => e = .returned (.bool true) ∧ Below w.heap.size w w' := by
  have hm : len ≤ 9223372036854775807 := hB.2.1
  have bx := (bounds_i64 hx).2
  have h0 : Below w.heap.size w (w.alloc (.cells #[.slice a len cap, .int .i64 x] 24)) := (Below.refl w.heap.size w).alloc (Nat.le_refl _) _
  clear hx hn ha
  go_enter Tryd.func4, Tryd.ntmps4
  go_wp2_with fail
  refine (short_any a len cap x _ hm).mono ?_
  rintro e w1 ⟨rfl, hb1⟩
  have hbw := h0.trans (hb1.mono (by simp))
  have c0 : w1.cell? ⟨w.heap.size, 0, none⟩ = some (.slice a len cap) := (hb1.cell (by simp)).trans (by simp)
  have c1 : w1.cell? ⟨w.heap.size, 1, none⟩ = some (.int .i64 x) := (hb1.cell (by simp)).trans (by simp)
  clear hb1 h0
  by_cases hs : len ≤ 200
  · rw [decide_eq_true hs]
    go_wp2_with fail
    refine (putInt_all a len cap x n zs _ (hB.below hbw) (by omega) (by omega) (hT.below hbw)).mono ?_
    rintro e w2 ⟨a2, l2, c2, ya, na, ea, rfl, hB2, hP2, hb2⟩
    have c0_2 := below_cell' hb2 c0
    have c1_2 := below_cell' hb2 c1
    have hbw2 := hbw.trans (hb2.mono hbw.size)
    have hW2 : Below w.heap.size w (w2.alloc (.cells #[.slice a2 l2 c2, .int .i64 na] 24)) := hbw2.alloc hbw2.size _
    have hB2' := hB2.below ((Below.refl _ _).alloc (Nat.le_refl _) (.cells #[.slice a2 l2 c2, .int .i64 na] 24))
    have hlt2 : w.heap.size < w2.heap.size := block_lt_of_cell c0_2
    clear c0 c1 hb2 hbw hB2
    go_wp2_with fail
    refine (refPutInt_all a len cap x n zs _ (hB.below hW2) (by omega) (by omega)).mono ?_
    rintro e w3 ⟨a3, l3, c3, yb, nb3, eb, rfl, hB3, hP3, hb3⟩
    obtain ⟨q1, q2, q3⟩ := hP2.unique hP3
    subst q1; subst q2; subst q3
    have c0_3 := below_cell' hb3 (Lib.cell?_alloc_some _ c0_2)
    have c1_3 := below_cell' hb3 (Lib.cell?_alloc_some _ c1_2)
    have d0_3 : w3.cell? ⟨w2.heap.size, 0, none⟩ = some (.slice a2 l2 c2) := (hb3.cell (by simp)).trans (by simp)
    have d1_3 : w3.cell? ⟨w2.heap.size, 1, none⟩ = some (.int .i64 na) := (hb3.cell (by simp)).trans (by simp)
    have hbw3 := hW2.trans (hb3.mono hW2.size)
    have hW3 : Below w.heap.size w (w3.alloc (.cells #[.slice a3 l3 c3, .int .i64 na] 24)) := hbw3.alloc hbw3.size _
    have hBa := (hB2'.below hb3).below ((Below.refl _ _).alloc (Nat.le_refl _) (.cells #[.slice a3 l3 c3, .int .i64 na] 24))
    have hBb := hB3.below ((Below.refl _ _).alloc (Nat.le_refl _) (.cells #[.slice a3 l3 c3, .int .i64 na] 24))
    have hlt3 : w.heap.size < w3.heap.size := block_lt_of_cell c0_3
    have hlt3' : w2.heap.size < w3.heap.size := block_lt_of_cell d0_3
    clear c0_2 c1_2 hb3 hB2' hB3 hP2 hP3 hW2 hbw2
    go_wp2_with fail
    refine (takeInt_any a len cap x at_ zs _ (hB.below hW3) (by omega) (by omega) (hT.below hW3)).mono ?_
    rintro e w4 ⟨v4, to4, er4, rfl, hTI4, hb4⟩
    have c0_4 := below_cell' hb4 (Lib.cell?_alloc_some _ c0_3)
    have c1_4 := below_cell' hb4 (Lib.cell?_alloc_some _ c1_3)
    have d0_4 := below_cell' hb4 (Lib.cell?_alloc_some _ d0_3)
    have d1_4 := below_cell' hb4 (Lib.cell?_alloc_some _ d1_3)
    have s0_4 : w4.cell? ⟨w3.heap.size, 0, none⟩ = some (.slice a3 l3 c3) := (hb4.cell (by simp)).trans (by simp)
    have s1_4 : w4.cell? ⟨w3.heap.size, 1, none⟩ = some (.int .i64 na) := (hb4.cell (by simp)).trans (by simp)
    have hbw4 := hW3.trans (hb4.mono hW3.size)
    have hBa4 := hBa.below hb4
    have hBb4 := hBb.below hb4
    clear c0_3 c1_3 d0_3 d1_3 hb4 hBa hBb hW3 hbw3
    go_wp2_with fail
    refine (refTakeInt_any a len cap x at_ zs _ (hB.below hbw4) (by omega) (by omega)).mono ?_
    rintro e w5 ⟨v5, to5, er5, rfl, hTI5, hb5⟩
    obtain ⟨q1, q2, q3⟩ := hTI4.unique hTI5
    subst q1; subst q2; subst q3
    have d0_5 := below_cell' hb5 d0_4
    have d1_5 := below_cell' hb5 d1_4
    have s0_5 := below_cell' hb5 s0_4
    have s1_5 := below_cell' hb5 s1_4
    have hbw5 := hbw4.trans (hb5.mono hbw4.size)
    have hBa5 := hBa4.below hb5
    have hBb5 := hBb4.below hb5
    clear c0_4 c1_4 d0_4 d1_4 s0_4 s1_4 hb5 hBa4 hBb4 hbw4 hTI4 hTI5
    go_wp2_with fail
    refine (same_any a2 a3 l2 c2 l3 c3 na na ya ya _ hBa5 hBb5).mono ?_
    rintro e w6 ⟨rfl, hb6⟩
    rw [decide_eq_true (show na = na ∧ ya = ya from ⟨rfl, rfl⟩)]
    have hbw6 := hbw5.trans (hb6.mono hbw5.size)
    have e1 : (ea == ea) = true := by simp
    have e2 : (v4 == v4) = true := by simp
    have e3 : (to4 == to4) = true := by simp
    have e4 : (er4 == er4) = true := by simp
    clear d0_5 d1_5 s0_5 s1_5 hb6 hBa5 hBb5 hbw5
    go_wp2_with fail
    refine (awake2_any _ (hT.below hbw6)).mono ?_
    rintro e w7 ⟨rfl, hb7⟩
    go_wp2
    go_ret
    exact ⟨rfl, hbw6.trans (hb7.mono hbw6.size)⟩
  · rw [decide_eq_false hs]
    clear hs
    go_wp2_with fail
    refine (awake2_any _ (hT.below hbw)).mono ?_
    rintro e w2 ⟨rfl, hb2⟩
    go_wp2
    go_ret
    exact ⟨rfl, hbw.trans (hb2.mono hbw.size)⟩
end Go.Proofs.YtdpoiodaonhjiabDoor
