/- The walk of dryrotlaw02.BitsBack: it returns true. -/
import Derived.Test.YtdpoiodaonhjiabDoorBackMath
import Derived.Test.YtdpoiodaonhjiabDoorRefPack
namespace Go.Proofs.YtdpoiodaonhjiabDoor
open Go.RowKit
set_option linter.unusedVariables false

theorem back_shift (n c : Nat) (h0 : 0 < c) (h64 : c ≤ 64) : (((n % 2 ^ c : Nat) : Int) == IntKind.u64.wrap ((n : Int) * 2 ^ (64 - c)) / 2 ^ (64 - c)) = true := by
  rw [beq_iff_eq, IntKind.wrap_u64]
  have e1 : ((n : Int) * 2 ^ (64 - c)) = ((n * 2 ^ (64 - c) : Nat) : Int) := by push_cast; rfl
  have e2 : (18446744073709551616 : Int) = ((2 ^ c * 2 ^ (64 - c) : Nat) : Int) := by
    rw [← Nat.pow_add, show c + (64 - c) = 64 from by omega]; rfl
  have e3 : ((2 : Int) ^ (64 - c)) = ((2 ^ (64 - c) : Nat) : Int) := by push_cast; rfl
  rw [e1, e2, ← Int.natCast_emod, e3, ← Int.natCast_ediv, Nat.mul_mod_mul_right, Nat.mul_div_cancel _ (Nat.two_pow_pos _)]

set_option maxHeartbeats 1000000 in
theorem bitsBack_out (a : Option Addr) (len cap : Nat) (x n count v : Int) (zs : List Nat) (w : World) (hB : Bs w a len zs) (hx : x ≤ 9223372036854775807) (hT : BitsTab w) (hout : ¬ (len ≤ 200 ∧ canB zs x = true)) :
    Calls Tryd.prog 5 #[.agg #[.slice a len cap, .int .i64 x], .int .u64 n, .int .i64 count, .int .i64 v] w fun e w' => e = .returned (.bool true) ∧ Below w.heap.size w w' := by
  have hm : len ≤ 9223372036854775807 := hB.2.1
  have h0 : Below w.heap.size w (w.alloc (.cells #[.slice a len cap, .int .i64 x] 24)) := (Below.refl w.heap.size w).alloc (Nat.le_refl _) _
  have HO : Hid _ := hout
  clear hout
  go_enter Tryd.func5, Tryd.ntmps5
  go_wp2_with fail
  refine (short_any a len cap x _ hm).mono ?_
  rintro e w1 ⟨rfl, hb1⟩
  have hbw := h0.trans (hb1.mono (by simp))
  have c0 : w1.cell? ⟨w.heap.size, 0, none⟩ = some (.slice a len cap) := (hb1.cell (by simp)).trans (by simp)
  have c1 : w1.cell? ⟨w.heap.size, 1, none⟩ = some (.int .i64 x) := (hb1.cell (by simp)).trans (by simp)
  clear hb1 h0
  by_cases hs : len ≤ 200
  · rw [decide_eq_true hs]
    have hcan : Hid (canB zs x = false) := by
      show _ = _
      rw [Bool.eq_false_iff]; exact fun h => HO.out ⟨hs, h⟩
    go_wp2_with fail
    refine (can_any a len cap x zs _ (hB.below hbw) hx).mono ?_
    rintro e w2 ⟨rfl, hb2⟩
    rw [hcan.out]
    have c0_2 := (hb2.cell (block_lt_of_cell c0)).trans c0
    have c1_2 := (hb2.cell (block_lt_of_cell c1)).trans c1
    have hbw2 := hbw.trans (hb2.mono hbw.size)
    clear c0 c1 hb2 hbw
    go_wp2_with fail
    refine (short_any a len cap x _ hm).mono ?_
    rintro e w3 ⟨rfl, hb3⟩
    rw [decide_eq_true hs]
    have c0_3 := (hb3.cell (block_lt_of_cell c0_2)).trans c0_2
    have c1_3 := (hb3.cell (block_lt_of_cell c1_2)).trans c1_2
    have hbw3 := hbw2.trans (hb3.mono hbw2.size)
    clear c0_2 c1_2 hb3 hbw2
    go_wp2_with fail
    refine (refCan_any a len cap x zs _ (hB.below hbw3) (by omega) hx).mono ?_
    rintro e w4 ⟨rfl, hb4⟩
    rw [hcan.out]
    have hbw4 := hbw3.trans (hb4.mono hbw3.size)
    clear c0_3 c1_3 hb4 hbw3
    go_wp2_with fail
    refine (awake2_any _ (hT.below hbw4)).mono ?_
    rintro e w5 ⟨rfl, hb5⟩
    go_wp2
    go_ret
    exact ⟨rfl, hbw4.trans (hb5.mono hbw4.size)⟩
  · rw [decide_eq_false hs]
    go_wp2_with fail
    refine (short_any a len cap x _ hm).mono ?_
    rintro e w3 ⟨rfl, hb3⟩
    rw [decide_eq_false hs]
    have hbw3 := hbw.trans (hb3.mono hbw.size)
    clear c0 c1 hb3 hbw hs
    go_wp2_with fail
    refine (awake2_any _ (hT.below hbw3)).mono ?_
    rintro e w5 ⟨rfl, hb5⟩
    go_wp2
    go_ret
    exact ⟨rfl, hbw3.trans (hb5.mono hbw3.size)⟩

set_option maxHeartbeats 4000000 in
theorem bitsBack_in (a : Option Addr) (len cap : Nat) (x n : Nat) (count v : Int) (c : Nat) (zs : List Nat) (w : World) (hB : Bs w a len zs) (hn : n < 18446744073709551616) (hv0 : -9223372036854775808 ≤ v) (hv1 : v ≤ 9223372036854775807) (hT : BitsTab w)
    (hs : len ≤ 200) (hcan : canB zs x = true) (hc : (IntKind.u64.wrap count).tmod 65 = (c : Int)) (hc64 : c ≤ 64) :
    Calls Tryd.prog 5 #[.agg #[.slice a len cap, .int .i64 x], .int .u64 n, .int .i64 count, .int .i64 v] w fun e w' => e = .returned (.bool true) ∧ Below w.heap.size w w' := by
  have h0 : Below w.heap.size w (w.alloc (.cells #[.slice a len cap, .int .i64 x] 24)) := (Below.refl w.heap.size w).alloc (Nat.le_refl _) _
  have HC : Hid _ := hcan
  have hx : x ≤ 1600 := by
    have := ((canB_iff zs x).1 hcan).2.1
    rw [Int.toNat_natCast, hB.1] at this
    unfold nb at this
    omega
  clear hcan
  go_enter Tryd.func5, Tryd.ntmps5
  go_wp2_with fail
  refine (short_any a len cap x _ (by omega)).mono ?_
  rintro e w1 ⟨rfl, hb1⟩
  rw [decide_eq_true hs]
  have hbw := h0.trans (hb1.mono (by simp))
  have c0 : w1.cell? ⟨w.heap.size, 0, none⟩ = some (.slice a len cap) := (hb1.cell (by simp)).trans (by simp)
  have c1 : w1.cell? ⟨w.heap.size, 1, none⟩ = some (.int .i64 x) := (hb1.cell (by simp)).trans (by simp)
  clear hb1 h0
  go_wp2_with fail
  refine (can_any a len cap x zs _ (hB.below hbw) (by omega)).mono ?_
  rintro e w2 ⟨rfl, hb2⟩
  rw [HC.out]
  have c0_2 := (hb2.cell (block_lt_of_cell c0)).trans c0
  have c1_2 := (hb2.cell (block_lt_of_cell c1)).trans c1
  have hbw2 := hbw.trans (hb2.mono hbw.size)
  clear c0 c1 hb2 hbw
  go_wp2_with fail
  refine (put_ok a len cap x n c zs _ (hB.below hbw2) (by omega) hn HC.out hc64).mono ?_
  rintro e w3 ⟨g, ys, rfl, hg, hown3, hpk3, hb3⟩
  have c1_3 := (hb3.cell (block_lt_of_cell c1_2)).trans c1_2
  have hbw3 := hbw2.trans (hb3.mono hbw2.size)
  obtain ⟨ay, cy, hvy, hB3⟩ := bs_of_own hown3 hpk3.2.1
  rw [hvy]
  have hlA : (bitsL zs x ++ lowBits n c).length = x + c := by rw [List.length_append, bitsL_length, lowBits_length]
  have hcan3 := (canB_iff _ _).2 hpk3.can
  have hbl := hpk3.bits
  rw [hlA] at hcan3 hbl
  obtain ⟨xc, hxc⟩ : ∃ xc, xc = x + c := ⟨_, rfl⟩
  rw [← hxc] at hcan3 hbl hlA ⊢
  have HX : Hid _ := hxc
  have hxcb : xc ≤ 1664 := by omega
  clear hxc
  have hW3 : Below w.heap.size w (w3.alloc (.cells #[.slice ay ys.length cy, .int .i64 xc] 24)) := hbw3.alloc hbw3.size _
  have hB3' := hB3.below ((Below.refl _ _).alloc (Nat.le_refl _) (.cells #[.slice ay ys.length cy, .int .i64 xc] 24))
  have hz3 : w.heap.size < w3.heap.size := block_lt_of_cell c1_3
  have HC3 : Hid _ := hcan3
  clear c0_2 c1_2 hb3 hbw2 hown3 hvy hg hB3 hcan3
  generalize ys.length = ly at *
  go_wp2_with fail
  refine (putInt_ok ay ly cy xc v ys _ hB3' (by omega) HC3.out (hT.below hW3)).mono ?_
  rintro e w4 ⟨g4, ys4, rfl, hg4, hown4, hpk4, hb4⟩
  have d1 : w4.cell? ⟨w3.heap.size, 1, none⟩ = some (.int .i64 xc) := (hb4.cell (by simp)).trans (by simp)
  have c1_4 : w4.cell? ⟨w.heap.size, 1, none⟩ = some (.int .i64 x) := (hb4.cell (by rw [World.size_alloc]; show w.heap.size < _; omega)).trans (Lib.cell?_alloc_some _ c1_3)
  have hbw4 : Below w.heap.size w w4 := hW3.trans (hb4.mono (by rw [World.size_alloc]; omega))
  obtain ⟨a4, cy4, hvy4, hB4⟩ := bs_of_own hown4 hpk4.2.1
  rw [hvy4]
  rw [hbl] at hpk4
  have hti := ti_back hv0 hv1 hpk4
  rw [hlA] at hti
  have hwin : win ys4 x c = lowBits n c := by
    have h' : IsPack ys4 (bitsL zs x ++ (lowBits n c ++ intBits v)) := by rw [← List.append_assoc]; exact hpk4
    have := win_mid h'
    rwa [bitsL_length, lowBits_length] at this
  have hcan4 := (canB_iff _ _).2 hpk4.can
  rw [List.length_append, hlA, intBits_length] at hcan4
  have hil : intLen v ≤ 68 := by have h1 := clsMarks_le (cls v); have h2 := clsWidth_le (cls v); unfold intLen; omega
  obtain ⟨N4, hN4⟩ : ∃ N4, N4 = xc + intLen v := ⟨_, rfl⟩
  rw [← hN4] at hcan4 hti ⊢
  have hN4b : N4 ≤ 1732 := by omega
  have hN4x : x + c ≤ N4 := by have := HX.out; omega
  have hly4 : ys4.length ≤ 300 := by
    have := ((canB_iff _ _).1 hcan4).2.1
    rw [Int.toNat_natCast] at this
    unfold nb at this
    omega
  have HTI : Hid (TI ys4 (N4 : Int) (xc : Int) v (N4 : Int) 0) := hti
  have HWIN : Hid _ := hwin
  have HC4 : Hid _ := hcan4
  have hz4 := hb4.size
  simp only [World.size_alloc] at hz4
  have hW4 : Below w.heap.size w (w4.alloc (.cells #[.slice a4 ys4.length cy4, .int .i64 N4] 24)) := hbw4.alloc hbw4.size _
  have hB4' := hB4.below ((Below.refl _ _).alloc (Nat.le_refl _) (.cells #[.slice a4 ys4.length cy4, .int .i64 N4] 24))
  have hlt4 : w.heap.size < w4.heap.size := by omega
  have hlt4' : w3.heap.size < w4.heap.size := by omega
  clear hti hwin hcan4 hN4 hown4 hvy4 hpk4 hbl hlA c1_3 hW3 hB3' hb4 hB4 hg4
  generalize hl4 : ys4.length = ly4 at *
  have HL4 : Hid _ := hl4
  clear hl4
  go_wp2_with fail
  refine (take_all a4 ly4 cy4 N4 x c ys4 _ hB4' (by omega) (by omega)).mono ?_
  rintro e w5 ⟨rfl, hb5⟩
  have e1 : tE ys4 N4 x c = 0 := by
    unfold tE
    rw [if_neg (fun hh => hh ⟨HC4.out, ⟨by omega, by omega⟩, by omega, by omega⟩), if_neg (by omega)]
  have e2 : tV ys4 N4 x c = n % 2 ^ c := by
    unfold tV
    rw [if_pos e1, Int.toNat_natCast, Int.toNat_natCast, HWIN.out, numOf_lowBits]
  rw [e1, e2]
  clear e1 e2
  have b0 : w5.cell? ⟨w4.heap.size, 0, none⟩ = some (.slice a4 ly4 cy4) := (hb5.cell (by simp)).trans (by simp)
  have b1 : w5.cell? ⟨w4.heap.size, 1, none⟩ = some (.int .i64 N4) := (hb5.cell (by simp)).trans (by simp)
  have d1_5 : w5.cell? ⟨w3.heap.size, 1, none⟩ = some (.int .i64 xc) := (hb5.cell (by rw [World.size_alloc]; show w3.heap.size < _; omega)).trans (Lib.cell?_alloc_some _ d1)
  have c1_5 : w5.cell? ⟨w.heap.size, 1, none⟩ = some (.int .i64 x) := (hb5.cell (by rw [World.size_alloc]; show w.heap.size < _; omega)).trans (Lib.cell?_alloc_some _ c1_4)
  have hbw5 : Below w.heap.size w w5 := hW4.trans (hb5.mono (by rw [World.size_alloc]; omega))
  have hB5 := hB4'.below hb5
  clear hb5 hB4' d1 c1_4 hW4
  go_wp2_with fail
  refine (takeInt_any a4 ly4 cy4 N4 xc ys4 _ hB5 (by omega) (by omega) (hT.below hbw5)).mono ?_
  rintro e w6 ⟨v6, to6, er6, rfl, hTI6, hb6⟩
  obtain ⟨q1, q2, q3⟩ := hTI6.unique HTI.out
  rw [q1, q2, q3]
  have b1_6 := (hb6.cell (block_lt_of_cell b1)).trans b1
  have d1_6 := (hb6.cell (block_lt_of_cell d1_5)).trans d1_5
  have c1_6 := (hb6.cell (block_lt_of_cell c1_5)).trans c1_5
  have hbw6 := hbw5.trans (hb6.mono hbw5.size)
  clear q1 q2 q3 hTI6 HTI b0 b1 d1_5 c1_5 hb6 hB5
  have B1 : ((xc : Int) == (x : Int) + (c : Int)) = true := beq_iff_eq.2 (by have := HX.out; omega)
  have B2 : ((v : Int) == v) = true := by simp
  have B3 : ((N4 : Int) == (N4 : Int)) = true := by simp
  by_cases h0c : c = 0
  · have B4 : ((c : Int) == 0) = true := beq_iff_eq.2 (by omega)
    clear h0c
    go_wp2
    go_ret
    exact ⟨rfl, hbw6⟩
  · have B4 : ((c : Int) == 0) = false := beq_eq_false_iff_ne.2 (by omega)
    have B5 : (((n : Int) % 2 ^ c) == IntKind.u64.wrap ((n : Int) * 2 ^ (64 - c)) / 2 ^ (64 - c)) = true := by
      have := back_shift n c (by omega) hc64
      rwa [show ((n % 2 ^ c : Nat) : Int) = (n : Int) % 2 ^ c from by push_cast; rfl] at this
    clear h0c
    go_wp2
    go_ret
    exact ⟨rfl, hbw6⟩

theorem bitsBack_walk (a : Option Addr) (len cap : Nat) (x n count v : Int) (zs : List Nat) (w : World) (hB : Bs w a len zs) (hx : (Lit.int .i64 x).wf = true) (hn : (Lit.int .u64 n).wf = true) (hc : (Lit.int .i64 count).wf = true) (hv : (Lit.int .i64 v).wf = true) (hT : BitsTab w) :
    Calls Tryd.prog 5 #[.agg #[.slice a len cap, .int .i64 x], .int .u64 n, .int .i64 count, .int .i64 v] w fun e w' => e = .returned (.bool true) ∧ Below w.heap.size w w' := by
  have bx := bounds_i64 hx
  have bv := bounds_i64 hv
  by_cases h : len ≤ 200 ∧ canB zs x = true
  · obtain ⟨n0, n1⟩ := bounds_u64 hn
    obtain ⟨m, rfl⟩ := Int.eq_ofNat_of_zero_le n0
    obtain ⟨xn, rfl⟩ := Int.eq_ofNat_of_zero_le ((canB_iff zs x).1 h.2).1
    have h1 : 0 ≤ IntKind.u64.wrap count := by rw [IntKind.wrap_u64]; omega
    have h3 : (IntKind.u64.wrap count).tmod 65 = IntKind.u64.wrap count % 65 := Int.tmod_eq_emod_of_nonneg h1
    obtain ⟨c, hc'⟩ := Int.eq_ofNat_of_zero_le (show 0 ≤ IntKind.u64.wrap count % 65 by omega)
    exact bitsBack_in a len cap xn m count v c zs w hB (by omega) (by omega) (by omega) hT h.1 h.2 (h3.trans hc') (by omega)
  · exact bitsBack_out a len cap x n count v zs w hB (by omega) hT h
end Go.Proofs.YtdpoiodaonhjiabDoor
