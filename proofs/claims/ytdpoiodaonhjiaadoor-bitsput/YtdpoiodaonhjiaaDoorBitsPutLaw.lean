/- The walk of dryrotlaw02.BitsPut: it returns true. -/
import Derived.Test.YtdpoiodaonhjiaaDoorPutAll
import Derived.Deep.RegionWith
import Derived.Deep.DeepCutAuto
namespace Go.Proofs.YtdpoiodaonhjiaaDoor
open Go.RowKit
set_option linter.unusedVariables false

set_option maxHeartbeats 1000000 in
theorem bitsPut_long (a : Option Addr) (len cap : Nat) (x n count : Int) (w : World) (hm : len ≤ 9223372036854775807) (hT : BitsTab w) (hlong : ¬ len ≤ 200) :
    Calls Tryd.prog 7 #[.agg #[.slice a len cap, .int .i64 x], .int .u64 n, .int .i64 count] w fun e w' => e = .returned (.bool true) ∧ Below w.heap.size w w' := by
  have h0 : Below w.heap.size w (w.alloc (.cells #[.slice a len cap, .int .i64 x] 39)) := (Below.refl w.heap.size w).alloc (Nat.le_refl _) _
  have HD : Hid _ := decide_eq_false hlong
  clear hlong
  go_enter Tryd.func7, Tryd.ntmps7
  go_wp2_with fail
  refine (short_any a len cap x _ hm).mono ?_
  rintro e w1 ⟨rfl, hb1⟩
  rw [HD.out]
  have hbw := h0.trans (hb1.mono (by simp))
  have hT1 := hT.below hbw
  clear hT
  go_wp2_with fail
  refine (awake2_any _ hT1).mono ?_
  rintro e w2 ⟨rfl, hb2⟩
  go_wp2
  go_ret
  exact ⟨rfl, hbw.trans (hb2.mono hbw.size)⟩

theorem own_shape {w : World} {base e n : Nat} {v : Value} {xs : List Value} (h : w.ownsRow base e 1 v n xs) : ∃ a cap, v = .slice a n cap := by
  rcases h.2 with ⟨rfl, rfl⟩ | ⟨g, cap, cur, rfl, _⟩
  · exact ⟨_, _, rfl⟩
  · exact ⟨_, _, rfl⟩

theorem bs_drew {w : World} {a : Option Addr} {len : Nat} {zs : List Nat} (h : Bs w a len zs) : Bs w.drew a len zs := h.below ((Below.refl _ _).drew)
theorem below_drew_left {W w' : World} (h : Below W.drew.heap.size W.drew w') : Below W.heap.size W w' := ⟨h.os, h.tape, h.output, h.size, h.block⟩
theorem below_cell {W w' : World} {b o : Nat} {v : Value} (h : Below W.heap.size W w') (hc : W.cell? ⟨b, o, none⟩ = some v) : w'.cell? ⟨b, o, none⟩ = some v := (h.cell (block_lt_of_cell hc)).trans hc
theorem chain5 {w W w6 w7 w8 w9 w10 : World} (h : Below w.heap.size w W) (h6 : Below W.heap.size W w6) (h7 : Below w6.heap.size w6 w7) (h8 : Below w7.heap.size w7 w8) (h9 : Below w8.heap.size w8 w9) (h10 : Below w9.heap.size w9 w10) : Below w.heap.size w w10 := by
  have s1 := h.size; have s6 := h6.size; have s7 := h7.size; have s8 := h8.size; have s9 := h9.size
  exact ((((h.trans (h6.mono (by omega))).trans (h7.mono (by omega))).trans (h8.mono (by omega))).trans (h9.mono (by omega))).trans (h10.mono (by omega))
/-- What a copy of bits in a new variable is, whatever the order. -/
def Copied (w1 wx : World) (s7 : Value) (len : Nat) (x : Int) (zs : List Nat) : Prop :=
  ∃ p a2 cap2, s7 = .pointer (some ⟨p, 0, none⟩) ∧ w1.heap.size ≤ p ∧ wx.cell? ⟨p, 0, none⟩ = some (.slice a2 len cap2) ∧ wx.cell? ⟨p, 1, none⟩ = some (.int .i64 x) ∧ Bs wx a2 len zs ∧ Below w1.heap.size w1 wx
theorem copied_last {w1 w2 : World} {a2 : Option Addr} {len cap2 : Nat} {x : Int} {zs : List Nat} (hz : ∀ y ∈ zs, y < 256) (hown : w2.ownsRow w1.drew.heap.size 5 1 (.slice a2 len cap2) len (vb zs)) (hb : Below w1.drew.heap.size w1.drew w2) :
    Copied w1 (w2.alloc (.cells #[.slice a2 len cap2, .int .i64 x] 39)) (.pointer (some ⟨w2.heap.size, 0, none⟩)) len x zs := by
  obtain ⟨a3, cap3, hv, hB⟩ := bs_of_own hown hz
  cases hv
  have hb' : Below w1.heap.size w1 w2 := ⟨hb.os, hb.tape, hb.output, hb.size, hb.block⟩
  exact ⟨w2.heap.size, a2, cap2, rfl, hb.size, by simp, by simp, hB.below ((Below.refl _ _).alloc (Nat.le_refl _) _), hb'.alloc hb'.size _⟩
theorem copied_first {w1 w2 : World} {a2 : Option Addr} {len cap2 : Nat} {x : Int} {zs : List Nat} (hz : ∀ y ∈ zs, y < 256)
    (hown : w2.ownsRow (w1.alloc (.cells #[.slice none 0 0, .int .i64 0] 39)).drew.heap.size 5 1 (.slice a2 len cap2) len (vb zs))
    (hb : Below (w1.alloc (.cells #[.slice none 0 0, .int .i64 0] 39)).drew.heap.size (w1.alloc (.cells #[.slice none 0 0, .int .i64 0] 39)).drew w2) :
    Copied w1 ((w2.setCell ⟨w1.heap.size, 0, none⟩ (.slice a2 len cap2)).setCell ⟨w1.heap.size, 1, none⟩ (.int .i64 x)) (.pointer (some ⟨w1.heap.size, 0, none⟩)) len x zs := by
  have hsz : (w1.alloc (.cells #[.slice none 0 0, .int .i64 0] 39)).drew.heap.size = w1.heap.size + 1 := World.size_alloc _ _
  rw [hsz] at hown hb
  have c0 : w2.cell? ⟨w1.heap.size, 0, none⟩ = some (.slice none 0 0) := (hb.cell (by simp)).trans (by simp)
  have c1 : w2.cell? ⟨w1.heap.size, 1, none⟩ = some (.int .i64 0) := (hb.cell (by simp)).trans (by simp)
  have hown2 := ownsRow_setCell_below (ownsRow_setCell_below hown (a := ⟨w1.heap.size, 0, none⟩) (by simp) (.slice a2 len cap2)) (a := ⟨w1.heap.size, 1, none⟩) (by simp) (.int .i64 x)
  obtain ⟨a3, cap3, hv, hB⟩ := bs_of_own hown2 hz
  cases hv
  have h1 : Below w1.heap.size w1 (w1.alloc (.cells #[.slice none 0 0, .int .i64 0] 39)).drew := ((Below.refl _ _).alloc (Nat.le_refl _) _).drew
  have hb' : Below w1.heap.size w1 w2 := h1.trans (hb.mono (by omega))
  exact ⟨w1.heap.size, a2, cap2, rfl, Nat.le_refl _, (World.cell?_setCell_other _ _ _ _ (by simp)).trans (World.cell?_setCell_same _ _ _ c0), World.cell?_setCell_same _ _ _ ((World.cell?_setCell_other _ _ _ _ (by simp)).trans c1), hB, (hb'.setCell (Nat.le_refl _) _).setCell (Nat.le_refl _) _⟩

set_option maxHeartbeats 4000000 in
theorem bitsPut_short (a : Option Addr) (len cap : Nat) (x : Int) (n : Nat) (count : Int) (zs : List Nat) (w : World) (hB : Bs w a len zs) (hT : BitsTab w) (hs : len ≤ 200) (hx : x ≤ 9223372036854775807) (hn : n < 18446744073709551616) :
    Calls Tryd.prog 7 #[.agg #[.slice a len cap, .int .i64 x], .int .u64 n, .int .i64 count] w fun e w' => e = .returned (.bool true) ∧ Below w.heap.size w w' := by
  have h0 : Below w.heap.size w (w.alloc (.cells #[.slice a len cap, .int .i64 x] 39)) := (Below.refl w.heap.size w).alloc (Nat.le_refl _) _
  have HD : Hid _ := decide_eq_true hs
  go_enter Tryd.func7, Tryd.ntmps7
  go_wp2_with fail
  refine (short_any a len cap x _ (by omega)).mono ?_
  rintro e w1 ⟨rfl, hb1⟩
  rw [HD.out]
  have hbw := h0.trans (hb1.mono (by simp))
  have hT1 := hT.below hbw
  have hB1 := hB.below hbw
  have c0 : w1.cell? ⟨w.heap.size, 0, none⟩ = some (.slice a len cap) := (hb1.cell (by simp)).trans (by simp)
  have c1 : w1.cell? ⟨w.heap.size, 1, none⟩ = some (.int .i64 x) := (hb1.cell (by simp)).trans (by simp)
  have hz1 : w.heap.size < w1.heap.size := by have := hb1.size; simp at this; omega
  clear hT hb1 h0
  go_wp2_with fail
  go_cut [7] (fun s7 wx => Copied w1 wx s7 len x zs)
  case first =>
    go_wp2_with fail
    go_region_with (go_at_call 8; refine (clone_any a len cap zs _ ?_ (by omega)).mono ?_; (first | exact hB1 | exact hB1.below ((Below.refl _ _).drew) | exact hB1.below ((Below.refl _ _).alloc (Nat.le_refl _) _) | exact hB1.below ((Below.refl _ _).alloc (Nat.le_refl _) _).drew); rintro e w2 ⟨v, rfl, hown, hb2⟩; obtain ⟨a2, cap2, hv2⟩ := own_shape hown; subst hv2; have d1 : w2.cell? ⟨w.heap.size, 1, none⟩ = some (.int .i64 x) := (hb2.cell (by (first | exact hz1 | (rw [World.size_alloc]; show w.heap.size < _; omega) | (simp; omega)))).trans (by (first | exact c1 | exact Lib.cell?_alloc_some _ c1)); have hz2 : w.heap.size < w2.heap.size := block_lt_of_cell d1; obtain ⟨hc2, hf2⟩ := bcell hb2)
    all_goals (go_wp2_with fail)
    all_goals go_meet
    all_goals (first | exact copied_last hB.2.2.1 hown hb2 | exact copied_first hB.2.2.1 hown hb2)
  case rest =>
    obtain ⟨p, a2, cap2, rfl, hp, p0, p1, hB2, hb2⟩ := hcut
    have hz2 := hb2.size
    have c0' : wc.cell? ⟨w.heap.size, 0, none⟩ = some (.slice a len cap) := (hb2.cell (by show w.heap.size < _; omega)).trans c0
    have c1' : wc.cell? ⟨w.heap.size, 1, none⟩ = some (.int .i64 x) := (hb2.cell (by show w.heap.size < _; omega)).trans c1
    have hB3 := hB1.below hb2
    have hT3 := hT1.below hb2
    have hpl : p < wc.heap.size := block_lt_of_cell p0
    have hbwc : Below w.heap.size w wc := hbw.trans (hb2.mono (by omega))
    clear c0 c1 hB1 hT1 hb2 hbw
    go_wp2_with fail
    refine (put_all a2 len cap2 x n count zs _ hB2 (by omega) hx hn).mono ?_
    rintro e w4 ⟨a4, l4, c4, ya, na, ea, rfl, hB4, hS4, hb4⟩
    have hz4 := hb4.size
    have hW4 : Below w4.heap.size w4 (w4.alloc (.cells #[.slice a4 l4 c4, .int .i64 na] 39)) := (Below.refl _ _).alloc (Nat.le_refl _) _
    have c0_4 : w4.cell? ⟨w.heap.size, 0, none⟩ = some (.slice a len cap) := (hb4.cell (by show w.heap.size < _; omega)).trans c0'
    have c1_4 : w4.cell? ⟨w.heap.size, 1, none⟩ = some (.int .i64 x) := (hb4.cell (by show w.heap.size < _; omega)).trans c1'
    have p0_4 : w4.cell? ⟨p, 0, none⟩ = some (.slice a2 len cap2) := (hb4.cell (by show p < _; omega)).trans p0
    have p1_4 : w4.cell? ⟨p, 1, none⟩ = some (.int .i64 x) := (hb4.cell (by show p < _; omega)).trans p1
    have hlt4 : w.heap.size < w4.heap.size := by omega
    have hB3' := (hB3.below hb4).below hW4
    have hB2' := (hB2.below hb4).below hW4
    have hB4' := hB4.below hW4
    have hT4 := (hT3.below hb4).below hW4
    have hbw4 : Below w.heap.size w w4 := hbwc.trans (hb4.mono (by omega))
    clear c0' c1' p0 p1 hB3 hB2 hB4 hT3 hb4 hbwc
    go_wp2_with fail
    refine (refPut_all a len cap x n count zs _ hB3' (by omega) hx hn).mono ?_
    rintro e w5 ⟨a5, l5, c5, yb, nb5, eb, rfl, hB5, hS5, hb5⟩
    have hz5 := hb5.size
    simp only [World.size_alloc] at hz5
    obtain ⟨e1, e2, e3⟩ := hS4.unique hS5
    subst e1; subst e2; subst e3
    have hW5 : Below w5.heap.size w5 (w5.alloc (.cells #[.slice a5 l5 c5, .int .i64 na] 39)) := (Below.refl _ _).alloc (Nat.le_refl _) _
    have c0_5 : w5.cell? ⟨w.heap.size, 0, none⟩ = some (.slice a len cap) := (hb5.cell (by rw [World.size_alloc]; show w.heap.size < _; omega)).trans (Lib.cell?_alloc_some _ c0_4)
    have c1_5 : w5.cell? ⟨w.heap.size, 1, none⟩ = some (.int .i64 x) := (hb5.cell (by rw [World.size_alloc]; show w.heap.size < _; omega)).trans (Lib.cell?_alloc_some _ c1_4)
    have p0_5 : w5.cell? ⟨p, 0, none⟩ = some (.slice a2 len cap2) := (hb5.cell (by rw [World.size_alloc]; show p < _; omega)).trans (Lib.cell?_alloc_some _ p0_4)
    have p1_5 : w5.cell? ⟨p, 1, none⟩ = some (.int .i64 x) := (hb5.cell (by rw [World.size_alloc]; show p < _; omega)).trans (Lib.cell?_alloc_some _ p1_4)
    have q0_5 : w5.cell? ⟨w4.heap.size, 0, none⟩ = some (.slice a4 l4 c4) := (hb5.cell (by rw [World.size_alloc]; show w4.heap.size < _; omega)).trans (by simp)
    have q1_5 : w5.cell? ⟨w4.heap.size, 1, none⟩ = some (.int .i64 na) := (hb5.cell (by rw [World.size_alloc]; show w4.heap.size < _; omega)).trans (by simp)
    have hlt5 : w.heap.size < w5.heap.size := by omega
    have hlt5p : p < w5.heap.size := by omega
    have hlt5q : w4.heap.size < w5.heap.size := by omega
    have hBx := (hB3'.below hb5).below hW5
    have hBg := (hB2'.below hb5).below hW5
    have hBa := (hB4'.below hb5).below hW5
    have hBb := hB5.below hW5
    have hT5 := (hT4.below hb5).below hW5
    have hbw5 : Below w.heap.size w w5 := (hbw4.alloc (by omega) _).trans (hb5.mono (by rw [World.size_alloc]; omega))
    clear c0_4 c1_4 p0_4 p1_4 hB3' hB2' hB4' hT4 hb5 hS4 hS5 hB5 hbw4 hW4
    have b1 : ((ea : Int) == ea) = true := by simp
    have C0 := Lib.cell?_alloc_some (.cells #[.slice a5 l5 c5, .int .i64 na] 39) c0_5
    have C1 := Lib.cell?_alloc_some (.cells #[.slice a5 l5 c5, .int .i64 na] 39) c1_5
    have P0 := Lib.cell?_alloc_some (.cells #[.slice a5 l5 c5, .int .i64 na] 39) p0_5
    have P1 := Lib.cell?_alloc_some (.cells #[.slice a5 l5 c5, .int .i64 na] 39) p1_5
    have Q0 := Lib.cell?_alloc_some (.cells #[.slice a5 l5 c5, .int .i64 na] 39) q0_5
    have Q1 := Lib.cell?_alloc_some (.cells #[.slice a5 l5 c5, .int .i64 na] 39) q1_5
    have S0 : (w5.alloc (.cells #[.slice a5 l5 c5, .int .i64 na] 39)).cell? ⟨w5.heap.size, 0, none⟩ = some (.slice a5 l5 c5) := by simp
    have S1 : (w5.alloc (.cells #[.slice a5 l5 c5, .int .i64 na] 39)).cell? ⟨w5.heap.size, 1, none⟩ = some (.int .i64 na) := by simp
    have hbW : Below w.heap.size w (w5.alloc (.cells #[.slice a5 l5 c5, .int .i64 na] 39)) := hbw5.alloc (by omega) _
    clear c0_5 c1_5 p0_5 p1_5 q0_5 q1_5 hW5 hbw5
    go_wp2_with fail
    generalize w5.alloc (.cells #[.slice a5 l5 c5, .int .i64 na] 39) = W at *
    go_region_with (first
      | (go_at_call_of 23 (Value.slice a4 l4 c4); refine (same_any a4 a5 l4 c4 l5 c5 na na ya ya _ ?_ ?_).mono ?_; exact bs_drew hBa; exact bs_drew hBb; rintro e w6 ⟨rfl, hb6'⟩; have hb6 := below_drew_left hb6'; rw [decide_eq_true (show na = na ∧ ya = ya from ⟨rfl, rfl⟩)]; have P0_6 := below_cell hb6 P0; have P1_6 := below_cell hb6 P1; have C0_6 := below_cell hb6 C0; have C1_6 := below_cell hb6 C1)
      | (go_at_call_of 23 (Value.slice a2 len cap2); refine (same_any a2 a len cap2 len cap x x zs zs _ ?_ ?_).mono ?_; exact hBg.below hb6; exact hBx.below hb6; rintro e w7 ⟨rfl, hb7⟩; rw [decide_eq_true (show x = x ∧ zs = zs from ⟨rfl, rfl⟩)]; have C0_7 := below_cell hb7 C0_6; have C1_7 := below_cell hb7 C1_6)
      | (go_at_call 24; refine (can_any a len cap x zs _ ?_ hx).mono ?_; exact (hBx.below hb6).below hb7; rintro e w8 ⟨rfl, hb8⟩; have C0_8 := below_cell hb8 C0_7; have C1_8 := below_cell hb8 C1_7)
      | (go_at_call 25; refine (refCan_any a len cap x zs _ ?_ (by omega) hx).mono ?_; exact ((hBx.below hb6).below hb7).below hb8; rintro e w9 ⟨rfl, hb9⟩; have b2 : (canB zs x == canB zs x) = true := by simp)
      | (go_at_call 20; refine (awake2_any _ ?_).mono ?_; exact (((hT5.below hb6).below hb7).below hb8).below hb9; rintro e w10 ⟨rfl, hb10⟩))
    all_goals (go_wp2_with fail)
    all_goals go_ret
    all_goals exact ⟨rfl, chain5 hbW hb6 hb7 hb8 hb9 hb10⟩

theorem bitsPut_walk (a : Option Addr) (len cap : Nat) (x n count : Int) (zs : List Nat) (w : World) (hB : Bs w a len zs) (hx : (Lit.int .i64 x).wf = true) (hn : (Lit.int .u64 n).wf = true) (hc : (Lit.int .i64 count).wf = true) (hT : BitsTab w) :
    Calls Tryd.prog 7 #[.agg #[.slice a len cap, .int .i64 x], .int .u64 n, .int .i64 count] w fun e w' => e = .returned (.bool true) ∧ Below w.heap.size w w' := by
  have hm : len ≤ 9223372036854775807 := hB.2.1
  obtain ⟨b0, b1⟩ := bounds_u64 hn
  obtain ⟨m, rfl⟩ := Int.eq_ofNat_of_zero_le b0
  have bx := bounds_i64 hx
  by_cases h : len ≤ 200
  · exact bitsPut_short a len cap x m count zs w hB hT h (by omega) (by omega)
  · exact bitsPut_long a len cap x m count w hm hT h
end Go.Proofs.YtdpoiodaonhjiaaDoor
