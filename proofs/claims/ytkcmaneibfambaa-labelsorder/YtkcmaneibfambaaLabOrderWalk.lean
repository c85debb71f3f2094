/- LabelsOrder: the law's walk. -/
import Derived.Test.YtkcmaneibfambaaLabEqL
import Derived.Test.YtkcmaneibfambaaLabAwake
namespace Go.Proofs.Ytkcmaneibfambaa
open Go.RowKit
set_option linter.unusedVariables false

set_option maxHeartbeats 4000000 in
set_option maxRecDepth 100000 in
theorem order_walk (a b c : Option Addr) (n m k n' m' k' : Nat) (la lb lc : List Lab) (w : World) (ha : Ls w a n la) (hb : Ls w b m lb) (hc : Ls w c k lc) (ra : n ≤ 140737488355328) (rb : m ≤ 140737488355328) (rc : k ≤ 140737488355328) :
    Calls Try.prog 8 #[.slice a n n', .slice b m m', .slice c k k'] w fun e w' => e = .returned (.bool true) ∧ Below w.heap.size w w' := by
  have hx : cmpL la lb = -1 ∨ cmpL la lb = 0 ∨ cmpL la lb = 1 := by have := cmpL_range la lb; omega
  have HSW := hidn (cmpL_swap la lb)
  have HSF := hidn (cmpL_self la)
  have HTR := hidn (cmpL_le_trans la lb lc)
  have HZ := hidn (cmpL_zero la lb)
  have hyz : (0 < cmpL lb lc) ∨ (¬ 0 < cmpL lb lc ∧ (cmpL la lb ≤ 0 → cmpL la lc ≤ 0)) := by
    by_cases h : 0 < cmpL lb lc
    · exact .inl h
    · exact .inr ⟨h, fun h2 => cmpL_le_trans la lb lc h2 (by omega)⟩
  rcases hx with hx | hx | hx
  all_goals
    have HX := hidn hx
    rcases hyz with hy | ⟨hy, hz⟩
  · have HY := hidn hy
    clear hx
    go_enter Try.func8, Try.ntmps8
    go_wp2_with fail
    refine (compare_any a n n' la b m m' lb _ ha hb ra rb).mono ?_
    rintro e w1 ⟨rfl, b1⟩
    rw [HX.out]
    have ha1 := ha.below b1
    have hb1 := hb.below b1
    have hc1 := hc.below b1
    clear ha hb hc
    generalize hyv : cmpL lb lc = y at *
    generalize hzv : cmpL la lc = z at *
    go_wp2_with fail
    refine (compare_any b m m' lb c k k' lc _ hb1 hc1 rb rc).mono ?_
    rintro e w2 ⟨rfl, b2⟩
    have B2 := b1.trans (b2.mono b1.size)
    have ha2 := ha1.below b2
    have hb2 := hb1.below b2
    have hc2 := hc1.below b2
    clear ha1 hb1 hc1
    rw [hyv]
    go_wp2_with fail
    refine (compare_any a n n' la c k k' lc _ ha2 hc2 ra rc).mono ?_
    rintro e w3 ⟨rfl, b3⟩
    have B3 := B2.trans (b3.mono B2.size)
    have ha3 := ha2.below b3
    have hb3 := hb2.below b3
    clear ha2 hb2 hc2
    rw [hzv]
    go_wp2_with fail
    refine (compare_any b m m' lb a n n' la _ hb3 ha3 rb ra).mono ?_
    rintro e w4 ⟨rfl, b4⟩
    have B4 := B3.trans (b4.mono B3.size)
    have ha4 := ha3.below b4
    have hb4 := hb3.below b4
    clear ha3 hb3
    rw [HSW.out, HX.out]
    go_wp2_with fail
    refine (compare_any a n n' la a n n' la _ ha4 ha4 ra ra).mono ?_
    rintro e w5 ⟨rfl, b5⟩
    have B5 := B4.trans (b5.mono B4.size)
    have ha5 := ha4.below b5
    have hb5 := hb4.below b5
    clear ha4 hb4
    rw [HSF.out]
    go_wp2_with fail
    refine (awake_any _).mono ?_
    rintro e w7 ⟨rfl, b7⟩
    go_wp2
    go_ret
    exact ⟨rfl, B5.trans (b7.mono B5.size)⟩
  · have HY := hidn hy
    have hz2 := hz (by omega)
    clear hx hz
    go_enter Try.func8, Try.ntmps8
    go_wp2_with fail
    refine (compare_any a n n' la b m m' lb _ ha hb ra rb).mono ?_
    rintro e w1 ⟨rfl, b1⟩
    rw [HX.out]
    have ha1 := ha.below b1
    have hb1 := hb.below b1
    have hc1 := hc.below b1
    clear ha hb hc
    generalize hyv : cmpL lb lc = y at *
    generalize hzv : cmpL la lc = z at *
    go_wp2_with fail
    refine (compare_any b m m' lb c k k' lc _ hb1 hc1 rb rc).mono ?_
    rintro e w2 ⟨rfl, b2⟩
    have B2 := b1.trans (b2.mono b1.size)
    have ha2 := ha1.below b2
    have hb2 := hb1.below b2
    have hc2 := hc1.below b2
    clear ha1 hb1 hc1
    rw [hyv]
    go_wp2_with fail
    refine (compare_any a n n' la c k k' lc _ ha2 hc2 ra rc).mono ?_
    rintro e w3 ⟨rfl, b3⟩
    have B3 := B2.trans (b3.mono B2.size)
    have ha3 := ha2.below b3
    have hb3 := hb2.below b3
    clear ha2 hb2 hc2
    rw [hzv]
    go_wp2_with fail
    refine (compare_any b m m' lb a n n' la _ hb3 ha3 rb ra).mono ?_
    rintro e w4 ⟨rfl, b4⟩
    have B4 := B3.trans (b4.mono B3.size)
    have ha4 := ha3.below b4
    have hb4 := hb3.below b4
    clear ha3 hb3
    rw [HSW.out, HX.out]
    go_wp2_with fail
    refine (compare_any a n n' la a n n' la _ ha4 ha4 ra ra).mono ?_
    rintro e w5 ⟨rfl, b5⟩
    have B5 := B4.trans (b5.mono B4.size)
    have ha5 := ha4.below b5
    have hb5 := hb4.below b5
    clear ha4 hb4
    rw [HSF.out]
    go_wp2_with fail
    refine (awake_any _).mono ?_
    rintro e w7 ⟨rfl, b7⟩
    go_wp2
    go_ret
    exact ⟨rfl, B5.trans (b7.mono B5.size)⟩
  · have HY := hidn hy
    clear hx
    go_enter Try.func8, Try.ntmps8
    go_wp2_with fail
    refine (compare_any a n n' la b m m' lb _ ha hb ra rb).mono ?_
    rintro e w1 ⟨rfl, b1⟩
    rw [HX.out]
    have ha1 := ha.below b1
    have hb1 := hb.below b1
    have hc1 := hc.below b1
    clear ha hb hc
    generalize hyv : cmpL lb lc = y at *
    generalize hzv : cmpL la lc = z at *
    go_wp2_with fail
    refine (compare_any b m m' lb c k k' lc _ hb1 hc1 rb rc).mono ?_
    rintro e w2 ⟨rfl, b2⟩
    have B2 := b1.trans (b2.mono b1.size)
    have ha2 := ha1.below b2
    have hb2 := hb1.below b2
    have hc2 := hc1.below b2
    clear ha1 hb1 hc1
    rw [hyv]
    go_wp2_with fail
    refine (compare_any a n n' la c k k' lc _ ha2 hc2 ra rc).mono ?_
    rintro e w3 ⟨rfl, b3⟩
    have B3 := B2.trans (b3.mono B2.size)
    have ha3 := ha2.below b3
    have hb3 := hb2.below b3
    clear ha2 hb2 hc2
    rw [hzv]
    go_wp2_with fail
    refine (compare_any b m m' lb a n n' la _ hb3 ha3 rb ra).mono ?_
    rintro e w4 ⟨rfl, b4⟩
    have B4 := B3.trans (b4.mono B3.size)
    have ha4 := ha3.below b4
    have hb4 := hb3.below b4
    clear ha3 hb3
    rw [HSW.out, HX.out]
    go_wp2_with fail
    refine (compare_any a n n' la a n n' la _ ha4 ha4 ra ra).mono ?_
    rintro e w5 ⟨rfl, b5⟩
    have B5 := B4.trans (b5.mono B4.size)
    have ha5 := ha4.below b5
    have hb5 := hb4.below b5
    clear ha4 hb4
    rw [HSF.out]
    go_wp2_with fail
    refine (equalL_any a n n' la b m m' lb _ ha5 hb5 ra rb).mono ?_
    rintro e w6 ⟨rfl, b6⟩
    have B6 := B5.trans (b6.mono B5.size)
    rw [decide_eq_true (HZ.out HX.out)]
    go_wp2_with fail
    refine (awake_any _).mono ?_
    rintro e w7 ⟨rfl, b7⟩
    go_wp2
    go_ret
    exact ⟨rfl, B6.trans (b7.mono B6.size)⟩
  · have HY := hidn hy
    have hz2 := hz (by omega)
    clear hx hz
    go_enter Try.func8, Try.ntmps8
    go_wp2_with fail
    refine (compare_any a n n' la b m m' lb _ ha hb ra rb).mono ?_
    rintro e w1 ⟨rfl, b1⟩
    rw [HX.out]
    have ha1 := ha.below b1
    have hb1 := hb.below b1
    have hc1 := hc.below b1
    clear ha hb hc
    generalize hyv : cmpL lb lc = y at *
    generalize hzv : cmpL la lc = z at *
    go_wp2_with fail
    refine (compare_any b m m' lb c k k' lc _ hb1 hc1 rb rc).mono ?_
    rintro e w2 ⟨rfl, b2⟩
    have B2 := b1.trans (b2.mono b1.size)
    have ha2 := ha1.below b2
    have hb2 := hb1.below b2
    have hc2 := hc1.below b2
    clear ha1 hb1 hc1
    rw [hyv]
    go_wp2_with fail
    refine (compare_any a n n' la c k k' lc _ ha2 hc2 ra rc).mono ?_
    rintro e w3 ⟨rfl, b3⟩
    have B3 := B2.trans (b3.mono B2.size)
    have ha3 := ha2.below b3
    have hb3 := hb2.below b3
    clear ha2 hb2 hc2
    rw [hzv]
    go_wp2_with fail
    refine (compare_any b m m' lb a n n' la _ hb3 ha3 rb ra).mono ?_
    rintro e w4 ⟨rfl, b4⟩
    have B4 := B3.trans (b4.mono B3.size)
    have ha4 := ha3.below b4
    have hb4 := hb3.below b4
    clear ha3 hb3
    rw [HSW.out, HX.out]
    go_wp2_with fail
    refine (compare_any a n n' la a n n' la _ ha4 ha4 ra ra).mono ?_
    rintro e w5 ⟨rfl, b5⟩
    have B5 := B4.trans (b5.mono B4.size)
    have ha5 := ha4.below b5
    have hb5 := hb4.below b5
    clear ha4 hb4
    rw [HSF.out]
    go_wp2_with fail
    refine (equalL_any a n n' la b m m' lb _ ha5 hb5 ra rb).mono ?_
    rintro e w6 ⟨rfl, b6⟩
    have B6 := B5.trans (b6.mono B5.size)
    rw [decide_eq_true (HZ.out HX.out)]
    go_wp2_with fail
    refine (awake_any _).mono ?_
    rintro e w7 ⟨rfl, b7⟩
    go_wp2
    go_ret
    exact ⟨rfl, B6.trans (b7.mono B6.size)⟩
  · have HY := hidn hy
    clear hx
    go_enter Try.func8, Try.ntmps8
    go_wp2_with fail
    refine (compare_any a n n' la b m m' lb _ ha hb ra rb).mono ?_
    rintro e w1 ⟨rfl, b1⟩
    rw [HX.out]
    have ha1 := ha.below b1
    have hb1 := hb.below b1
    have hc1 := hc.below b1
    clear ha hb hc
    generalize hyv : cmpL lb lc = y at *
    generalize hzv : cmpL la lc = z at *
    go_wp2_with fail
    refine (compare_any b m m' lb c k k' lc _ hb1 hc1 rb rc).mono ?_
    rintro e w2 ⟨rfl, b2⟩
    have B2 := b1.trans (b2.mono b1.size)
    have ha2 := ha1.below b2
    have hb2 := hb1.below b2
    have hc2 := hc1.below b2
    clear ha1 hb1 hc1
    rw [hyv]
    go_wp2_with fail
    refine (compare_any a n n' la c k k' lc _ ha2 hc2 ra rc).mono ?_
    rintro e w3 ⟨rfl, b3⟩
    have B3 := B2.trans (b3.mono B2.size)
    have ha3 := ha2.below b3
    have hb3 := hb2.below b3
    clear ha2 hb2 hc2
    rw [hzv]
    go_wp2_with fail
    refine (compare_any b m m' lb a n n' la _ hb3 ha3 rb ra).mono ?_
    rintro e w4 ⟨rfl, b4⟩
    have B4 := B3.trans (b4.mono B3.size)
    have ha4 := ha3.below b4
    have hb4 := hb3.below b4
    clear ha3 hb3
    rw [HSW.out, HX.out]
    go_wp2_with fail
    refine (compare_any a n n' la a n n' la _ ha4 ha4 ra ra).mono ?_
    rintro e w5 ⟨rfl, b5⟩
    have B5 := B4.trans (b5.mono B4.size)
    have ha5 := ha4.below b5
    have hb5 := hb4.below b5
    clear ha4 hb4
    rw [HSF.out]
    go_wp2_with fail
    refine (awake_any _).mono ?_
    rintro e w7 ⟨rfl, b7⟩
    go_wp2
    go_ret
    exact ⟨rfl, B5.trans (b7.mono B5.size)⟩
  · have HY := hidn hy
    clear hx hz
    go_enter Try.func8, Try.ntmps8
    go_wp2_with fail
    refine (compare_any a n n' la b m m' lb _ ha hb ra rb).mono ?_
    rintro e w1 ⟨rfl, b1⟩
    rw [HX.out]
    have ha1 := ha.below b1
    have hb1 := hb.below b1
    have hc1 := hc.below b1
    clear ha hb hc
    generalize hyv : cmpL lb lc = y at *
    generalize hzv : cmpL la lc = z at *
    go_wp2_with fail
    refine (compare_any b m m' lb c k k' lc _ hb1 hc1 rb rc).mono ?_
    rintro e w2 ⟨rfl, b2⟩
    have B2 := b1.trans (b2.mono b1.size)
    have ha2 := ha1.below b2
    have hb2 := hb1.below b2
    have hc2 := hc1.below b2
    clear ha1 hb1 hc1
    rw [hyv]
    go_wp2_with fail
    refine (compare_any a n n' la c k k' lc _ ha2 hc2 ra rc).mono ?_
    rintro e w3 ⟨rfl, b3⟩
    have B3 := B2.trans (b3.mono B2.size)
    have ha3 := ha2.below b3
    have hb3 := hb2.below b3
    clear ha2 hb2 hc2
    rw [hzv]
    go_wp2_with fail
    refine (compare_any b m m' lb a n n' la _ hb3 ha3 rb ra).mono ?_
    rintro e w4 ⟨rfl, b4⟩
    have B4 := B3.trans (b4.mono B3.size)
    have ha4 := ha3.below b4
    have hb4 := hb3.below b4
    clear ha3 hb3
    rw [HSW.out, HX.out]
    go_wp2_with fail
    refine (compare_any a n n' la a n n' la _ ha4 ha4 ra ra).mono ?_
    rintro e w5 ⟨rfl, b5⟩
    have B5 := B4.trans (b5.mono B4.size)
    have ha5 := ha4.below b5
    have hb5 := hb4.below b5
    clear ha4 hb4
    rw [HSF.out]
    go_wp2_with fail
    refine (awake_any _).mono ?_
    rintro e w7 ⟨rfl, b7⟩
    go_wp2
    go_ret
    exact ⟨rfl, B5.trans (b7.mono B5.size)⟩
end Go.Proofs.Ytkcmaneibfambaa
