/- LabelsCan: the law's walk. -/
import Derived.Test.YtkcmaneibfambaaLabCanMore
import Derived.Test.YtkcmaneibfambaaLabRefCan
import Derived.Test.YtkcmaneibfambaaLabAwake
namespace Go.Proofs.Ytkcmaneibfambaa
open Go.RowKit
set_option linter.unusedVariables false

set_option maxHeartbeats 4000000 in
set_option maxRecDepth 100000 in
theorem can_walk (a b : Option Addr) (n m n' m' : Nat) (la lb : List Lab) (s : ByteArray) (w : World) (ha0 : Ls w a n la) (hb0 : Ls w b m lb) (ra : n ≤ 140737488355328) (rb : m ≤ 140737488355328) (hs : s.size ≤ maxLen) :
    Calls Try.prog 3 #[.slice a n n', .slice b m m', .string s] w fun e w' => e = .returned (.bool true) ∧ Below w.heap.size w w' := by
  obtain ⟨c0, hc0⟩ : ∃ c, canOK la = c := ⟨_, rfl⟩
  obtain ⟨c2, hc2⟩ : ∃ c, cmpL la lb = c := ⟨_, rfl⟩
  obtain ⟨c4, hc4⟩ : ∃ c, getL la s = c := ⟨_, rfl⟩
  obtain ⟨c6, hc6⟩ : ∃ c, nameOK s = c := ⟨_, rfl⟩
  obtain ⟨c8, hc8⟩ : ∃ c, valueOK s = c := ⟨_, rfl⟩
  have H0 := hidn hc0
  have H2 := hidn hc2
  have H4 := hidn hc4
  have H6 := hidn hc6
  have H8 := hidn hc8
  have q0 : (c0 == c0) = true := beq_iff_eq.2 rfl
  have q2 : (c2 == c2) = true := beq_iff_eq.2 rfl
  have q4 : (c4.toList == c4.toList) = true := beq_iff_eq.2 rfl
  have q6 : (c6 == c6) = true := beq_iff_eq.2 rfl
  have q8 : (c8 == c8) = true := beq_iff_eq.2 rfl
  clear hc0 hc2 hc4 hc6 hc8
  go_enter Try.func3, Try.ntmps3
  go_wp2_with fail
  refine (can_any a n n' la _ ha0 ra).mono ?_
  rintro e w1 ⟨rfl, b1⟩
  rw [H0.out]
  have B1 := b1
  have ha1 := ha0.below b1
  have hb1 := hb0.below b1
  clear ha0 hb0 b1
  go_wp2_with fail
  refine (refCan_any a n n' la _ ha1 ra).mono ?_
  rintro e w2 ⟨rfl, b2⟩
  rw [H0.out]
  have B2 := B1.trans (b2.mono B1.size)
  have ha2 := ha1.below b2
  have hb2 := hb1.below b2
  clear ha1 hb1 b2
  go_wp2_with fail
  refine (compare_any a n n' la b m m' lb _ ha2 hb2 ra rb).mono ?_
  rintro e w3 ⟨rfl, b3⟩
  rw [H2.out]
  have B3 := B2.trans (b3.mono B2.size)
  have ha3 := ha2.below b3
  have hb3 := hb2.below b3
  clear ha2 hb2 b3
  go_wp2_with fail
  refine (refCompare_any a n n' la b m m' lb _ ha3 hb3 ra rb).mono ?_
  rintro e w4 ⟨rfl, b4⟩
  rw [H2.out]
  have B4 := B3.trans (b4.mono B3.size)
  have ha4 := ha3.below b4
  have hb4 := hb3.below b4
  clear ha3 hb3 b4
  go_wp2_with fail
  refine (get_any a n n' la s _ ha4 ra).mono ?_
  rintro e w5 ⟨rfl, b5⟩
  rw [H4.out]
  have B5 := B4.trans (b5.mono B4.size)
  have ha5 := ha4.below b5
  have hb5 := hb4.below b5
  clear ha4 hb4 b5
  go_wp2_with fail
  refine (refGet_any a n n' la s _ ha5 ra).mono ?_
  rintro e w6 ⟨rfl, b6⟩
  rw [H4.out]
  have B6 := B5.trans (b6.mono B5.size)
  have ha6 := ha5.below b6
  have hb6 := hb5.below b6
  clear ha5 hb5 b6
  go_wp2_with fail
  refine (name_any s _ hs).mono ?_
  rintro e w7 ⟨rfl, b7⟩
  rw [H6.out]
  have B7 := B6.trans (b7.mono B6.size)
  have ha7 := ha6.below b7
  have hb7 := hb6.below b7
  clear ha6 hb6 b7
  go_wp2_with fail
  refine (refName_any s _ hs).mono ?_
  rintro e w8 ⟨rfl, rfl⟩
  rw [H6.out]
  have ha8 := ha7
  have hb8 := hb7
  have B8 := B7
  clear ha7 hb7
  go_wp2_with fail
  refine (value_any s _ hs).mono ?_
  rintro e w9 ⟨rfl, b9⟩
  rw [H8.out]
  have B9 := B8.trans (b9.mono B8.size)
  have ha9 := ha8.below b9
  have hb9 := hb8.below b9
  clear ha8 hb8 b9
  go_wp2_with fail
  refine (refValue_any s _ hs).mono ?_
  rintro e w10 ⟨rfl, b10⟩
  rw [H8.out]
  have B10 := B9.trans (b10.mono B9.size)
  have ha10 := ha9.below b10
  have hb10 := hb9.below b10
  clear ha9 hb9 b10
  go_wp2_with fail
  refine (awake_any _).mono ?_
  rintro e w11 ⟨rfl, b11⟩
  go_wp2
  go_ret
  exact ⟨rfl, B10.trans (b11.mono B10.size)⟩
end Go.Proofs.Ytkcmaneibfambaa
