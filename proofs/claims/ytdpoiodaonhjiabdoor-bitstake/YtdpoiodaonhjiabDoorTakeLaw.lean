/- The walk of dryrotlaw02.BitsTake: it returns true. -/
import Derived.Test.YtdpoiodaonhjiabDoorRefTake
import Derived.Test.YtdpoiodaonhjiabDoorLaw2
namespace Go.Proofs.YtdpoiodaonhjiabDoor
open Go.RowKit
set_option linter.unusedVariables false

set_option maxHeartbeats 1000000 in
theorem bitsTake_walk (a : Option Addr) (len cap : Nat) (x at_ count : Int) (zs : List Nat) (w : World) (hB : Bs w a len zs) (hx : (Lit.int .i64 x).wf = true) (ha : (Lit.int .i64 at_).wf = true) (hc : (Lit.int .i64 count).wf = true) (hT : BitsTab w) :
    Calls Tryd.prog 3 #[.agg #[.slice a len cap, .int .i64 x], .int .i64 at_, .int .i64 count] w fun e w' => e = .returned (.bool true) ∧ Below w.heap.size w w' := by
  have hm : len ≤ 9223372036854775807 := hB.2.1
  have bx := (bounds_i64 hx).2
  have h0 : Below w.heap.size w (w.alloc (.cells #[.slice a len cap, .int .i64 x] 24)) := (Below.refl w.heap.size w).alloc (Nat.le_refl _) _
  clear hx ha hc
  go_enter Tryd.func3, Tryd.ntmps3
  go_wp2_with fail
  refine (short_any a len cap x _ hm).mono ?_
  rintro e w1 ⟨rfl, hb1⟩
  have hbw := h0.trans (hb1.mono (by simp))
  have hT1 := hT.below hbw
  have hB1 := hB.below hbw
  have c0 : w1.cell? ⟨w.heap.size, 0, none⟩ = some (.slice a len cap) := (hb1.cell (by simp)).trans (by simp)
  have c1 : w1.cell? ⟨w.heap.size, 1, none⟩ = some (.int .i64 x) := (hb1.cell (by simp)).trans (by simp)
  clear hT hb1 h0
  by_cases hs : len ≤ 200
  · rw [decide_eq_true hs]
    go_wp2_with fail
    refine (take_all a len cap x at_ count zs _ hB1 (by omega) (by omega)).mono ?_
    rintro e w2 ⟨rfl, hb2⟩
    have c0' := (hb2.cell (block_lt_of_cell c0)).trans c0
    have c1' := (hb2.cell (block_lt_of_cell c1)).trans c1
    have hbw2 := hbw.trans (hb2.mono hbw.size)
    go_wp2_with fail
    refine (refTake_all a len cap x at_ count zs _ (hB1.below hb2) (by omega) (by omega)).mono ?_
    rintro e w3 ⟨rfl, hb3⟩
    have hbw3 := hbw2.trans (hb3.mono hbw2.size)
    have hT3 := (hT1.below hb2).below hb3
    generalize tV zs x at_ count = tv at *
    generalize tE zs x at_ count = te at *
    have b1 : ((tv : Int) == (tv : Int)) = true := by simp
    have b2 : ((te : Int) == te) = true := by simp
    clear hT1 hB1 c0 c1 c0' c1'
    go_wp2_with fail
    refine (awake2_any _ hT3).mono ?_
    rintro e w4 ⟨rfl, hb4⟩
    go_wp2
    go_ret
    exact ⟨rfl, hbw3.trans (hb4.mono hbw3.size)⟩
  · rw [decide_eq_false hs]
    clear hs
    go_wp2_with fail
    refine (awake2_any _ hT1).mono ?_
    rintro e w2 ⟨rfl, hb2⟩
    go_wp2
    go_ret
    exact ⟨rfl, hbw.trans (hb2.mono hbw.size)⟩
end Go.Proofs.YtdpoiodaonhjiabDoor
