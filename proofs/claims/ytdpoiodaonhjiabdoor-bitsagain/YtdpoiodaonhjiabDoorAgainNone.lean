/- The walk of dryrotlaw02.BitsAgain over no bytes. -/
import Derived.Test.YtdpoiodaonhjiabDoorAgainBase
namespace Go.Proofs.YtdpoiodaonhjiabDoor
open Go.RowKit
set_option linter.unusedVariables false

set_option maxHeartbeats 16000000 in
theorem again_none (at_ : Int) (w : World) (hT : BitsTab w) (hq : (IntKind.u64.wrap at_).tmod 1 = 0) :
    Calls Tryd.prog 6 #[.slice none 0 0, .int .i64 at_] w fun e w' => e = .returned (.bool true) ∧ Below w.heap.size w w' := by
  have hW0 : Below w.heap.size w (w.alloc (.cells #[.slice none 0 0, .int .i64 0] 24)) := (Below.refl _ _).alloc (Nat.le_refl _) _
  go_enter Tryd.func6, Tryd.ntmps6
  go_wp2_with fail
  refine (takeInt_any none 0 0 0 0 [] _ ((Bs.nil _).below hW0) (by omega) (by omega) (hT.below hW0)).mono ?_
  rintro e w1 ⟨v, to, er, rfl, hTI, hb1⟩
  have c0 : w1.cell? ⟨w.heap.size, 0, none⟩ = some (.slice none 0 0) := (hb1.cell (by simp)).trans (by simp)
  have c1 : w1.cell? ⟨w.heap.size, 1, none⟩ = some (.int .i64 0) := (hb1.cell (by simp)).trans (by simp)
  have hbw := hW0.trans (hb1.mono hW0.size)
  have hlt1 : w.heap.size < w1.heap.size := block_lt_of_cell c0
  clear hb1
  have her : er ≠ 0 := by
    rintro rfl
    have h := (ti_bits (n := 0) (q := 0) hTI).2.1
    have h1 : 1 ≤ clsMarks (cls v) := by unfold clsMarks; split; omega; split; omega; split <;> omega
    unfold intLen at h
    omega
  obtain ⟨hv0, hto0⟩ := ti_err hTI her
  have bne : (er != 0) = true := by rw [bne_iff_ne]; exact her
  rw [hv0, hto0]
  clear her
  go_wp2_with fail
  refine (refTakeInt_any none 0 0 0 0 [] _ ((Bs.nil _).below hbw) (by omega) (by omega)).mono ?_
  rintro e w2 ⟨v2, to2, er2, rfl, hTI2, hb2⟩
  obtain ⟨q1, q2, q3⟩ := hTI.unique hTI2
  rw [← q3]
  have hbw2 := hbw.trans (hb2.mono hbw.size)
  have be : (er == er) = true := by simp
  clear q1 q2 q3 hTI hTI2 hv0 hto0 hb2 c0 c1
  go_wp2_with fail
  refine (awake2_any _ (hT.below hbw2)).mono ?_
  rintro e w3 ⟨rfl, hb3⟩
  go_wp2
  go_ret
  exact ⟨rfl, hbw2.trans (hb3.mono hbw2.size)⟩
end Go.Proofs.YtdpoiodaonhjiabDoor
