/- Small facts for the walk of dryrotlaw02.BitsAgain. -/
import Derived.Test.YtdpoiodaonhjiabDoorAgainMath
namespace Go.Proofs.YtdpoiodaonhjiabDoor
open Go.RowKit
set_option linter.unusedVariables false

theorem can_full (zs : List Nat) (m : Nat) (h : zs.length = m) : canB zs ((8 * m : Nat) : Int) = true := by
  rw [canB_iff]
  refine ⟨by omega, by rw [Int.toNat_natCast, h]; unfold nb; omega, fun i hi hn => ?_⟩
  rw [Int.toNat_natCast] at hn
  omega
theorem putInt_zero (w : World) (v : Int) (hT : BitsTab w) :
    Calls Tryd.prog 11 #[.agg #[.slice none 0 0, .int .i64 0], .int .i64 v] w fun e w' =>
      ∃ (ay : Option Addr) (cy : Nat) (ys : List Nat), e = .returned (.tuple #[.agg #[.slice ay ys.length cy, .int .i64 (intLen v : Nat)], .int .i64 0]) ∧ Bs w' ay ys.length ys ∧ IsPack ys (intBits v) ∧ Below w.heap.size w w' := by
  have h := putInt_ok none 0 0 0 v [] w (Bs.nil _) (by omega) (by decide) hT
  rw [show ((0 : Nat) : Int) = 0 from rfl, Nat.zero_add] at h
  refine h.mono ?_
  rintro e w1 ⟨g, ys, rfl, hg, hown, hpk, hb1⟩
  obtain ⟨ay, cy, hvy, hBy⟩ := bs_of_own hown hpk.2.1
  rw [hvy]
  exact ⟨ay, cy, ys, rfl, hBy, hpk, hb1⟩
theorem tV_one {zs : List Nat} {n q i : Nat} (hcan : canB zs n = true) (h : q + i < n) : tV zs n ((q : Int) + i) 1 = (bitAt zs (q + i)).toNat := (tE_one hcan h).2
theorem tV_one0 {zs : List Nat} {n i : Nat} (hcan : canB zs n = true) (h : i < n) : tV zs n (i : Int) 1 = (bitAt zs i).toNat := by
  have := (tE_one (at_ := 0) (k := i) hcan (by omega)).2
  rwa [show ((0 : Nat) : Int) + (i : Int) = (i : Int) from by omega, Nat.zero_add] at this
theorem len_300 {ys : List Nat} {l : List Bool} (h : IsPack ys l) (hl : l.length ≤ 68) : ys.length ≤ 300 := by
  have := h.1
  unfold nb at this
  omega
end Go.Proofs.YtdpoiodaonhjiabDoor
