/- FsckNobody: the law's walk. -/
import Derived.Test.YteammmhlpinhfaaGreatDoorFkN
namespace Go.Proofs.YteammmhlpinhfaaGreatDoor
open Go.RowKit Go.Maps
set_option linter.unusedVariables false

set_option maxHeartbeats 4000000 in
set_option maxRecDepth 100000 in
theorem fsckNobody_walk (x : Int) (w : World) :
    Calls Tryz.prog 3 #[.int .i64 x] w fun e w' => e = .returned (.bool true) ∧ Below w.heap.size w w' := by
  go_enter Tryz.func3, Tryz.ntmps3
  go_wp2
  go_loopw [11] (fun i wr => ∃ k : Nat, k ≤ 2 ∧ i = .int .i64 k ∧ Hid (NB0 wr w.heap.size) ∧ Below w.heap.size w wr) (fun i wr => 2 - (intOf i).toNat)
  case atStart => exact ⟨0, Nat.zero_le _, rfl, hidn (NB0.new w), (((Below.refl _ w).alloc (Nat.le_refl _) _).alloc (by simp) _)⟩
  case round =>
    obtain ⟨k, hk, rfl, hN, hbl⟩ := hrel
    by_cases hlt : k < 2
    · obtain ⟨v, hcv, hun⟩ := hN.out.disk k hlt
      have hUN := hidn hun
      clear hun
      have hk2 : (k : Int) < 2 := by omega
      have HBL := hidn hbl
      clear hbl
      go_wp2_with fail
      refine (fk_found _ v hUN.out _).mono ?_
      rintro e w1 ⟨rfl, hb1⟩
      have HU1 := hidn (hUN.out.below hb1)
      have HN1 := hidn (hN.out.below hb1)
      have HB1 := hidn (HBL.out.trans (hb1.mono HBL.out.size))
      clear hb1 hcv
      go_wp2_with fail
      refine (fk_run _ v HU1.out).mono ?_
      rintro e w2 ⟨rfl, hb2⟩
      have HN2 := hidn (HN1.out.below hb2)
      have HB2 := hidn (HB1.out.trans (hb2.mono HB1.out.size))
      clear hb2
      go_wp2_with fail
      exact ⟨⟨k + 1, by omega, by simp, HN2, HB2.out⟩, by simp [intOf]; omega⟩
    · have hk2 : ¬ (k : Int) < 2 := by omega
      go_wp2_with fail
      refine (awake21 _).mono ?_
      rintro e w2 ⟨rfl, hb2⟩
      go_wp2
      go_ret
      exact ⟨rfl, hbl.trans (hb2.mono hbl.size)⟩
end Go.Proofs.YteammmhlpinhfaaGreatDoor
