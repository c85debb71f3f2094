/- dryrotlaw01.awake returns true. -/
import Derived.Test.YtdpoiodaonhjiaaDoorCrc
import Derived.Lib.SlBytesConst
namespace Go.Proofs.YtdpoiodaonhjiaaDoor
open Go.RowKit

theorem crc_nine : crcM 0 [49, 50, 51, 52, 53, 54, 55, 56, 57] = 3808858755 := by decide +kernel

theorem bs_new (w : World) (zs : List Nat) (fr : Nat × Nat) (hz : ∀ x ∈ zs, x < 256) (hm : zs.length ≤ maxLen) : Bs (w.alloc (.cells (vb zs).toArray 5 fr)) (some ⟨w.heap.size, 0, none⟩) zs.length zs := by
  refine ⟨rfl, hm, hz, (fun h => by simp at h), fun x hx j hj => ?_⟩
  cases hx
  rw [add_none, World.cell?_alloc_mark, Nat.zero_add]
  simpa using vb_getD zs j hj

set_option maxHeartbeats 1000000 in
theorem awake1_any (w : World) (hT : CrcTab w) :
    Calls Tryd.prog 12 #[] w fun e w' => e = .returned (.bool true) ∧ Below w.heap.size w w' := by
  have kc := fun (w : World) (C : Array Value) (n c : Nat) => Lib.run_convert_bytes_const (P := Tryd.prog) w 22 5 C n c Tryd.underlying22 Tryd.underlying5
  go_enter Tryd.func12, Tryd.ntmps12
  go_wp2_with fail
  refine (sum_any _ 9 9 [49, 50, 51, 52, 53, 54, 55, 56, 57] _ (bs_new w [49, 50, 51, 52, 53, 54, 55, 56, 57] (9, 10) (by decide) (by decide)) (hT.below ((Below.refl _ _).alloc (Nat.le_refl _) _))).mono ?_
  rintro e w' ⟨rfl, rfl⟩
  rw [crc_nine]
  go_wp2
  go_ret
  exact ⟨rfl, (Below.refl _ _).alloc (Nat.le_refl _) _⟩
end Go.Proofs.YtdpoiodaonhjiaaDoor
