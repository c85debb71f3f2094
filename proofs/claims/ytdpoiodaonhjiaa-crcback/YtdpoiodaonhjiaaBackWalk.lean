/- The walk of dryrotlaw01.CrcBack: it returns true. -/
import Derived.Test.YtdpoiodaonhjiaaPutWalk
import Derived.Test.YtdpoiodaonhjiaaGetWalk
namespace Go.Proofs.Ytdpoiodaonhjiaa
open Go.RowKit

theorem own_cells {w : World} {base g k cap : Nat} {zs : List Nat} (h : w.ownsRow base 5 1 (.slice (some ⟨g, 0, none⟩) k cap) k (vb zs)) (hk : k = zs.length) :
    ∀ j, j < k → w.cell? ⟨g, 0 + j, none⟩ = some (.int .u8 ((zs.getD j 0 : Nat) : Int)) := by
  intro j hj
  rw [Nat.zero_add, h.cellAt j (by omega), vb_getD zs j (by omega)]

theorem back_eq (n r : Nat) (hr7 : r ≤ 7) : ((n : Int) % 256 ^ (1 + r) == IntKind.u64.wrap ((n : Int) * 2 ^ (64 - 8 * (1 + r))) / 2 ^ (64 - 8 * (1 + r))) = true := by
  rw [beq_iff_eq, IntKind.wrap_u64]
  have h : r = 0 ∨ r = 1 ∨ r = 2 ∨ r = 3 ∨ r = 4 ∨ r = 5 ∨ r = 6 ∨ r = 7 := by omega
  rcases h with rfl | rfl | rfl | rfl | rfl | rfl | rfl | rfl
  all_goals
    simp only [Nat.reduceAdd, Nat.reduceMul, Nat.reduceSub, Int.reducePow]
    omega
theorem ret_bool {b : Bool} (h : b = true) : Ending.returned (.bool b) = .returned (.bool true) := by rw [h]

set_option maxHeartbeats 1000000 in
theorem back_walk (n : Nat) (a1 : Int) (r : Nat) (w : World) (hn : n < 18446744073709551616) (hr : (IntKind.u64.wrap a1).tmod 8 = (r : Int)) (hr7 : r ≤ 7) :
    Calls Try.prog 3 #[.int .u64 n, .int .i64 a1] w fun e w' => e = .returned (.bool true) ∧ Below w.heap.size w w' := by
  go_enter Try.func3, Try.ntmps3
  go_wp2_with fail
  refine (put_any n 8 8 _ hn (by omega)).mono ?_
  rintro e w1 ⟨rfl, hown, hb1⟩
  go_wp2_with fail
  refine (get_some _ 0 8 8 (putB n 8) _ (putB_lt _ _) (putB_length _ _).symm (by omega) (by omega) (own_cells hown (putB_length _ _).symm)).mono ?_
  rintro e w2 ⟨rfl, rfl⟩
  rw [getB_putB 8 n, Nat.mod_eq_of_lt (by omega : n < 256 ^ 8)]
  clear hown
  go_wp2_with fail
  refine (put_any n _ (1 + r) _ hn (by omega)).mono ?_
  rintro e w3 ⟨rfl, hown3, hb3⟩
  go_wp2_with fail
  refine (get_some _ 0 (1 + r) (1 + r) (putB n (1 + r)) _ (putB_lt _ _) (putB_length _ _).symm (by omega) (by omega) (own_cells hown3 (putB_length _ _).symm)).mono ?_
  rintro e w4 ⟨rfl, rfl⟩
  clear hown3
  rw [getB_putB (1 + r) n]
  go_wp2
  go_ret
  exact ⟨ret_bool (back_eq n r hr7), hb1.trans (hb3.mono hb1.size)⟩
end Go.Proofs.Ytdpoiodaonhjiaa
