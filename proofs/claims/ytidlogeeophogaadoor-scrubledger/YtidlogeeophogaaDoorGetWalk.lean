/- The walks of crc.Get and of the document's Get: what any bytes say. -/
import Derived.Test.YtidlogeeophogaaDoorChecked
import Derived.WalkKit
import Derived.WalkLawsBesides
import Derived.KernelRfl
import Derived.Test.YtidlogeeophogaaDoorBytes
namespace Go.Proofs.YtidlogeeophogaaDoor
open Go.RowKit
set_option linter.unusedVariables false

/-- The round of the document's Get, in the walk's spelling. -/
theorem refGet_step (l : List Nat) (k : Nat) (hk : k < l.length) (h : ∀ x ∈ l, x < 256) (h8 : l.length ≤ 8) :
    IntKind.u64.wrap (IntKind.u64.wrap (((getB 0 (List.take k l) : Nat) : Int) * 256) + IntKind.u64.wrap ((l[k]?.getD 0 : Nat) : Int)) = ((getB 0 (l.take (k + 1)) : Nat) : Int) := by
  have h1 := getB_take_lt l k h (by omega)
  have h2 := getD_mem_lt l k 256 (by omega) h
  rw [take_succ_getD l k hk, getB_snoc]
  simp only [IntKind.wrap_u64]
  omega

set_option maxHeartbeats 1000000 in
theorem get_none (ao : Option Addr) (len cap : Nat) (w : World) (hm : len ≤ maxLen) (h : len = 0 ∨ 8 < len) :
    Calls Tryd.prog 76 #[.slice ao len cap] w fun e w' => e = .returned (.tuple #[.int .u64 0, .bool false]) ∧ w' = w := by
  unfold maxLen at hm
  rcases h with rfl | h
  · go_enter Tryd.func76, Tryd.ntmps76
    go_wp2
    go_ret2
    exact ⟨rfl, rfl⟩
  · go_enter Tryd.func76, Tryd.ntmps76
    go_wp2
    go_ret2
    exact ⟨rfl, rfl⟩

set_option maxHeartbeats 1000000 in
theorem get_some (b off len cap : Nat) (zs : List Nat) (w : World) (hz : ∀ x ∈ zs, x < 256) (hlen : len = zs.length) (h0 : 0 < len) (h8 : len ≤ 8)
    (hc : ∀ j, j < len → w.cell? ⟨b, off + j, none⟩ = some (.int .u8 ((zs.getD j 0 : Nat) : Int))) :
    Calls Tryd.prog 76 #[.slice (some ⟨b, off, none⟩) len cap] w fun e w' => e = .returned (.tuple #[.int .u64 (getB 0 zs : Nat), .bool true]) ∧ w' = w := by
  have HL : Hid (len = zs.length) := hlen
  clear hlen
  have h1 : ((len : Int) == 0) = false := beq_eq_false_iff_ne.2 (by omega)
  have h2 : decide (8 < (len : Int)) = false := by simp; omega
  go_enter Tryd.func76, Tryd.ntmps76
  go_wp2
  go_loop [4, 17] (fun nv iv => ∃ k : Nat, k ≤ len ∧ iv = .int .i64 k ∧ nv = .int .u64 (getB 0 (zs.take k) : Nat)) (fun _ iv => len - (intOf iv).toNat)
  case atStart => exact ⟨0, Nat.zero_le _, rfl, rfl⟩
  case round =>
    obtain ⟨k, hk, rfl, rfl⟩ := hrel
    by_cases hlt : k < len
    · have hck := hc k hlt
      go_wp2
      go_round
      case rel => exact ⟨k + 1, by omega, by go_num, congrArg (Value.int .u64) (get_step zs k (by rw [← HL.out]; exact hlt) hz (by rw [← HL.out]; exact h8))⟩
      case measure => simp [intOf]; omega
    · go_wp2
      go_ret2
      have e : zs.take k = zs := List.take_of_length_le (by rw [← HL.out]; omega)
      rw [e]
      exact ⟨rfl, rfl⟩

end Go.Proofs.YtidlogeeophogaaDoor
