/- The walks of crc.Get and of the document's Get: what any bytes say. -/
import Derived.Test.YthhnpajaacfapaaDoorChecked
import Derived.WalkKit
import Derived.WalkLawsBesides
import Derived.KernelRfl
import Derived.Test.YthhnpajaacfapaaDoorBytes
namespace Go.Proofs.YthhnpajaacfapaaDoor
open Go.RowKit
set_option linter.unusedVariables false

/-- The round of the document's Get, in the walk's spelling. -/
theorem refGet_step (l : List Nat) (k : Nat) (hk : k < l.length) (h : ∀ x ∈ l, x < 256) (h8 : l.length ≤ 8) :
    IntKind.u64.wrap (IntKind.u64.wrap (((getB 0 (List.take k l) : Nat) : Int) * 256) + IntKind.u64.wrap ((l[k]?.getD 0 : Nat) : Int)) = ((getB 0 (l.take (k + 1)) : Nat) : Int) := by
  have h1 := getB_take_lt l k h (by omega)
  have h2 := getD_mem_lt l k 256 (by omega) h
  rw [take_succ_getD l k hk, getB_snoc]
  simp only [IntKind.wrap_u64]
  omega

set_option maxHeartbeats 1000000 in
theorem get_none (ao : Option Addr) (len cap : Nat) (w : World) (hm : len ≤ maxLen) (h : len = 0 ∨ 8 < len) :
    Calls Tryd.prog 44 #[.slice ao len cap] w fun e w' => e = .returned (.tuple #[.int .u64 0, .bool false]) ∧ w' = w := by
  unfold maxLen at hm
  rcases h with rfl | h
  · go_enter Tryd.func44, Tryd.ntmps44
    go_wp2
    go_ret2
    exact ⟨rfl, rfl⟩
  · go_enter Tryd.func44, Tryd.ntmps44
    go_wp2
    go_ret2
    exact ⟨rfl, rfl⟩

set_option maxHeartbeats 1000000 in
theorem get_some (b off len cap : Nat) (zs : List Nat) (w : World) (hz : ∀ x ∈ zs, x < 256) (hlen : len = zs.length) (h0 : 0 < len) (h8 : len ≤ 8)
    (hc : ∀ j, j < len → w.cell? ⟨b, off + j, none⟩ = some (.int .u8 ((zs.getD j 0 : Nat) : Int))) :
    Calls Tryd.prog 44 #[.slice (some ⟨b, off, none⟩) len cap] w fun e w' => e = .returned (.tuple #[.int .u64 (getB 0 zs : Nat), .bool true]) ∧ w' = w := by
  have HL : Hid (len = zs.length) := hlen
  clear hlen
  have h1 : ((len : Int) == 0) = false := beq_eq_false_iff_ne.2 (by omega)
  have h2 : decide (8 < (len : Int)) = false := by simp; omega
  go_enter Tryd.func44, Tryd.ntmps44
  go_wp2
  go_loop [4, 17] (fun nv iv => ∃ k : Nat, k ≤ len ∧ iv = .int .i64 k ∧ nv = .int .u64 (getB 0 (zs.take k) : Nat)) (fun _ iv => len - (intOf iv).toNat)
  case atStart => exact ⟨0, Nat.zero_le _, rfl, rfl⟩
  case round =>
    obtain ⟨k, hk, rfl, rfl⟩ := hrel
    by_cases hlt : k < len
    · have hck := hc k hlt
      go_wp2
      go_round
      case rel => exact ⟨k + 1, by omega, by go_num, congrArg (Value.int .u64) (get_step zs k (by rw [← HL.out]; exact hlt) hz (by rw [← HL.out]; exact h8))⟩
      case measure => simp [intOf]; omega
    · go_wp2
      go_ret2
      have e : zs.take k = zs := List.take_of_length_le (by rw [← HL.out]; omega)
      rw [e]
      exact ⟨rfl, rfl⟩

set_option maxHeartbeats 1000000 in
theorem refGet_none (ao : Option Addr) (len cap : Nat) (w : World) (hm : len ≤ maxLen) (h : len = 0 ∨ 8 < len) :
    Calls Tryd.prog 41 #[.slice ao len cap] w fun e w' => e = .returned (.tuple #[.int .u64 0, .bool false]) ∧ w' = w := by
  unfold maxLen at hm
  rcases h with rfl | h
  · go_enter Tryd.func41, Tryd.ntmps41
    go_wp2
    go_ret2
    exact ⟨rfl, rfl⟩
  · go_enter Tryd.func41, Tryd.ntmps41
    go_wp2
    go_ret2
    exact ⟨rfl, rfl⟩

set_option maxHeartbeats 1000000 in
theorem refGet_some (b off len cap : Nat) (zs : List Nat) (w : World) (hz : ∀ x ∈ zs, x < 256) (hlen : len = zs.length) (h0 : 0 < len) (h8 : len ≤ 8)
    (hc : ∀ j, j < len → w.cell? ⟨b, off + j, none⟩ = some (.int .u8 ((zs.getD j 0 : Nat) : Int))) :
    Calls Tryd.prog 41 #[.slice (some ⟨b, off, none⟩) len cap] w fun e w' => e = .returned (.tuple #[.int .u64 (getB 0 zs : Nat), .bool true]) ∧ w' = w := by
  have HL : Hid (len = zs.length) := hlen
  clear hlen
  have h1 : decide ((len : Int) < 1) = false := by simp; omega
  have h2 : decide (8 < (len : Int)) = false := by simp; omega
  go_enter Tryd.func41, Tryd.ntmps41
  go_wp2
  go_loop [4, 17] (fun nv iv => ∃ k : Nat, k ≤ len ∧ iv = .int .i64 k ∧ nv = .int .u64 (getB 0 (zs.take k) : Nat)) (fun _ iv => len - (intOf iv).toNat)
  case atStart => exact ⟨0, Nat.zero_le _, rfl, rfl⟩
  case round =>
    obtain ⟨k, hk, rfl, rfl⟩ := hrel
    by_cases hlt : k < len
    · have hck := hc k hlt
      go_wp2
      go_round
      case rel => exact ⟨k + 1, by omega, by go_num, congrArg (Value.int .u64) (refGet_step zs k (by rw [← HL.out]; exact hlt) hz (by rw [← HL.out]; exact h8))⟩
      case measure => simp [intOf]; omega
    · go_wp2
      go_ret2
      have e : zs.take k = zs := List.take_of_length_le (by rw [← HL.out]; omega)
      rw [e]
      exact ⟨rfl, rfl⟩
end Go.Proofs.YthhnpajaacfapaaDoor

namespace Go.Proofs.YthhnpajaacfapaaDoor
open Go.RowKit
set_option linter.unusedVariables false

set_option maxHeartbeats 1000000 in
theorem clone_any (a : Option Addr) (len cap : Nat) (zs : List Nat) (w : World) (h : Bs w a len zs) (hr : len ≤ 140737488355328) :
    Calls Tryd.prog 69 #[.slice a len cap] w fun e w' => ∃ v, e = .returned v ∧ w'.ownsRow w.heap.size 5 1 v len (vb zs) ∧ Below w.heap.size w w' := by
  obtain ⟨i0, hi, hz0, hz1, hz2⟩ := info_parts Tryd.info5
  have heq := fun (wx : World) (aa : Option Addr) (n c : Nat) => Lib.run_eql_slice_nil (P := Tryd.prog) wx 29 5 aa n c 0 0 Tryd.underlying29
  obtain ⟨hl, hm, hz, hn, hc⟩ := h
  unfold maxLen at hm
  cases a with
  | none =>
    obtain rfl := hn rfl
    obtain rfl : zs = [] := List.length_eq_zero_iff.1 hl
    go_enter Tryd.func69, Tryd.ntmps69
    go_wp2
    go_ret
    exact ⟨_, rfl, World.ownsRow_nil _ _ _ _, Below.refl _ _⟩
  | some x =>
    have hcx := hc x rfl
    clear hc
    have hown := World.ownsRow_lit (base := w.heap.size) (e := 5) (size := 1) w #[] 0 (Nat.le_refl _) (Nat.zero_le _) rfl
    go_enter Tryd.func69, Tryd.ntmps69
    go_wp2_with (at_builtin; refine wpList_append_own _ rfl _ _ 29 rfl w.heap.size 5 i0 (.int .u8 0) 1 1 Tryd.underlying29 hi hz0 hz1 hz2 rfl (by decide) _ 0 [] rfl hown x len cap (vb zs) rfl (by simp [vb, hl]) ?c1 ?c2 (by unfold maxLen; omega) (by omega) (by simp) ?_)
    case c1 =>
      intro j u hj
      have hj' : j < zs.length := by
        have := (List.getElem?_eq_some_iff.1 hj).1; simpa [vb] using this
      rw [vb_getD zs j hj'] at hj
      cases hj
      have h1 := hcx j (by omega)
      exact Lib.cell?_alloc_some _ h1
    case c2 =>
      intro u hu
      simp only [vb, List.mem_map] at hu
      obtain ⟨y, _, rfl⟩ := hu
      rfl
    intro v' w1 hown1 hgrow1 _
    clear hown
    go_wp2
    go_ret
    refine ⟨_, rfl, by simpa using hown1, ?_⟩
    refine ((Below.refl _ _).alloc (Nat.le_refl _) _).grown hgrow1 (by simp) ?_
    intro k hk
    simp [Value.ownBlock] at hk
    omega
end Go.Proofs.YthhnpajaacfapaaDoor
