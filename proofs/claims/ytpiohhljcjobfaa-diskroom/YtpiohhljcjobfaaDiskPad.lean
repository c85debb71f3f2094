/- 128 bytes that are made, and filled with what is there. -/
import Derived.Test.YtpiohhljcjobfaaNobodyD
import Derived.Test.YtpiohhljcjobfaaDiskCrash
namespace Go.Proofs.Ytpiohhljcjobfaa
open Go.RowKit Go.Maps
set_option linter.unusedVariables false
def padTo (zs : List Nat) : List Nat := zs.take 128 ++ List.replicate (128 - zs.length) 0
theorem padTo_length (zs : List Nat) : (padTo zs).length = 128 := by
  simp [padTo]
  omega
theorem padTo_lt {zs : List Nat} (h : ∀ x ∈ zs, x < 256) : ∀ x ∈ padTo zs, x < 256 := by
  intro x hx
  rcases List.mem_append.1 hx with h1 | h1
  · exact h x (List.mem_of_mem_take h1)
  · rw [List.eq_of_mem_replicate h1]; decide
def zero128 : Array Value := (vb (List.replicate 128 0)).toArray
theorem mk128 (W : World) : (Instr.makeSlice 31 (.int .i64 128) (.int .i64 128)).run Try.prog W = .ok (.slice (some ⟨W.heap.size, 0, none⟩) 128 128) (W.alloc (.cells zero128 5)) := by
  obtain ⟨i0, hi, hz0, hz1, hz2⟩ := info_parts Try.info5
  have h := run_make (P := Try.prog) W 31 5 i0 (.int .u8 0) Try.underlying31 hi hz0 .i64 .i64 ((128 : Nat) : Int) ((128 : Nat) : Int) (by omega) (by omega) (by rw [hz2]; omega) (by omega)
  rw [hz1] at h
  have e : madeCells (Value.int .u8 0).cells (((128 : Nat) : Int).toNat * 1) = zero128 := by kernel_rfl
  rw [e] at h
  simpa using h
theorem row_bs {w : World} {g n : Nat} {zs : List Nat} {t : TypeId} {fr : Nat × Nat} (h : w.heap[g]? = some (.cells (vb zs).toArray t fr)) (hn : zs.length = n) (hm : n ≤ maxLen) (hz : ∀ x ∈ zs, x < 256) : Bs w (some ⟨g, 0, none⟩) n zs := by
  refine ⟨hn, hm, hz, (fun h => by simp at h), fun x hx j hj => ?_⟩
  cases hx
  rw [add_none, Nat.zero_add, cell_of_row _ _ _ _ _ _ h, List.getElem?_toArray]
  rw [vb_getD zs j (by omega)]
theorem copy128 (w : World) (g : Nat) (a : Option Addr) (len cap : Nat) (zs : List Nat) (hg : w.heap[g]? = some (.cells zero128 5 (0, 0))) (hB : Bs w a len zs) :
    ∃ w3, ∃ m : Int, (Builtin.copy_ #[31, 31] 3 #[.slice (some ⟨g, 0, none⟩) 128 128, .slice a len cap]).run Try.prog w = .ok (.int .i64 m) w3 ∧ (∀ n, n ≤ g → Below n w w3) ∧ w3.heap[g]? = some (.cells (vb (padTo zs)).toArray 5 (0, 0)) := by
  have hinfo : (Try.prog.info? 5).map (·.size) = some 1 := by kernel_rfl
  have hl := hB.1
  by_cases h0 : len = 0
  · subst h0
    obtain rfl : zs = [] := List.length_eq_zero_iff.1 hl
    exact ⟨w, 0, run_copy_none (P := Try.prog) w _ _ 3 5 _ a 128 128 0 cap Try.underlying31 hinfo (by simp), fun n _ => Below.refl _ _, hg⟩
  · obtain ⟨ab, ao, rfl, _, hac⟩ := hB.pos (by omega)
    have h := run_copy_row (P := Try.prog) w 31 31 3 5 g 0 128 128 ⟨ab, ao, none⟩ len cap zero128 5 ((vb zs).take (min len 128)) Try.underlying31 hinfo hg
      (by rw [List.length_take, length_vb, hl]; show min (min len 128) len = min len 128; omega)
      (fun j v hj => by rw [add_none]; exact bs_range hB j v (by rw [List.getElem?_take] at hj; split at hj; exact hj; cases hj))
      (by rw [List.length_take]; show 0 + min (min len 128) _ ≤ 128; omega) (fun v hv => one_vb _ v (List.mem_of_mem_take hv))
    refine ⟨_, _, h, fun n hn => below_setRow (Below.refl _ _) hn _, ?_⟩
    rw [setRow_heap _ _ _ _ _ _ hg]
    refine congrArg (fun c : Array Value => some (Obj.cells c 5 (0, 0))) ?_
    rw [List.take_zero, List.nil_append]
    refine congrArg List.toArray ?_
    have e1 : (vb zs).take (min len 128) = vb (zs.take 128) := by
      have e0 : zs.take (min len 128) = zs.take 128 := by
        by_cases h1 : len ≤ 128
        · rw [Nat.min_eq_left h1, List.take_of_length_le (by omega), List.take_of_length_le (by omega)]
        · rw [Nat.min_eq_right (by omega)]
      rw [← e0]
      unfold vb
      rw [← List.map_take]
    rw [e1, length_vb]
    have e2 : zero128.toList = vb (List.replicate 128 0) := List.toList_toArray
    rw [e2]
    have e3 : (vb (List.replicate 128 0)).drop (0 + (zs.take 128).length) = vb (List.replicate (128 - zs.length) 0) := by
      unfold vb
      rw [← List.map_drop, List.drop_replicate, List.length_take, Nat.zero_add]
      rw [show 128 - min 128 zs.length = 128 - zs.length by omega]
    rw [e3]
    unfold padTo vb
    rw [← List.map_append]
end Go.Proofs.Ytpiohhljcjobfaa
