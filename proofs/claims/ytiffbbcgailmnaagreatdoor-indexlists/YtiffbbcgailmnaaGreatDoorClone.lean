/- bytes.Clone: the same bytes in new memory. -/
import Derived.Test.YtiffbbcgailmnaaGreatDoorBytes
namespace Go.Proofs.YtiffbbcgailmnaaGreatDoor
open Go.RowKit
set_option linter.unusedVariables false

set_option maxHeartbeats 1000000 in
theorem clone_any (a : Option Addr) (len cap : Nat) (zs : List Nat) (w : World) (h : Bs w a len zs) (hr : len ≤ 140737488355328) :
    Calls Tryz.prog 40 #[.slice a len cap] w fun e w' => ∃ v, e = .returned v ∧ w'.ownsRow w.heap.size 5 1 v len (vb zs) ∧ Below w.heap.size w w' := by
  obtain ⟨i0, hi, hz0, hz1, hz2⟩ := info_parts Tryz.info5
  have heq := fun (wx : World) (aa : Option Addr) (n c : Nat) => Lib.run_eql_slice_nil (P := Tryz.prog) wx 30 5 aa n c 0 0 Tryz.underlying30
  obtain ⟨hl, hm, hz, hn, hc⟩ := h
  unfold maxLen at hm
  cases a with
  | none =>
    obtain rfl := hn rfl
    obtain rfl : zs = [] := List.length_eq_zero_iff.1 hl
    go_enter Tryz.func40, Tryz.ntmps40
    go_wp2
    go_ret
    exact ⟨_, rfl, World.ownsRow_nil _ _ _ _, Below.refl _ _⟩
  | some x =>
    have hcx := hc x rfl
    clear hc
    have hown := World.ownsRow_lit (base := w.heap.size) (e := 5) (size := 1) w #[] 0 (Nat.le_refl _) (Nat.zero_le _) rfl
    go_enter Tryz.func40, Tryz.ntmps40
    go_wp2_with (at_builtin; refine wpList_append_own _ rfl _ _ 30 rfl w.heap.size 5 i0 (.int .u8 0) 1 1 Tryz.underlying30 hi hz0 hz1 hz2 rfl (by decide) _ 0 [] rfl hown x len cap (vb zs) rfl (by simp [vb, hl]) ?c1 ?c2 (by unfold maxLen; omega) (by omega) (by simp) ?_)
    case c1 =>
      intro j u hj
      have hj' : j < zs.length := by
        have := (List.getElem?_eq_some_iff.1 hj).1; simpa [vb] using this
      rw [vb_getD zs j hj'] at hj
      cases hj
      have h1 := hcx j (by omega)
      exact Lib.cell?_alloc_some _ h1
    case c2 =>
      intro u hu
      simp only [vb, List.mem_map] at hu
      obtain ⟨y, _, rfl⟩ := hu
      rfl
    intro v' w1 hown1 hgrow1 _
    clear hown
    go_wp2
    go_ret
    refine ⟨_, rfl, by simpa using hown1, ?_⟩
    refine ((Below.refl _ _).alloc (Nat.le_refl _) _).grown hgrow1 (by simp) ?_
    intro k hk
    simp [Value.ownBlock] at hk
    omega
end Go.Proofs.YtiffbbcgailmnaaGreatDoor
