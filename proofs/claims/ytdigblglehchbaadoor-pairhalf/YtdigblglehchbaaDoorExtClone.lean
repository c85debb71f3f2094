/- slices.Clone of a file's extents: the same in new memory. -/
import Derived.Test.YtdigblglehchbaaDoorMc
namespace Go.Proofs.YtdigblglehchbaaDoor
open Go.RowKit Go.Maps
set_option linter.unusedVariables false

set_option maxHeartbeats 1000000 in
theorem extClone_any (w : World) (x : Addr) (len cap : Nat) (xs : List Value) (hl : xs.length = len * 385) (hc : ∀ j u, xs[j]? = some u → w.cell? (x.add j) = some u) (h1 : ∀ u ∈ xs, u.oneCell' = true) (hm : len ≤ 1000000) :
    Calls Tryd.prog 22 #[.slice (some x) len cap] w fun e w' => ∃ v, e = .returned v ∧ w'.ownsRow w.heap.size 58 385 v len xs ∧ Below w.heap.size w w' := by
  obtain ⟨i0, hi, hz0, hz1, hz2⟩ := info_parts Tryd.infoExt3
  have heq := fun (wx : World) (aa : Option Addr) (n c : Nat) => Lib.run_eql_slice_nil (P := Tryd.prog) wx 53 58 aa n c 0 0 Tryd.underlying53
  have hown := World.ownsRow_lit (base := w.heap.size) (e := 58) (size := 385) w #[] 0 (Nat.le_refl _) (Nat.zero_le _) rfl
  have hzc : (Value.agg zeroE.cells.toArray).cells.size = 385 := by kernel_rfl
  have HC := hidn hc
  have H1 := hidn h1
  clear hc h1
  go_enter Tryd.func22, Tryd.ntmps22
  go_wp2_with (at_builtin; refine wpList_append_own _ rfl _ _ 53 rfl w.heap.size 58 i0 (.agg zeroE.cells.toArray) 385 385 Tryd.underlying53 hi hz0 hz1 hz2 hzc (by decide) _ 0 [] rfl hown x len cap xs rfl hl ?c1 H1.out (by unfold maxLen; omega) (by omega) (by simp) ?_)
  case c1 =>
    intro j u hj
    exact Lib.cell?_alloc_some _ (HC.out j u hj)
  intro v' w1 hown1 hgrow1 _
  clear hown
  go_wp2
  go_ret
  refine ⟨_, rfl, by simpa using hown1, ?_⟩
  refine ((Below.refl _ _).alloc (Nat.le_refl _) _).grown hgrow1 (by simp) ?_
  intro k hk
  simp [Value.ownBlock] at hk
  omega
end Go.Proofs.YtdigblglehchbaaDoor
