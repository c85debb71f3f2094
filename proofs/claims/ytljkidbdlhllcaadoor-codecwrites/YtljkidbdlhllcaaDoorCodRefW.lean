/- slices.Clone of samples. -/
import Derived.Test.YtljkidbdlhllcaaDoorCodRefG
import Derived.Test.YtljkidbdlhllcaaDoorBytesEq
namespace Go.Proofs.YtljkidbdlhllcaaDoor
open Go.RowKit Go.Joins
set_option linter.unusedVariables false
set_option linter.unusedSimpArgs false

theorem vsm_at {w : World} {x : Addr} {len : Nat} {l : List Sam} (h : Sm w (some x) len l) : ∀ j u, (vsm l)[j]? = some u → w.cell? (x.add j) = some u := by
  intro j u hj
  have hjl : j < l.length * 2 := by rw [← vsm_len]; exact (List.getElem?_eq_some_iff.1 hj).1
  have hk : j / 2 < l.length := by omega
  obtain ⟨g1, g2⟩ := vsm_get l (j / 2) hk
  obtain ⟨c1, c2⟩ := h.2.2.2.2 x rfl (j / 2) (by rw [← h.1]; exact hk)
  by_cases hp : j % 2 = 0
  · have e : j / 2 * 2 = j := by omega
    rw [e] at g1 c1
    rw [hj] at g1
    rw [c1, ← g1]
  · have e : j / 2 * 2 + 1 = j := by omega
    rw [e] at g2 c2
    rw [hj] at g2
    rw [c2, ← g2]
set_option maxHeartbeats 1000000 in
theorem samClone_any (a : Option Addr) (len cap : Nat) (l : List Sam) (w : World) (h : Sm w a len l) (hm : len ≤ 1000000) :
    Calls Tryd.prog 9 #[.slice a len cap] w fun e w' => ∃ v, e = .returned v ∧ w'.ownsRow w.heap.size 26 2 v len (vsm l) ∧ Below w.heap.size w w' := by
  obtain ⟨i0, hi, hz0, hz1, hz2⟩ := info_parts Tryd.infoSam
  have heq := fun (wx : World) (aa : Option Addr) (n c : Nat) => Lib.run_eql_slice_nil (P := Tryd.prog) wx 22 26 aa n c 0 0 Tryd.underlying22
  cases a with
  | none =>
    obtain rfl := h.2.2.2.1 rfl
    obtain rfl : l = [] := List.length_eq_zero_iff.1 h.1
    go_enter Tryd.func9, Tryd.ntmps9
    go_wp2
    go_ret
    exact ⟨_, rfl, World.ownsRow_nil _ _ _ _, Below.refl _ _⟩
  | some x =>
    have hl : (vsm l).length = len * 2 := by rw [vsm_len, h.1]
    have hown := World.ownsRow_lit (base := w.heap.size) (e := 26) (size := 2) w #[] 0 (Nat.le_refl _) (Nat.zero_le _) rfl
    have HC := hidn (vsm_at h)
    have H1 := hidn (one_vsm l)
    go_enter Tryd.func9, Tryd.ntmps9
    go_wp2_with (at_builtin; refine wpList_append_own _ rfl _ _ 22 rfl w.heap.size 26 i0 (.agg #[.int .i64 0, .int .u64 0]) 2 16 Tryd.underlying22 hi hz0 hz1 hz2 rfl (by decide) _ 0 [] rfl hown x len cap (vsm l) rfl hl ?c1 H1.out (by unfold maxLen; omega) (by omega) (by simp) ?_)
    case c1 =>
      intro j u hj
      exact Lib.cell?_alloc_some _ (HC.out j u hj)
    intro v' w1 hown1 hgrow1 _
    clear hown
    go_wp2
    go_ret
    refine ⟨_, rfl, by simpa using hown1, ?_⟩
    refine ((Below.refl _ _).alloc (Nat.le_refl _) _).grown hgrow1 (by simp) ?_
    intro k hk
    simp [Value.ownBlock] at hk
    omega
end Go.Proofs.YtljkidbdlhllcaaDoor
