/- Matchers in memory: their cells, rows of them, slices.Clone. -/
import Derived.Test.YtdgkjiiegmnjfaaMatB
import Derived.Test.YtdgkjiiegmnjfaaLabDrawn
namespace Go.Proofs.Ytdgkjiiegmnjfaa
open Go.RowKit Go.Joins
set_option linter.unusedVariables false
def mvs (ms : List Mat) : List Value := (ms.map fun m => [Value.int .i64 m.k, Value.string m.n, Value.string m.v]).flatten
theorem mvs_get (l : List Mat) : ∀ (j : Nat) (m : Mat), l[j]? = some m → (mvs l)[j * 3]? = some (.int .i64 m.k) ∧ (mvs l)[j * 3 + 1]? = some (.string m.n) ∧ (mvs l)[j * 3 + 2]? = some (.string m.v) := by
  induction l with
  | nil => intro j s h; simp at h
  | cons x t ih =>
    intro j s h
    have e : mvs (x :: t) = .int .i64 x.k :: .string x.n :: .string x.v :: mvs t := rfl
    cases j with
    | zero => simp at h; subst h; rw [e]; exact ⟨rfl, rfl, rfl⟩
    | succ j =>
      have := ih j s (by simpa using h)
      rw [e, show (j + 1) * 3 = j * 3 + 3 from by omega]
      exact this
theorem mss_of_own {w : World} {base n : Nat} {v : Value} {ms : List Mat} (h : w.ownsRow base 37 3 v n (mvs ms)) (hn : ms.length = n) (hs : ∀ m ∈ ms, m.n.size ≤ maxLen ∧ m.v.size ≤ maxLen) : ∃ a c, v = .slice a n c ∧ Mss w a n ms := by
  have h' := h
  rcases h.2 with ⟨rfl, h0⟩ | ⟨g, cap, cur, rfl, hg, hh, hnc, hcm, hcs, htk⟩
  · subst h0
    exact ⟨none, 0, rfl, hn, Nat.zero_le _, fun _ => rfl, hs, fun x hx => by cases hx⟩
  · refine ⟨_, cap, rfl, hn, by omega, (fun h => by cases h), hs, fun x hx j m hm => ?_⟩
    cases hx
    obtain ⟨a1, a2, a3⟩ := mvs_get ms j m hm
    exact ⟨h'.cells (g := g) rfl _ _ a1, h'.cells (g := g) rfl _ _ a2, h'.cells (g := g) rfl _ _ a3⟩
theorem maInfo : ∃ i0 z, Try.prog.info? 37 = some i0 ∧ i0.zero = some z ∧ i0.size = 3 ∧ i0.bytes = 40 ∧ z.cells.size = 3 := by
  have h : (Try.prog.info? 37).map (fun i => (i.zero, i.size, i.bytes)) = some (some (.agg #[.int .i64 0, .string ⟨#[]⟩, .string ⟨#[]⟩]), 3, 40) := by kernel_rfl
  cases hi : Try.prog.info? 37 with
  | none => rw [hi] at h; cases h
  | some i0 =>
    rw [hi] at h
    simp only [Option.map_some, Option.some.injEq, Prod.mk.injEq] at h
    exact ⟨i0, _, rfl, h.1, h.2.1, h.2.2, rfl⟩
theorem mvs_length (l : List Mat) : (mvs l).length = l.length * 3 := by
  induction l with
  | nil => rfl
  | cons a t ih =>
    have hm : mvs (a :: t) = Value.int .i64 a.k :: Value.string a.n :: Value.string a.v :: mvs t := rfl
    rw [hm]
    simp [ih]
    omega
theorem mvs_one (l : List Mat) : ∀ u ∈ mvs l, u.oneCell' = true := by
  intro u hu
  unfold mvs at hu
  obtain ⟨r, hr, hu⟩ := List.mem_flatten.1 hu
  obtain ⟨m, _, rfl⟩ := List.mem_map.1 hr
  simp at hu
  rcases hu with rfl | rfl | rfl <;> rfl

set_option maxHeartbeats 1000000 in
theorem matClone_any (w : World) (x : Addr) (len cap : Nat) (xs : List Value) (hl : xs.length = len * 3) (hc : ∀ j u, xs[j]? = some u → w.cell? (x.add j) = some u) (h1 : ∀ u ∈ xs, u.oneCell' = true) (hm : len * 40 ≤ 140737488355328) :
    Calls Try.prog 14 #[.slice (some x) len cap] w fun e w' => ∃ v, e = .returned v ∧ w'.ownsRow w.heap.size 37 3 v len xs ∧ Below w.heap.size w w' := by
  obtain ⟨i0, z, hi, hz0, hz1, hz2, hzc⟩ := maInfo
  have heq := fun (wx : World) (aa : Option Addr) (n c : Nat) => Lib.run_eql_slice_nil (P := Try.prog) wx 32 37 aa n c 0 0 Try.underlying32
  have hown := World.ownsRow_lit (base := w.heap.size) (e := 37) (size := 3) w #[] 0 (Nat.le_refl _) (Nat.zero_le _) rfl
  have HC := hidn hc
  have H1 := hidn h1
  clear hc h1
  go_enter Try.func14, Try.ntmps14
  go_wp2_with (at_builtin; refine wpList_append_own _ rfl _ _ 32 rfl w.heap.size 37 i0 z 3 40 Try.underlying32 hi hz0 hz1 hz2 hzc (by decide) _ 0 [] rfl hown x len cap xs rfl hl ?c1 H1.out (by unfold maxLen; omega) (by omega) (by simp) ?_)
  case c1 =>
    intro j u hj
    exact Lib.cell?_alloc_some _ (HC.out j u hj)
  intro v' w1 hown1 hgrow1 _
  clear hown
  go_wp2
  go_ret
  refine ⟨_, rfl, by simpa using hown1, ?_⟩
  refine ((Below.refl _ _).alloc (Nat.le_refl _) _).grown hgrow1 (by simp) ?_
  intro k hk
  simp [Value.ownBlock] at hk
  omega
theorem mss_cells {w : World} {x : Addr} {len : Nat} {ms : List Mat} (h : Mss w (some x) len ms) : ∀ j u, (mvs ms)[j]? = some u → w.cell? (x.add j) = some u := by
  intro j u hj
  have hjl : j < ms.length * 3 := by rw [← mvs_length]; exact (List.getElem?_eq_some_iff.1 hj).1
  have hk : j / 3 < ms.length := by omega
  obtain ⟨g1, g2, g3⟩ := mvs_get ms (j / 3) _ (List.getElem?_eq_getElem hk)
  obtain ⟨c1, c2, c3⟩ := h.2.2.2.2 x rfl (j / 3) _ (List.getElem?_eq_getElem hk)
  rcases (show j % 3 = 0 ∨ j % 3 = 1 ∨ j % 3 = 2 by omega) with hp | hp | hp
  · have e : j / 3 * 3 = j := by omega
    rw [e] at g1 c1
    rw [hj] at g1
    rw [c1, ← g1]
  · have e : j / 3 * 3 + 1 = j := by omega
    rw [e] at g2 c2
    rw [hj] at g2
    rw [c2, ← g2]
  · have e : j / 3 * 3 + 2 = j := by omega
    rw [e] at g3 c3
    rw [hj] at g3
    rw [c3, ← g3]
set_option maxHeartbeats 1000000 in
theorem matClone_o (a : Option Addr) (len cap : Nat) (ms : List Mat) (w : World) (h : Mss w a len ms) (hm : len * 40 ≤ 140737488355328) :
    Calls Try.prog 14 #[.slice a len cap] w fun e w' => ∃ v, e = .returned v ∧ w'.ownsRow w.heap.size 37 3 v len (mvs ms) ∧ Below w.heap.size w w' := by
  cases a with
  | none =>
    obtain rfl := h.2.2.1 rfl
    obtain rfl : ms = [] := List.length_eq_zero_iff.1 h.1
    have heq := fun (wx : World) (aa : Option Addr) (n c : Nat) => Lib.run_eql_slice_nil (P := Try.prog) wx 32 37 aa n c 0 0 Try.underlying32
    go_enter Try.func14, Try.ntmps14
    go_wp2
    go_ret
    exact ⟨_, rfl, World.ownsRow_nil _ _ _ _, Below.refl _ _⟩
  | some x => exact matClone_any w x len cap (mvs ms) (by rw [mvs_length, h.1]) (mss_cells h) (mvs_one ms) hm

set_option maxHeartbeats 1000000 in
theorem matCopy_o (a : Option Addr) (len cap : Nat) (ms : List Mat) (w : World) (h : Mss w a len ms) (hm : len * 40 ≤ 140737488355328) :
    Calls Try.prog 15 #[.slice a len cap] w fun e w' => ∃ v, e = .returned v ∧ w'.ownsRow w.heap.size 37 3 v len (mvs ms) ∧ Below w.heap.size w w' := by
  obtain ⟨i0, z, hi, hz0, hz1, hz2, hzc⟩ := maInfo
  have hown := World.ownsRow_lit (base := w.heap.size) (e := 37) (size := 3) w #[] 0 (Nat.le_refl _) (Nat.zero_le _) rfl
  cases a with
  | none =>
    obtain rfl := h.2.2.1 rfl
    obtain rfl : ms = [] := List.length_eq_zero_iff.1 h.1
    go_enter Try.func15, Try.ntmps15
    go_wp2
    go_ret
    exact ⟨_, rfl, hown, (Below.refl _ _).alloc (Nat.le_refl _) _⟩
  | some x =>
    have HC := hidn (mss_cells h)
    have H1 := hidn (mvs_one ms)
    have hl : (mvs ms).length = len * 3 := by rw [mvs_length, h.1]
    go_enter Try.func15, Try.ntmps15
    go_wp2_with (at_builtin; refine wpList_append_own _ rfl _ _ 32 rfl w.heap.size 37 i0 z 3 40 Try.underlying32 hi hz0 hz1 hz2 hzc (by decide) _ 0 [] rfl hown x len cap (mvs ms) rfl hl ?c1 H1.out (by unfold maxLen; omega) (by omega) (by simp) ?_)
    case c1 =>
      intro j u hj
      exact Lib.cell?_alloc_some _ (HC.out j u hj)
    intro v' w1 hown1 hgrow1 _
    clear hown
    go_wp2
    go_ret
    refine ⟨_, rfl, by simpa using hown1, ?_⟩
    refine ((Below.refl _ _).alloc (Nat.le_refl _) _).grown hgrow1 (by simp) ?_
    intro k hk
    simp [Value.ownBlock] at hk
    omega
end Go.Proofs.Ytdgkjiiegmnjfaa
