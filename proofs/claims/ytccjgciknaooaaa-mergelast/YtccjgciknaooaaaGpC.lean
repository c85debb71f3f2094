/- merge: rows of gaps; goesOn. -/
import Derived.Test.YtccjgciknaooaaaGpB
import Derived.Test.YtccjgciknaooaaaMgI
namespace Go.Proofs.Ytccjgciknaooaaa
open Go.RowKit Go.Joins
set_option linter.unusedVariables false

theorem zGap : (Try.prog.info? 62).map (fun i => (i.zero, i.size, i.bytes)) = some (some (.agg #[.int .i64 0, .int .i64 0]), 2, 16) := by kernel_rfl
/-- Gaps as cells. -/
def vgp : List Gp → List Value
  | [] => []
  | s :: t => [.int .i64 s.f, .int .i64 s.t] ++ vgp t
theorem vgp_app (l m : List Gp) : vgp (l ++ m) = vgp l ++ vgp m := by
  induction l with
  | nil => rfl
  | cons s t ih => simp [vgp, ih]
theorem vgp_len (l : List Gp) : (vgp l).length = l.length * 2 := by
  induction l with
  | nil => rfl
  | cons s t ih => simp [vgp, ih]; omega
theorem vgp_get (l : List Gp) : ∀ j, j < l.length → (vgp l)[j * 2]? = some (.int .i64 (gpD l j).f) ∧ (vgp l)[j * 2 + 1]? = some (.int .i64 (gpD l j).t) := by
  induction l with
  | nil => intro j hj; simp at hj
  | cons s t ih =>
    intro j hj
    cases j with
    | zero => exact ⟨rfl, rfl⟩
    | succ j =>
      have := ih j (by simpa using hj)
      have e1 : (vgp (s :: t))[(j + 1) * 2]? = (vgp t)[j * 2]? := by
        rw [show (j + 1) * 2 = j * 2 + 2 from by omega]; rfl
      have e2 : (vgp (s :: t))[(j + 1) * 2 + 1]? = (vgp t)[j * 2 + 1]? := by
        rw [show (j + 1) * 2 + 1 = j * 2 + 1 + 2 from by omega]; rfl
      rw [e1, e2]
      exact this
theorem one_vgp (l : List Gp) : ∀ u ∈ vgp l, u.oneCell' = true := by
  induction l with
  | nil => intro u hu; simp [vgp] at hu
  | cons s t ih =>
    intro u hu
    simp only [vgp, List.mem_append, List.mem_cons, List.not_mem_nil, or_false] at hu
    rcases hu with (rfl | rfl) | hu
    · rfl
    · rfl
    · exact ih u hu
theorem gps_of_own {w : World} {base n : Nat} {v : Value} {l : List Gp} (h : w.ownsRow base 62 2 v n (vgp l)) :
    ∃ a cap, v = .slice a n cap ∧ n ≤ cap ∧ Gps w a n l := by
  have h' := h
  obtain ⟨hl, h1⟩ := h
  have hn : l.length = n := by rw [vgp_len] at hl; omega
  rcases h1 with ⟨rfl, rfl⟩ | ⟨g, cap, cur, rfl, hg, hh, hnc, hcm, hcs, htk⟩
  · obtain rfl : l = [] := List.length_eq_zero_iff.1 hn
    exact ⟨none, 0, rfl, Nat.le_refl _, rfl, Nat.zero_le _, fun _ => rfl, by simp⟩
  · refine ⟨_, cap, rfl, hnc, hn, by omega, (fun h => by simp at h), fun x hx j hj => ?_⟩
    cases hx
    obtain ⟨g1, g2⟩ := vgp_get l j (by omega)
    have c1 := h'.cellAt (j * 2) (by omega)
    have c2 := h'.cellAt (j * 2 + 1) (by omega)
    rw [g1] at c1
    rw [g2] at c2
    rw [add_none, add_none, Nat.zero_add, Nat.zero_add]
    exact ⟨c1, c2⟩

/-- One gap more onto the row. -/
theorem app_gap1 {B : Nat} {v : Value} {n : Nat} {l : List Gp} {W : World} (ho : W.ownsRow B 62 2 v n (vgp l)) (hB : B ≤ W.heap.size) (hn : n ≤ 1000000) (s : Gp) (ad : Addr) (hc0 : W.cell? ad = some (.int .i64 s.f)) (hc1 : W.cell? (ad.add 1) = some (.int .i64 s.t)) :
    ∃ g c' W', (Builtin.append_ #[23, 23] 23 #[v, .slice (some ad) 1 1]).run Try.prog W = .ok (.slice (some ⟨g, 0, none⟩) (n + 1) c') W' ∧ W'.ownsRow B 62 2 (.slice (some ⟨g, 0, none⟩) (n + 1) c') (n + 1) (vgp (l ++ [s])) ∧ W.grownBy W' v.ownBlock := by
  obtain ⟨i0, hi, hz0, hz1, hz2⟩ := info_parts zGap
  obtain ⟨g, c', W', hr, ho', hg, _⟩ := appN (P := Try.prog) W 23 23 62 i0 (.agg #[.int .i64 0, .int .i64 0]) 2 16 Try.underlying23 hi hz0 hz1 hz2 rfl (by decide) v n (vgp l) B ho hB ad 1 1 (by decide) (vgp [s]) rfl (by
    intro j u hj
    have hjl : j < 2 := (List.getElem?_eq_some_iff.1 hj).1
    match j, hjl, hj with
    | 0, _, hj => cases hj; rw [show ad.add 0 = ad from by cases ad; simp [Addr.add]]; exact hc0
    | 1, _, hj => cases hj; exact hc1) (one_vgp [s]) (by unfold maxLen; omega) (by omega)
  exact ⟨g, c', W', hr, by rw [vgp_app]; exact ho', hg⟩

/-- Whether a gap goes on with another one. -/
def goesB (a b : Gp) : Bool := decide (b.f ≤ a.t) || decide (b.f - 1 = a.t)

set_option maxHeartbeats 2000000 in
set_option maxRecDepth 100000 in
theorem goesOn_any (a b : Gp) (w : World) (ha : a.t ≤ 9223372036854775807) (ha0 : -9223372036854775808 ≤ a.t) (hb : b.f ≤ 9223372036854775807) :
    Calls Try.prog 37 #[.agg #[.int .i64 a.f, .int .i64 a.t], .agg #[.int .i64 b.f, .int .i64 b.t]] w fun e w' => e = .returned (.bool (goesB a b)) ∧ Below w.heap.size w w' := by
  obtain ⟨af, at'⟩ := a
  obtain ⟨bf, bt⟩ := b
  simp only at ha ha0 hb ⊢
  have HB : Hid (Below w.heap.size w ((w.alloc (.cells #[.int .i64 af, .int .i64 at'] 62)).alloc (.cells #[.int .i64 bf, .int .i64 bt] 62))) := hidn (((Below.refl _ w).alloc (Nat.le_refl _) _).alloc (by simp) _)
  by_cases h1 : bf ≤ at'
  · have HG : Hid (goesB ⟨af, at'⟩ ⟨bf, bt⟩ = true) := hidn (by unfold goesB; rw [decide_eq_true h1]; rfl)
    go_enter Try.func37, Try.ntmps37
    go_wp2_with fail
    go_ret
    exact ⟨by rw [HG.out]; rfl, HB.out⟩
  · have h3 : -9223372036854775807 ≤ bf := by omega
    by_cases h2 : bf - 1 = at'
    · have HG : Hid (goesB ⟨af, at'⟩ ⟨bf, bt⟩ = true) := hidn (by unfold goesB; rw [decide_eq_false h1, decide_eq_true h2]; rfl)
      have hd : (bf - 1 == at') = true := beq_iff_eq.2 h2
      clear h2
      go_enter Try.func37, Try.ntmps37
      go_wp2_with fail
      go_ret
      exact ⟨by rw [HG.out]; rfl, HB.out⟩
    · have HG : Hid (goesB ⟨af, at'⟩ ⟨bf, bt⟩ = false) := hidn (by unfold goesB; rw [decide_eq_false h1, decide_eq_false h2]; rfl)
      have hd : (bf - 1 == at') = false := beq_eq_false_iff_ne.2 h2
      clear h2
      go_enter Try.func37, Try.ntmps37
      go_wp2_with fail
      go_ret
      exact ⟨by rw [HG.out]; rfl, HB.out⟩
end Go.Proofs.Ytccjgciknaooaaa
