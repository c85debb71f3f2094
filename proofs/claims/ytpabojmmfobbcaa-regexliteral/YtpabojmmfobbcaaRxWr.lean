/- strings.Builder's WriteRune. -/
import Derived.Test.YtpabojmmfobbcaaLabBuild
import Derived.Test.YtpabojmmfobbcaaRxScan
namespace Go.Proofs.Ytpabojmmfobbcaa
open Go.RowKit Go.Joins
set_option linter.unusedVariables false
theorem runeCells_le (r : Int) : (Lib.runeCells r).length ≤ 4 := by
  unfold Lib.runeCells Lib.encodeRuneZ
  repeat' split
  all_goals simp
set_option maxHeartbeats 4000000 in
set_option maxRecDepth 100000 in
theorem wrune_any (B b : Nat) (bs : List Value) (r : Int) (hr0 : -2147483648 ≤ r) (hr1 : r ≤ 2147483647) (w : World) (h : Lib.IsBuilderF 51 5 B b bs w) (hlen : bs.length + 4 ≤ 140737488355328) (hBw : B ≤ w.heap.size) :
    Calls Try.prog 16 #[.pointer (some ⟨b, 0, none⟩), .int .i32 r] w fun e w' => e = .returned (.tuple #[.int .i64 (Lib.runeCells r).length, .nilIface]) ∧ (Lib.BuilderAtF 51 5 B b (.pointer (some ⟨b, 0, none⟩)) (bs ++ Lib.runeCells r) w' ∧ Below B w w' ∧ Lib.OthersKept 5 (some b) w w') := by
  go_enter Try.func16, Try.ntmps16
  go_wp2_with (go_at_call 24; refine (check_any B b bs _ h).mono ?_)
  rintro e w1 ⟨rfl, h1, hb1, hk1⟩
  obtain ⟨hB, v, hbk, hown, hne⟩ := h1
  have c0 : w1.cell? ⟨b, 0, none⟩ = some (.pointer (some ⟨b, 0, none⟩)) := by rw [Lib.cell_of_heap hbk]; rfl
  have c1 : w1.cell? ⟨b, 1, none⟩ = some v := by rw [Lib.cell_of_heap hbk]; rfl
  obtain ⟨va, vc, hv⟩ : ∃ va vc, v = .slice va bs.length vc := by
    rcases hown.2 with ⟨e1, e2⟩ | ⟨g, cap, cur, fz, e1, _⟩
    · exact ⟨none, 0, by rw [e1, e2]⟩
    · exact ⟨_, _, e1⟩
  subst hv
  go_wp2_with (go_at_call 25; refine (Try.utf8_AppendRune_row B _ bs.length bs r hr0 hr1 _ hown hlen (Nat.le_trans hBw hb1.size)).mono ?_)
  rintro e w2 ⟨v', rfl, hown', o, hgrow⟩
  have hlt : b < w1.heap.size := by
    rcases Nat.lt_or_ge b w1.heap.size with h' | h'
    · exact h'
    · simp [Array.getElem?_eq_none h'] at hbk
  have hb2 : w2.heap[b]? = some (.cells #[.pointer (some ⟨b, 0, none⟩), .slice va bs.length vc] 51 (0, 0)) := by
    rw [hgrow.block b (by simp; omega) (fun e => hne e.symm), Lib.alloc_old w1 _ b hlt]
    exact hbk
  have d0 : w2.cell? ⟨b, 0, none⟩ = some (.pointer (some ⟨b, 0, none⟩)) := by rw [Lib.cell_of_heap hb2]; rfl
  have d1 : w2.cell? ⟨b, 1, none⟩ = some (.slice va bs.length vc) := by rw [Lib.cell_of_heap hb2]; rfl
  have f1 : w2.frozen? ⟨b, 1, none⟩ = false := Lib.frozen_of_heap hb2 1
  obtain ⟨v'a, v'c, hv'⟩ : ∃ g cap, v' = .slice g (bs.length + (Lib.runeCells r).length) cap := by
    rcases hown'.2 with ⟨e1, e2⟩ | ⟨g, cap, cur, fz, e1, _⟩
    · exact ⟨none, 0, by rw [e1, e2]⟩
    · exact ⟨_, _, e1⟩
  subst hv'
  have hn : ((bs.length + (Lib.runeCells r).length : Nat) : Int) - (bs.length : Int) = ((Lib.runeCells r).length : Int) := by omega
  have hle := runeCells_le r
  go_wp2
  refine bodyPost_ret (v := .tuple #[.int .i64 (Lib.runeCells r).length, .nilIface]) (by simp [results, Try.results16, go_sem]; omega) rfl ⟨rfl, ?_, ?_, ((hk1.alloc o).grown hgrow (Lib.ownsRowF_kind (hown.alloc o))).setCell ⟨b, 1, none⟩ rfl _⟩
  · exact Lib.BuilderAtF.put (T := 51) (e := 5) hB hb2 (bs' := bs ++ Lib.runeCells r) (by simpa using hown') (by decide)
  · exact ((hb1.alloc (Nat.le_trans hBw hb1.size) o).grown hgrow (by have := hb1.size; simp; omega) (fun k hk => (hown.lt k hk).1)).setCell (p := ⟨b, 1, none⟩) hB _
end Go.Proofs.Ytpabojmmfobbcaa
