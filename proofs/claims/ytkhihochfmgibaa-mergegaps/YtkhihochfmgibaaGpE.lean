/- merge: slices.Equal of gaps. -/
import Derived.Test.YtkhihochfmgibaaGpM
import Derived.Test.YtkhihochfmgibaaMgA
import Derived.BigQuiet
import Derived.Deep.QuietTactic
import Derived.Laws.StructEq
namespace Go.Proofs.Ytkhihochfmgibaa
open Go.RowKit Go.Joins
set_option linter.unusedVariables false
set_option linter.unusedSimpArgs false

theorem gp_drop (l : List Gp) (k : Nat) (h : k < l.length) : l.drop k = gpD l k :: l.drop (k + 1) := by
  rw [List.drop_eq_getElem_cons h]
  simp [gpD, List.getD_eq_getElem?_getD, h]

theorem run_neq_gap (t1 t2 : Int) (v1 v2 : Int) (w : World) : (binOp .neq 25 (.agg #[.int .i64 t1, .int .i64 v1]) (.agg #[.int .i64 t2, .int .i64 v2])).run Try.prog w = .ok (.bool (!dcd ((⟨t1, v1⟩ : Gp) = ⟨t2, v2⟩))) w := by
  have e : dcd ((⟨t1, v1⟩ : Gp) = ⟨t2, v2⟩) = (t1 == t2 && v1 == v2) := by
    by_cases h : (⟨t1, v1⟩ : Gp) = ⟨t2, v2⟩
    · rw [dcd_true h]
      injection h with h1 h2
      subst h1 h2
      simp
    · rw [dcd_false h]
      symm
      rw [Bool.eq_false_iff]
      intro hh
      simp only [Bool.and_eq_true, beq_iff_eq] at hh
      obtain ⟨h1, h2⟩ := hh
      exact h (by rw [h1, h2])
  rw [run_neq_struct, e]
  cases hx : (t1 == t2) <;> cases hy : (v1 == v2) <;> simp [go_sem, Try.underlying25, hx, hy]

set_option maxHeartbeats 4000000 in
set_option maxRecDepth 100000 in
theorem geq_any (a b : Option Addr) (len cap len' cap' : Nat) (la lb : List Gp) (w : World) (h : Gps w a len la) (h' : Gps w b len' lb) :
    Calls Try.prog 5 #[.slice a len cap, .slice b len' cap'] w fun e w' => e = .returned (.bool (dcd (la = lb))) ∧ Below w.heap.size w w' := by
  have hm := h.2.1
  have hm' := h'.2.1
  unfold maxLen at hm hm'
  have hl := hidn h.1
  have hl' := hidn h'.1
  obtain ⟨dd, hdd⟩ : ∃ dd, dd = dcd (la = lb) := ⟨_, rfl⟩
  rw [← hdd]
  have HDD := hidn hdd
  clear hdd
  by_cases hne : len = len'
  · subst hne
    go_enter Try.func5, Try.ntmps5
    go_wp2
    go_loopw [13] (fun i wr => ∃ k : Nat, k ≤ len ∧ i = .int .i64 (k : Int) ∧ Below w.heap.size w wr ∧ Hid (la = lb ↔ la.drop k = lb.drop k)) (fun i wr => len - (intOf i).toNat)
    case atStart => exact ⟨0, Nat.zero_le _, rfl, Below.refl _ _, hidn Iff.rfl⟩
    case round =>
      obtain ⟨k, hk, rfl, hbl, hn⟩ := hrel
      by_cases hlt : k < len
      · obtain ⟨ba, offa, rfl, hba, hca⟩ := h.pos (by omega)
        obtain ⟨bb, offb, rfl, hbb, hcb⟩ := h'.pos (by omega)
        have hki : (k : Int) < (len : Int) := by omega
        obtain ⟨c0, c1⟩ := hca k hlt
        have c0' := (hbl.cell (p := ⟨ba, offa + k * 2, none⟩) hba).trans c0
        have c1' := (hbl.cell (p := ⟨ba, offa + k * 2 + 1, none⟩) hba).trans c1
        obtain ⟨d0, d1⟩ := hcb k hlt
        have d0' := (hbl.cell (p := ⟨bb, offb + k * 2, none⟩) hbb).trans d0
        have d1' := (hbl.cell (p := ⟨bb, offb + k * 2 + 1, none⟩) hbb).trans d1
        have HST : Hid (la = lb ↔ gpD la k = gpD lb k ∧ la.drop (k + 1) = lb.drop (k + 1)) := hidn (hn.out.trans (by rw [gp_drop la k (by rw [hl.out]; exact hlt), gp_drop lb k (by rw [hl'.out]; exact hlt)]; simp))
        clear c0 c1 d0 d1 hca hcb hn
        generalize gpD la k = x at *
        generalize gpD lb k = y at *
        obtain ⟨x1, x2⟩ := x
        obtain ⟨y1, y2⟩ := y
        dsimp only at c0' c1' d0' d1'
        have hrun := fun w => run_neq_gap x1 y1 x2 y2 w
        by_cases hxy : (⟨x1, x2⟩ : Gp) = ⟨y1, y2⟩
        · have hd : dcd ((⟨x1, x2⟩ : Gp) = ⟨y1, y2⟩) = true := dcd_true hxy
          have hrun2 : ∀ w, (binOp .neq 25 (.agg #[.int .i64 x1, .int .i64 x2]) (.agg #[.int .i64 y1, .int .i64 y2])).run Try.prog w = .ok (.bool false) w := fun w => by rw [hrun w, hd]; rfl
          have HC : Hid (la = lb ↔ la.drop (k + 1) = lb.drop (k + 1)) := hidn (HST.out.trans ⟨fun h => h.2, fun h => ⟨hxy, h⟩⟩)
          clear hrun hd hxy HST
          go_wp2
          go_quiet (fail)
          go_wp2
          exact ⟨⟨k + 1, by omega, by go_num, below_drewN hbl _, HC⟩, by simp [intOf]; omega⟩
        · have hd : dcd ((⟨x1, x2⟩ : Gp) = ⟨y1, y2⟩) = false := dcd_false hxy
          have hrun2 : ∀ w, (binOp .neq 25 (.agg #[.int .i64 x1, .int .i64 x2]) (.agg #[.int .i64 y1, .int .i64 y2])).run Try.prog w = .ok (.bool true) w := fun w => by rw [hrun w, hd]; rfl
          have HC : Hid (¬ la = lb) := hidn (fun h => hxy (HST.out.1 h).1)
          clear hrun hd hxy HST
          go_wp2
          go_quiet (fail)
          go_wp2
          go_ret
          rw [HDD.out, dcd_false HC.out]
          exact ⟨rfl, below_drewN hbl _⟩
      · obtain rfl : k = len := by omega
        have HC : Hid (la = lb) := hidn (hn.out.2 (by rw [List.drop_of_length_le (by rw [hl.out]; omega), List.drop_of_length_le (by rw [hl'.out]; omega)]))
        clear hn
        go_wp2
        go_ret
        rw [HDD.out, dcd_true HC.out]
        exact ⟨rfl, hbl⟩
  · have hne' : ((len : Int) == (len' : Int)) = false := beq_eq_false_iff_ne.2 (by omega)
    have hne2 : ((len : Int) != (len' : Int)) = true := by rw [bne_iff_ne]; omega
    have HC : Hid (¬ la = lb) := hidn (fun h => hne (by rw [← hl.out, ← hl'.out, h]))
    clear hne
    go_enter Try.func5, Try.ntmps5
    go_wp2
    go_ret
    rw [HDD.out, dcd_false HC.out]
    exact ⟨rfl, Below.refl _ _⟩

end Go.Proofs.Ytkhihochfmgibaa
