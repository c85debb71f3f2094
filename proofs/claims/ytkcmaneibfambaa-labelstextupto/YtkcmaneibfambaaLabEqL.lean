/- slices.Equal of labels: a contract at any lists. -/
import Derived.Test.YtkcmaneibfambaaLabCmpL
import Derived.Laws.StructEq
import Derived.ChangeKeysEq
namespace Go.Proofs.Ytkcmaneibfambaa
open Go.RowKit
set_option linter.unusedVariables false
theorem labFields : Try.prog.underlying 39 = some (.struct (Try.prog.fieldsOf 39)) := by kernel_rfl
theorem labHeld : Try.prog.stoodInHeld 39 = false := by kernel_rfl
theorem labTwo : ∃ f g : Field, (Try.prog.fieldsOf 39).toList = [f, g] ∧ f.name ≠ "_" ∧ g.name ≠ "_" ∧ f.type = 9 ∧ g.type = 9 ∧ f.offset = 0 ∧ g.offset = 1 := by
  have h := labFields.symm.trans Try.underlying39
  simp only [Option.some.injEq, TypeDesc.struct.injEq] at h
  rw [h]
  exact ⟨_, _, rfl, by decide, by decide, rfl, rfl, rfl, rfl⟩
theorem strPlain : Try.prog.plainKey 9 = true := by kernel_rfl

theorem run_neq_label (x1 x2 y1 y2 : ByteArray) (w : World) : (binOp .neq 39 (.agg #[.string x1, .string x2]) (.agg #[.string y1, .string y2])).run Try.prog w = .ok (.bool (!decide ((x1, x2) = (y1, y2)))) w := by
  have h : (x1.toList == y1.toList && x2.toList == y2.toList) = decide ((x1, x2) = (y1, y2)) := by
    rw [Bool.eq_iff_iff]
    simp only [Bool.and_eq_true, beq_iff_eq, decide_eq_true_eq, Prod.mk.injEq]
    exact ⟨fun h => ⟨toList_inj h.1, toList_inj h.2⟩, fun h => ⟨by rw [h.1], by rw [h.2]⟩⟩
  rw [← h, run_neq_struct, run_equalIn_struct w 9999 39 _ _ labFields labHeld]
  obtain ⟨f, g, hfg, n1, n2, t1, t2, o1, o2⟩ := labTwo
  rw [hfg]
  have p1 : ∀ a b : ByteArray, (part 9 #[.string a, .string b] 0).run Try.prog w = .ok (.string a) w := fun a b => run_part_plain w strPlain rfl
  have p2 : ∀ a b : ByteArray, (part 9 #[.string a, .string b] 1).run Try.prog w = .ok (.string b) w := fun a b => run_part_plain w strPlain rfl
  have p3 := fun a b : ByteArray => run_equalIn_string (P := Try.prog) w 9998 9 a b Try.underlying9
  have p3' : ∀ a b : ByteArray, (Op.equalIn 9999 9 (.string a) (.string b)).run Try.prog w = .ok (a.toList == b.toList) w := p3
  clear p3
  simp only [Op.eqFields, t1, t2, o1, o2, if_pos n1, if_pos n2, Sem.run_bind, p1, p3', Result.andThen_ok]
  cases hx : (x1.toList == y1.toList) <;> cases hy : (x2.toList == y2.toList) <;> simp [Sem.run_bind, p2, p3', hy, Result.andThen]

set_option maxHeartbeats 4000000 in
set_option maxRecDepth 100000 in
theorem equalL_any (a : Option Addr) (len cap : Nat) (la : List Lab) (b : Option Addr) (len' cap' : Nat) (lb : List Lab) (w : World) (h : Ls w a len la) (h' : Ls w b len' lb) (hr : len ≤ 140737488355328) (hr' : len' ≤ 140737488355328) :
    Calls Try.prog 28 #[.slice a len cap, .slice b len' cap'] w fun e w' => e = .returned (.bool (decide (la = lb))) ∧ Below w.heap.size w w' := by
  have e : ∀ n, decide (la = lb) = n → (Ending.returned (.bool n) = Ending.returned (.bool (decide (la = lb)))) := fun b h => by rw [h]
  have HE := hidn e
  have hl := hidn h.1
  have hl' := hidn h'.1
  clear e
  generalize hdd : decide (la = lb) = dd at *
  have HDD := hidn hdd
  clear hdd
  by_cases hne : len = len'
  · subst hne
    go_enter Try.func28, Try.ntmps28
    go_wp2
    go_loopw [13] (fun i wr => ∃ k : Nat, k ≤ len ∧ i = .int .i64 k ∧ Below w.heap.size w wr ∧ Hid (la = lb ↔ la.drop k = lb.drop k)) (fun i wr => len - (intOf i).toNat)
    case atStart => exact ⟨0, Nat.zero_le _, rfl, Below.refl _ _, Iff.rfl⟩
    case round =>
      obtain ⟨k, hk, rfl, hbl, hn⟩ := hrel
      by_cases hlt : k < len
      · obtain ⟨ba, offa, rfl, hba, hca⟩ := h.pos (by omega)
        obtain ⟨bb, offb, rfl, hbb, hcb⟩ := h'.pos (by omega)
        obtain ⟨c0, c1⟩ := hca k hlt
        have c0' : wr.cell? ⟨ba, offa + k * 2, none⟩ = some (.string (labD la k).1) := (hbl.cell (p := ⟨ba, offa + k * 2, none⟩) hba).trans c0
        have c1' : wr.cell? ⟨ba, offa + k * 2 + 1, none⟩ = some (.string (labD la k).2) := (hbl.cell (p := ⟨ba, offa + k * 2 + 1, none⟩) hba).trans c1
        obtain ⟨d0, d1⟩ := hcb k hlt
        have d0' : wr.cell? ⟨bb, offb + k * 2, none⟩ = some (.string (labD lb k).1) := (hbl.cell (p := ⟨bb, offb + k * 2, none⟩) hbb).trans d0
        have d1' : wr.cell? ⟨bb, offb + k * 2 + 1, none⟩ = some (.string (labD lb k).2) := (hbl.cell (p := ⟨bb, offb + k * 2 + 1, none⟩) hbb).trans d1
        clear c0 c1 d0 d1 hca hcb
        have HST := hidn (hn.out.trans (eqFrom_step la lb k (by rw [hl.out]; exact hlt) (by rw [hl'.out]; exact hlt)))
        clear hn
        generalize hx : labD la k = x at *
        generalize hy : labD lb k = y at *
        obtain ⟨x1, x2⟩ := x
        obtain ⟨y1, y2⟩ := y
        clear hx hy
        dsimp only at c0' c1' d0' d1'
        have hrun := fun w => run_neq_label x1 x2 y1 y2 w
        by_cases hxy : (x1, x2) = (y1, y2)
        · have hd : decide ((x1, x2) = (y1, y2)) = true := decide_eq_true hxy
          have hrun2 : ∀ w, (binOp .neq 39 (.agg #[.string x1, .string x2]) (.agg #[.string y1, .string y2])).run Try.prog w = .ok (.bool false) w := fun w => by rw [hrun w, hd]; rfl
          have HC : Hid (la = lb ↔ la.drop (k + 1) = lb.drop (k + 1)) := hidn (HST.out.trans ⟨fun h => h.2, fun h => ⟨hxy, h⟩⟩)
          clear hrun hd hxy HST
          go_wp2
          go_quiet (fail)
          go_wp2
          exact ⟨⟨k + 1, by omega, by go_num, below_drewN hbl _, HC⟩, by simp [intOf]; omega⟩
        · have hd : decide ((x1, x2) = (y1, y2)) = false := decide_eq_false hxy
          have hrun2 : ∀ w, (binOp .neq 39 (.agg #[.string x1, .string x2]) (.agg #[.string y1, .string y2])).run Try.prog w = .ok (.bool true) w := fun w => by rw [hrun w, hd]; rfl
          have HC : Hid (¬ la = lb) := hidn (fun h => hxy (HST.out.1 h).1)
          clear hrun hd hxy HST
          go_wp2
          go_quiet (fail)
          go_wp2
          go_ret
          exact ⟨HE.out _ (by rw [← HDD.out]; exact decide_eq_false HC.out), below_drewN hbl _⟩
      · obtain rfl : k = len := by omega
        have HC : Hid (la = lb) := hidn (hn.out.2 (by rw [List.drop_of_length_le (by rw [hl.out]; omega), List.drop_of_length_le (by rw [hl'.out]; omega)]))
        clear hn
        go_wp2
        go_ret
        exact ⟨HE.out _ (by rw [← HDD.out]; exact decide_eq_true HC.out), hbl⟩
  · have hne' : ((len : Int) == (len' : Int)) = false := beq_eq_false_iff_ne.2 (by omega)
    have HC : Hid (¬ la = lb) := hidn (fun h => hne (by rw [← hl.out, ← hl'.out, h]))
    clear hne
    go_enter Try.func28, Try.ntmps28
    go_wp2
    go_ret
    exact ⟨HE.out _ (by rw [← HDD.out]; exact decide_eq_false HC.out), Below.refl _ _⟩
end Go.Proofs.Ytkcmaneibfambaa
