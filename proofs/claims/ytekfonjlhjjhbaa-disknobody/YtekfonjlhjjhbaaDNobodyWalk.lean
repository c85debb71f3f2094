/- DiskNobody: the law's walk. -/
import Derived.Test.YtekfonjlhjjhbaaSNobodyWalk
import Derived.Test.YtekfonjlhjjhbaaNobodyD
import Derived.Test.YtekfonjlhjjhbaaDiskAwake
namespace Go.Proofs.Ytekfonjlhjjhbaa
open Go.RowKit Go.Maps
set_option linter.unusedVariables false
section
variable {P : Program} {md : Region.Mode} {ops : Array Oper} {Q : Exit → Act → World → Prop} {S : World → Prop} {fuel : Nat} {listed : Array Bool} {a : Act} {w : World} {i : Nat} {o : Oper} {rs : List Nat}
theorem rdy_callg (ho : ops[i]? = some o) (hw : Region.wanted o (yielded ops a.tmps) = true) (dst : Option Nat) (hd : o.dst = dst) (f : FuncId) (args : Array Value) (hrun : (execOp a.eval o).run P w = .ok (.enter f args) w) (R : Value → World → Prop)
    (hc : Calls P f args w fun e w' => ∃ v, e = .returned v ∧ R v w')
    (h : ∀ v w', R v w' → S w' ∧ (S w' → wpAnyH P md ops Q S fuel (listed.setIfInBounds i true) (a.put dst v) w')) (hs : AllReadyH P md ops Q S fuel listed a w rs) : AllReadyH P md ops Q S fuel listed a w (i :: rs) := by
  subst hd
  refine AllReadyH.cons ho (fun K hK => ?_) hs
  rw [if_pos hw]
  unfold Oper.wp
  rw [hrun, Oper.upon_enter]
  refine hc.mono fun e w' hh => ?_
  obtain ⟨v, rfl, hR⟩ := hh
  exact hK _ _ (h v w' hR).1 (h v w' hR).2
end
theorem dn_Full {o : Oper} {a : Act} {w : World} {ts : Array TypeId} {x0 : Nat} {v0 : Value} (ho : o.op = Op.call { callee := Callee.value (Operand.func 8), args := #[.tmp x0], argTypes := ts }) (hx0 : a.eval (.tmp x0) = v0) : (execOp a.eval o).run Try.prog w = .ok (.enter 8 #[v0]) w := by
  simp [go_sem, execOp, ho, resolve, invoke]
  simpa [Act.eval] using hx0
theorem dn_Write {o : Oper} {a : Act} {w : World} {ts : Array TypeId} {x0 x1 x2 x3 : Nat} {v0 v1 v2 v3 : Value} (ho : o.op = Op.call { callee := Callee.value (Operand.func 7), args := #[.tmp x0, .tmp x1, .tmp x2, .tmp x3], argTypes := ts }) (hx0 : a.eval (.tmp x0) = v0) (hx1 : a.eval (.tmp x1) = v1) (hx2 : a.eval (.tmp x2) = v2) (hx3 : a.eval (.tmp x3) = v3) : (execOp a.eval o).run Try.prog w = .ok (.enter 7 #[v0, v1, v2, v3]) w := by
  simp [go_sem, execOp, ho, resolve, invoke]
  exact ⟨by simpa [Act.eval] using hx0, by simpa [Act.eval] using hx1, by simpa [Act.eval] using hx2, by simpa [Act.eval] using hx3⟩
theorem dn_Sync {o : Oper} {a : Act} {w : World} {ts : Array TypeId} {x0 x1 : Nat} {v0 v1 : Value} (ho : o.op = Op.call { callee := Callee.value (Operand.func 9), args := #[.tmp x0, .tmp x1], argTypes := ts }) (hx0 : a.eval (.tmp x0) = v0) (hx1 : a.eval (.tmp x1) = v1) : (execOp a.eval o).run Try.prog w = .ok (.enter 9 #[v0, v1]) w := by
  simp [go_sem, execOp, ho, resolve, invoke]
  exact ⟨by simpa [Act.eval] using hx0, by simpa [Act.eval] using hx1⟩
theorem dn_Remove {o : Oper} {a : Act} {w : World} {ts : Array TypeId} {x0 x1 : Nat} {v0 v1 : Value} (ho : o.op = Op.call { callee := Callee.value (Operand.func 10), args := #[.tmp x0, .tmp x1], argTypes := ts }) (hx0 : a.eval (.tmp x0) = v0) (hx1 : a.eval (.tmp x1) = v1) : (execOp a.eval o).run Try.prog w = .ok (.enter 10 #[v0, v1]) w := by
  simp [go_sem, execOp, ho, resolve, invoke]
  exact ⟨by simpa [Act.eval] using hx0, by simpa [Act.eval] using hx1⟩
theorem dn_Rot {o : Oper} {a : Act} {w : World} {ts : Array TypeId} {x0 x1 x2 x3 x4 : Nat} {v0 v1 v2 v3 v4 : Value} (ho : o.op = Op.call { callee := Callee.value (Operand.func 11), args := #[.tmp x0, .tmp x1, .tmp x2, .tmp x3, .tmp x4], argTypes := ts }) (hx0 : a.eval (.tmp x0) = v0) (hx1 : a.eval (.tmp x1) = v1) (hx2 : a.eval (.tmp x2) = v2) (hx3 : a.eval (.tmp x3) = v3) (hx4 : a.eval (.tmp x4) = v4) : (execOp a.eval o).run Try.prog w = .ok (.enter 11 #[v0, v1, v2, v3, v4]) w := by
  simp [go_sem, execOp, ho, resolve, invoke]
  exact ⟨by simpa [Act.eval] using hx0, by simpa [Act.eval] using hx1, by simpa [Act.eval] using hx2, by simpa [Act.eval] using hx3, by simpa [Act.eval] using hx4⟩
theorem dn_Fuse {o : Oper} {a : Act} {w : World} {ts : Array TypeId} {x0 x1 : Nat} {v0 v1 : Value} (ho : o.op = Op.call { callee := Callee.value (Operand.func 12), args := #[.tmp x0, .tmp x1], argTypes := ts }) (hx0 : a.eval (.tmp x0) = v0) (hx1 : a.eval (.tmp x1) = v1) : (execOp a.eval o).run Try.prog w = .ok (.enter 12 #[v0, v1]) w := by
  simp [go_sem, execOp, ho, resolve, invoke]
  exact ⟨by simpa [Act.eval] using hx0, by simpa [Act.eval] using hx1⟩
theorem dn_Crash {o : Oper} {a : Act} {w : World} {ts : Array TypeId} {x0 x1 : Nat} {v0 v1 : Value} (ho : o.op = Op.call { callee := Callee.value (Operand.func 13), args := #[.tmp x0, .tmp x1], argTypes := ts }) (hx0 : a.eval (.tmp x0) = v0) (hx1 : a.eval (.tmp x1) = v1) : (execOp a.eval o).run Try.prog w = .ok (.enter 13 #[v0, v1]) w := by
  simp [go_sem, execOp, ho, resolve, invoke]
  exact ⟨by simpa [Act.eval] using hx0, by simpa [Act.eval] using hx1⟩
theorem dn_List {o : Oper} {a : Act} {w : World} {ts : Array TypeId} {x0 : Nat} {v0 : Value} (ho : o.op = Op.call { callee := Callee.value (Operand.func 15), args := #[.tmp x0], argTypes := ts }) (hx0 : a.eval (.tmp x0) = v0) : (execOp a.eval o).run Try.prog w = .ok (.enter 15 #[v0]) w := by
  simp [go_sem, execOp, ho, resolve, invoke]
  simpa [Act.eval] using hx0
theorem dn_Damaged {o : Oper} {a : Act} {w : World} {ts : Array TypeId} {x0 : Nat} {v0 : Value} (ho : o.op = Op.call { callee := Callee.value (Operand.func 16), args := #[.tmp x0], argTypes := ts }) (hx0 : a.eval (.tmp x0) = v0) : (execOp a.eval o).run Try.prog w = .ok (.enter 16 #[v0]) w := by
  simp [go_sem, execOp, ho, resolve, invoke]
  simpa [Act.eval] using hx0
theorem dn_Extents {o : Oper} {a : Act} {w : World} {ts : Array TypeId} {x0 x1 : Nat} {v0 v1 : Value} (ho : o.op = Op.call { callee := Callee.value (Operand.func 17), args := #[.tmp x0, .tmp x1], argTypes := ts }) (hx0 : a.eval (.tmp x0) = v0) (hx1 : a.eval (.tmp x1) = v1) : (execOp a.eval o).run Try.prog w = .ok (.enter 17 #[v0, v1]) w := by
  simp [go_sem, execOp, ho, resolve, invoke]
  exact ⟨by simpa [Act.eval] using hx0, by simpa [Act.eval] using hx1⟩
theorem dn_Free {o : Oper} {a : Act} {w : World} {ts : Array TypeId} {x0 : Nat} {v0 : Value} (ho : o.op = Op.call { callee := Callee.value (Operand.func 18), args := #[.tmp x0], argTypes := ts }) (hx0 : a.eval (.tmp x0) = v0) : (execOp a.eval o).run Try.prog w = .ok (.enter 18 #[v0]) w := by
  simp [go_sem, execOp, ho, resolve, invoke]
  simpa [Act.eval] using hx0
theorem dn_Copy {o : Oper} {a : Act} {w : World} {ts : Array TypeId} {x0 : Nat} {v0 : Value} (ho : o.op = Op.call { callee := Callee.value (Operand.func 19), args := #[.tmp x0], argTypes := ts }) (hx0 : a.eval (.tmp x0) = v0) : (execOp a.eval o).run Try.prog w = .ok (.enter 19 #[v0]) w := by
  simp [go_sem, execOp, ho, resolve, invoke]
  simpa [Act.eval] using hx0
theorem sixAt {w : World} {b : Nat} {t : TypeId} (h : w.heap[b]? = some (.cells #[.int .i64 2, .int .i64 2, .int .i64 2, .int .i64 2, .int .i64 2, .int .i64 2] t (0, 0))) (k : Nat) (hk : k < 6) : w.cell? ⟨b, k, none⟩ = some (.int .i64 2) := by
  rw [cell_of_row _ _ _ _ _ _ h]
  match k, hk with
  | 0, _ => rfl
  | 1, _ => rfl
  | 2, _ => rfl
  | 3, _ => rfl
  | 4, _ => rfl
  | 5, _ => rfl
theorem Unmade.drew' {w : World} {v : Value} (h : Unmade w v) : Unmade w.drew v := h
set_option maxHeartbeats 8000000 in
set_option maxRecDepth 100000 in
theorem diskNobody_walk (y0 y1 y2 y3 y4 y6 y7 : Value) (a : Option Addr) (len cap : Nat) (zs : List Nat) (w : World) (hB : Bs w a len zs) :
    Calls Try.prog 3 #[.agg #[y0, y1, y2, y3, y4, .slice a len cap, y6, y7]] w fun e w' => e = .returned (.bool true) ∧ Below w.heap.size w w' := by
  have HBs := hidz hB
  have hpn := fun (wx : World) (p : Option Addr) => run_neq_pointer_nil (P := Try.prog) wx 26 p (by kernel_rfl)
  have HIN : Hid ((Try.prog.info? 25).map (·.size) = some 8) := hidz (by kernel_rfl)
  clear hB
  go_enter Try.func3, Try.ntmps3
  go_wp2
  go_loopw [13] (fun i wr => ∃ k : Nat, k ≤ 2 ∧ i = .int .i64 k ∧ Hid (NB wr w.heap.size 25 #[y0, y1, y2, y3, y4, .slice a len cap, y6, y7]) ∧ Below w.heap.size w wr) (fun i wr => 2 - (intOf i).toNat)
  case atStart => exact ⟨0, Nat.zero_le _, rfl, hidz (NB.new w _ _), ((((Below.refl _ w).alloc (Nat.le_refl _) _).alloc (by simp) _).alloc (by simp; omega) _)⟩
  case round =>
    obtain ⟨k, hk, rfl, hN, hbl⟩ := hrel
    by_cases hlt : k < 2
    · obtain ⟨v, hcv, hun⟩ := hN.out.disk k hlt
      have hUN := hidz hun
      clear hun
      go_wp2
      clear hcv
      have HNd : Hid (NB wr.drew w.heap.size 25 #[y0, y1, y2, y3, y4, .slice a len cap, y6, y7]) := hidz hN.out
      have BD : Below w.heap.size w wr.drew := hbl.drew
      have hU0 := hidz hUN.out.drew'
      refine wp_region_noPanic ?_
      refine wp_region_held_drew (S := (fun w' => NB w' w.heap.size 25 #[y0, y1, y2, y3, y4, .slice a len cap, y6, y7])) (by kernel_rfl) HNd.out (fun hHeld => ?_)
      generalize wr.drew = wd at *
      refine drawn_take (i := 0) (v := v) (some 17) rfl rfl (by kernel_rfl) (by kernel_rfl) (by kernel_rfl) (fun _ _ _ h => h) (Or.inl ⟨by kernel_rfl, fun wq hw => by go_simp⟩) hHeld ?_
      simp only [Act.put, List.setIfInBounds_toArray, List.set_cons_succ, List.set_cons_zero]
      refine drawn_take (i := 1) (v := .pointer (some ⟨w.heap.size, 4, none⟩)) (some 18) rfl rfl (by kernel_rfl) (by kernel_rfl) (by kernel_rfl) (fun _ _ _ h => h) (Or.inl ⟨by kernel_rfl, fun wq hw => by go_simp⟩) hHeld ?_
      simp only [Act.put, List.setIfInBounds_toArray, List.set_cons_succ, List.set_cons_zero]
      refine drawn_take (i := 2) (v := y4) (some 19) rfl rfl (by kernel_rfl) (by kernel_rfl) (by kernel_rfl) (fun _ _ _ h => h) (Or.inl ⟨by kernel_rfl, fun wq hw => by have q := hw.field 4 (y := y4) rfl; go_simp⟩) hHeld ?_
      simp only [Act.put, List.setIfInBounds_toArray, List.set_cons_succ, List.set_cons_zero]
      refine drawn_take (i := 3) (v := .pointer (some ⟨w.heap.size, 1, none⟩)) (some 20) rfl rfl (by kernel_rfl) (by kernel_rfl) (by kernel_rfl) (fun _ _ _ h => h) (Or.inl ⟨by kernel_rfl, fun wq hw => by go_simp⟩) hHeld ?_
      simp only [Act.put, List.setIfInBounds_toArray, List.set_cons_succ, List.set_cons_zero]
      refine drawn_take (i := 4) (v := y1) (some 21) rfl rfl (by kernel_rfl) (by kernel_rfl) (by kernel_rfl) (fun _ _ _ h => h) (Or.inl ⟨by kernel_rfl, fun wq hw => by have q := hw.field 1 (y := y1) rfl; go_simp⟩) hHeld ?_
      simp only [Act.put, List.setIfInBounds_toArray, List.set_cons_succ, List.set_cons_zero]
      refine drawn_take (i := 5) (v := .agg #[y0, y1, y2, y3, y4, .slice a len cap, y6, y7]) (some 22) rfl rfl (by kernel_rfl) (by kernel_rfl) (by kernel_rfl) (fun _ _ _ h => h) (Or.inl ⟨by kernel_rfl, fun wq hw => by have q0 := hw.field 0 (y := y0) rfl; have q1 := hw.field 1 (y := y1) rfl; have q2 := hw.field 2 (y := y2) rfl; have q3 := hw.field 3 (y := y3) rfl; have q4 := hw.field 4 (y := y4) rfl; have q5 := hw.field 5 (y := .slice a len cap) rfl; have q6 := hw.field 6 (y := y6) rfl; have q7 := hw.field 7 (y := y7) rfl; go_simp⟩) hHeld ?_
      simp only [Act.put, List.setIfInBounds_toArray, List.set_cons_succ, List.set_cons_zero]
      refine drawn_take (i := 8) (v := v) (some 25) rfl rfl (by kernel_rfl) (by kernel_rfl) (by kernel_rfl) (fun _ _ _ h => h) (Or.inl ⟨by kernel_rfl, fun wq hw => by go_simp⟩) hHeld ?_
      simp only [Act.put, List.setIfInBounds_toArray, List.set_cons_succ, List.set_cons_zero]
      refine drawn_take (i := 9) (v := .pointer (some ⟨w.heap.size, 4, none⟩)) (some 26) rfl rfl (by kernel_rfl) (by kernel_rfl) (by kernel_rfl) (fun _ _ _ h => h) (Or.inl ⟨by kernel_rfl, fun wq hw => by go_simp⟩) hHeld ?_
      simp only [Act.put, List.setIfInBounds_toArray, List.set_cons_succ, List.set_cons_zero]
      refine drawn_take (i := 10) (v := y4) (some 27) rfl rfl (by kernel_rfl) (by kernel_rfl) (by kernel_rfl) (fun _ _ _ h => h) (Or.inl ⟨by kernel_rfl, fun wq hw => by have q := hw.field 4 (y := y4) rfl; go_simp⟩) hHeld ?_
      simp only [Act.put, List.setIfInBounds_toArray, List.set_cons_succ, List.set_cons_zero]
      refine drawn_take (i := 12) (v := v) (some 29) rfl rfl (by kernel_rfl) (by kernel_rfl) (by kernel_rfl) (fun _ _ _ h => h) (Or.inl ⟨by kernel_rfl, fun wq hw => by go_simp⟩) hHeld ?_
      simp only [Act.put, List.setIfInBounds_toArray, List.set_cons_succ, List.set_cons_zero]
      refine drawn_take (i := 13) (v := .pointer (some ⟨w.heap.size, 4, none⟩)) (some 30) rfl rfl (by kernel_rfl) (by kernel_rfl) (by kernel_rfl) (fun _ _ _ h => h) (Or.inl ⟨by kernel_rfl, fun wq hw => by go_simp⟩) hHeld ?_
      simp only [Act.put, List.setIfInBounds_toArray, List.set_cons_succ, List.set_cons_zero]
      refine drawn_take (i := 14) (v := y4) (some 31) rfl rfl (by kernel_rfl) (by kernel_rfl) (by kernel_rfl) (fun _ _ _ h => h) (Or.inl ⟨by kernel_rfl, fun wq hw => by have q := hw.field 4 (y := y4) rfl; go_simp⟩) hHeld ?_
      simp only [Act.put, List.setIfInBounds_toArray, List.set_cons_succ, List.set_cons_zero]
      refine drawn_take (i := 16) (v := v) (some 33) rfl rfl (by kernel_rfl) (by kernel_rfl) (by kernel_rfl) (fun _ _ _ h => h) (Or.inl ⟨by kernel_rfl, fun wq hw => by go_simp⟩) hHeld ?_
      simp only [Act.put, List.setIfInBounds_toArray, List.set_cons_succ, List.set_cons_zero]
      refine drawn_take (i := 17) (v := .pointer (some ⟨w.heap.size, 4, none⟩)) (some 34) rfl rfl (by kernel_rfl) (by kernel_rfl) (by kernel_rfl) (fun _ _ _ h => h) (Or.inl ⟨by kernel_rfl, fun wq hw => by go_simp⟩) hHeld ?_
      simp only [Act.put, List.setIfInBounds_toArray, List.set_cons_succ, List.set_cons_zero]
      refine drawn_take (i := 18) (v := y4) (some 35) rfl rfl (by kernel_rfl) (by kernel_rfl) (by kernel_rfl) (fun _ _ _ h => h) (Or.inl ⟨by kernel_rfl, fun wq hw => by have q := hw.field 4 (y := y4) rfl; go_simp⟩) hHeld ?_
      simp only [Act.put, List.setIfInBounds_toArray, List.set_cons_succ, List.set_cons_zero]
      refine drawn_take (i := 19) (v := .pointer (some ⟨w.heap.size, 1, none⟩)) (some 36) rfl rfl (by kernel_rfl) (by kernel_rfl) (by kernel_rfl) (fun _ _ _ h => h) (Or.inl ⟨by kernel_rfl, fun wq hw => by go_simp⟩) hHeld ?_
      simp only [Act.put, List.setIfInBounds_toArray, List.set_cons_succ, List.set_cons_zero]
      refine drawn_take (i := 20) (v := y1) (some 37) rfl rfl (by kernel_rfl) (by kernel_rfl) (by kernel_rfl) (fun _ _ _ h => h) (Or.inl ⟨by kernel_rfl, fun wq hw => by have q := hw.field 1 (y := y1) rfl; go_simp⟩) hHeld ?_
      simp only [Act.put, List.setIfInBounds_toArray, List.set_cons_succ, List.set_cons_zero]
      refine drawn_take (i := 21) (v := .pointer (some ⟨w.heap.size, 2, none⟩)) (some 38) rfl rfl (by kernel_rfl) (by kernel_rfl) (by kernel_rfl) (fun _ _ _ h => h) (Or.inl ⟨by kernel_rfl, fun wq hw => by go_simp⟩) hHeld ?_
      simp only [Act.put, List.setIfInBounds_toArray, List.set_cons_succ, List.set_cons_zero]
      refine drawn_take (i := 22) (v := y2) (some 39) rfl rfl (by kernel_rfl) (by kernel_rfl) (by kernel_rfl) (fun _ _ _ h => h) (Or.inl ⟨by kernel_rfl, fun wq hw => by have q := hw.field 2 (y := y2) rfl; go_simp⟩) hHeld ?_
      simp only [Act.put, List.setIfInBounds_toArray, List.set_cons_succ, List.set_cons_zero]
      refine drawn_take (i := 23) (v := .pointer (some ⟨w.heap.size, 6, none⟩)) (some 40) rfl rfl (by kernel_rfl) (by kernel_rfl) (by kernel_rfl) (fun _ _ _ h => h) (Or.inl ⟨by kernel_rfl, fun wq hw => by go_simp⟩) hHeld ?_
      simp only [Act.put, List.setIfInBounds_toArray, List.set_cons_succ, List.set_cons_zero]
      refine drawn_take (i := 24) (v := y6) (some 41) rfl rfl (by kernel_rfl) (by kernel_rfl) (by kernel_rfl) (fun _ _ _ h => h) (Or.inl ⟨by kernel_rfl, fun wq hw => by have q := hw.field 6 (y := y6) rfl; go_simp⟩) hHeld ?_
      simp only [Act.put, List.setIfInBounds_toArray, List.set_cons_succ, List.set_cons_zero]
      refine drawn_take (i := 26) (v := v) (some 43) rfl rfl (by kernel_rfl) (by kernel_rfl) (by kernel_rfl) (fun _ _ _ h => h) (Or.inl ⟨by kernel_rfl, fun wq hw => by go_simp⟩) hHeld ?_
      simp only [Act.put, List.setIfInBounds_toArray, List.set_cons_succ, List.set_cons_zero]
      refine drawn_take (i := 27) (v := .pointer (some ⟨w.heap.size, 3, none⟩)) (some 44) rfl rfl (by kernel_rfl) (by kernel_rfl) (by kernel_rfl) (fun _ _ _ h => h) (Or.inl ⟨by kernel_rfl, fun wq hw => by go_simp⟩) hHeld ?_
      simp only [Act.put, List.setIfInBounds_toArray, List.set_cons_succ, List.set_cons_zero]
      refine drawn_take (i := 28) (v := y3) (some 45) rfl rfl (by kernel_rfl) (by kernel_rfl) (by kernel_rfl) (fun _ _ _ h => h) (Or.inl ⟨by kernel_rfl, fun wq hw => by have q := hw.field 3 (y := y3) rfl; go_simp⟩) hHeld ?_
      simp only [Act.put, List.setIfInBounds_toArray, List.set_cons_succ, List.set_cons_zero]
      refine drawn_take (i := 30) (v := v) (some 47) rfl rfl (by kernel_rfl) (by kernel_rfl) (by kernel_rfl) (fun _ _ _ h => h) (Or.inl ⟨by kernel_rfl, fun wq hw => by go_simp⟩) hHeld ?_
      simp only [Act.put, List.setIfInBounds_toArray, List.set_cons_succ, List.set_cons_zero]
      refine drawn_take (i := 31) (v := .pointer (some ⟨w.heap.size, 7, none⟩)) (some 48) rfl rfl (by kernel_rfl) (by kernel_rfl) (by kernel_rfl) (fun _ _ _ h => h) (Or.inl ⟨by kernel_rfl, fun wq hw => by go_simp⟩) hHeld ?_
      simp only [Act.put, List.setIfInBounds_toArray, List.set_cons_succ, List.set_cons_zero]
      refine drawn_take (i := 32) (v := y7) (some 49) rfl rfl (by kernel_rfl) (by kernel_rfl) (by kernel_rfl) (fun _ _ _ h => h) (Or.inl ⟨by kernel_rfl, fun wq hw => by have q := hw.field 7 (y := y7) rfl; go_simp⟩) hHeld ?_
      simp only [Act.put, List.setIfInBounds_toArray, List.set_cons_succ, List.set_cons_zero]
      refine drawn_take (i := 36) (v := .int .i64 0) (some 53) rfl rfl (by kernel_rfl) (by kernel_rfl) (by kernel_rfl) (fun _ _ _ h => h) (Or.inl ⟨by kernel_rfl, fun wq hw => by go_simp⟩) hHeld ?_
      simp only [Act.put, List.setIfInBounds_toArray, List.set_cons_succ, List.set_cons_zero]
      refine wpAnyH_ready (rs := [6]) (by kernel_rfl) (by simp) ?_
      refine rdy_call (i := 6) rfl rfl (some 23) rfl 8 #[.agg #[y0, y1, y2, y3, y4, .slice a len cap, y6, y7]] (dn_Full (ts := #[25]) (x0 := 22) (by kernel_rfl) (by kernel_rfl)) (fun r w' => Below (wd).heap.size (wd) w') ((full_any wd y0 y1 y2 y3 y4 y6 y7 a len cap zs (HBs.out.below BD)).mono fun e w' h => by obtain ⟨⟨v, rfl⟩, hb⟩ := h; exact ⟨v, rfl, hb⟩) (fun r1 w1 hR => ?_) rdy_nil
      have b1 := hR
      have B1 := BD.trans (b1.mono BD.size)
      have hU1 := hidz (hU0.out.below b1)
      refine ⟨hHeld.below b1, fun hHeld => ?_⟩
      simp only [Act.put, List.setIfInBounds_toArray, List.set_cons_succ, List.set_cons_zero]
      refine wpAnyH_ready (rs := [7]) (by kernel_rfl) (by simp) ?_
      refine rdy_call (i := 7) rfl rfl (some 24) rfl 7 #[v, y4, y1, r1] (dn_Write (ts := #[26, 9, 3, 22]) (x0 := 17) (x1 := 19) (x2 := 21) (x3 := 23) (by kernel_rfl) (by kernel_rfl) (by kernel_rfl) (by kernel_rfl) (by kernel_rfl)) (fun r w' => r = .int .i64 2 ∧ Below (w1).heap.size (w1) w') ((write_un w1 v hU1.out y4 y1 r1).mono fun e w' h => ⟨_, h.1, rfl, h.2⟩) (fun r2 w2 hR => ?_) rdy_nil
      obtain ⟨rfl, b2⟩ := hR
      have B2 := B1.trans (b2.mono B1.size)
      have hU2 := hidz (hU1.out.below b2)
      refine ⟨hHeld.below b2, fun hHeld => ?_⟩
      simp only [Act.put, List.setIfInBounds_toArray, List.set_cons_succ, List.set_cons_zero]
      refine wpAnyH_ready (rs := [11]) (by kernel_rfl) (by simp) ?_
      refine rdy_call (i := 11) rfl rfl (some 28) rfl 9 #[v, y4] (dn_Sync (ts := #[26, 9]) (x0 := 25) (x1 := 27) (by kernel_rfl) (by kernel_rfl) (by kernel_rfl)) (fun r w' => r = .int .i64 2 ∧ Below (w2).heap.size (w2) w') ((sync_un w2 v hU2.out y4).mono fun e w' h => ⟨_, h.1, rfl, h.2⟩) (fun r3 w3 hR => ?_) rdy_nil
      obtain ⟨rfl, b3⟩ := hR
      have B3 := B2.trans (b3.mono B2.size)
      have hU3 := hidz (hU2.out.below b3)
      refine ⟨hHeld.below b3, fun hHeld => ?_⟩
      simp only [Act.put, List.setIfInBounds_toArray, List.set_cons_succ, List.set_cons_zero]
      refine wpAnyH_ready (rs := [15]) (by kernel_rfl) (by simp) ?_
      refine rdy_call (i := 15) rfl rfl (some 32) rfl 10 #[v, y4] (dn_Remove (ts := #[26, 9]) (x0 := 29) (x1 := 31) (by kernel_rfl) (by kernel_rfl) (by kernel_rfl)) (fun r w' => r = .int .i64 2 ∧ Below (w3).heap.size (w3) w') ((remove_un w3 v hU3.out y4).mono fun e w' h => ⟨_, h.1, rfl, h.2⟩) (fun r4 w4 hR => ?_) rdy_nil
      obtain ⟨rfl, b4⟩ := hR
      have B4 := B3.trans (b4.mono B3.size)
      have hU4 := hidz (hU3.out.below b4)
      refine ⟨hHeld.below b4, fun hHeld => ?_⟩
      simp only [Act.put, List.setIfInBounds_toArray, List.set_cons_succ, List.set_cons_zero]
      refine wpAnyH_ready (rs := [25]) (by kernel_rfl) (by simp) ?_
      refine rdy_call (i := 25) rfl rfl (some 42) rfl 11 #[v, y4, y1, y2, y6] (dn_Rot (ts := #[26, 9, 3, 3, 5]) (x0 := 33) (x1 := 35) (x2 := 37) (x3 := 39) (x4 := 41) (by kernel_rfl) (by kernel_rfl) (by kernel_rfl) (by kernel_rfl) (by kernel_rfl) (by kernel_rfl)) (fun r w' => r = .int .i64 2 ∧ Below (w4).heap.size (w4) w') ((rot_un w4 v hU4.out y4 y1 y2 y6).mono fun e w' h => ⟨_, h.1, rfl, h.2⟩) (fun r5 w5 hR => ?_) rdy_nil
      obtain ⟨rfl, b5⟩ := hR
      have B5 := B4.trans (b5.mono B4.size)
      have hU5 := hidz (hU4.out.below b5)
      refine ⟨hHeld.below b5, fun hHeld => ?_⟩
      simp only [Act.put, List.setIfInBounds_toArray, List.set_cons_succ, List.set_cons_zero]
      refine wpAnyH_ready (rs := [29]) (by kernel_rfl) (by simp) ?_
      refine rdy_call (i := 29) rfl rfl (some 46) rfl 12 #[v, y3] (dn_Fuse (ts := #[26, 3]) (x0 := 43) (x1 := 45) (by kernel_rfl) (by kernel_rfl) (by kernel_rfl)) (fun r w' => r = .int .i64 2 ∧ Below (w5).heap.size (w5) w') ((fuse_un w5 v hU5.out y3).mono fun e w' h => ⟨_, h.1, rfl, h.2⟩) (fun r6 w6 hR => ?_) rdy_nil
      obtain ⟨rfl, b6⟩ := hR
      have B6 := B5.trans (b6.mono B5.size)
      have hU6 := hidz (hU5.out.below b6)
      refine ⟨hHeld.below b6, fun hHeld => ?_⟩
      simp only [Act.put, List.setIfInBounds_toArray, List.set_cons_succ, List.set_cons_zero]
      refine wpAnyH_ready (rs := [33]) (by kernel_rfl) (by simp) ?_
      refine rdy_call (i := 33) rfl rfl (some 50) rfl 13 #[v, y7] (dn_Crash (ts := #[26, 23]) (x0 := 47) (x1 := 49) (by kernel_rfl) (by kernel_rfl) (by kernel_rfl)) (fun r w' => r = .int .i64 2 ∧ Below (w6).heap.size (w6) w') ((crash_un w6 v hU6.out y7).mono fun e w' h => ⟨_, h.1, rfl, h.2⟩) (fun r7 w7 hR => ?_) rdy_nil
      obtain ⟨rfl, b7⟩ := hR
      have B7 := B6.trans (b7.mono B6.size)
      have hU7 := hidz (hU6.out.below b7)
      refine ⟨hHeld.below b7, fun hHeld => ?_⟩
      simp only [Act.put, List.setIfInBounds_toArray, List.set_cons_succ, List.set_cons_zero]
      refine wpAnyH_ready (rs := [34]) (by kernel_rfl) (by simp) ?_
      refine rdy_val (i := 34) rfl rfl (some 51) rfl (.slice (some ⟨w7.heap.size, 0, none⟩) 6 6) (w7.alloc (.cells #[.int .i64 2, .int .i64 2, .int .i64 2, .int .i64 2, .int .i64 2, .int .i64 2] 31)) (by go_simp) (hHeld.below ((Below.refl _ _).alloc (Nat.le_refl _) _)) (fun hHeld => ?_) rdy_nil
      simp only [Act.put, List.setIfInBounds_toArray, List.set_cons_succ, List.set_cons_zero]
      refine wpAnyH_ready (rs := [35]) (by kernel_rfl) (by simp) ?_
      refine rdy_val (i := 35) rfl rfl (some 52) rfl (.int .i64 6) (w7.alloc (.cells #[.int .i64 2, .int .i64 2, .int .i64 2, .int .i64 2, .int .i64 2, .int .i64 2] 31)) (by go_simp) hHeld (fun hHeld => ?_) rdy_nil
      simp only [Act.put, List.setIfInBounds_toArray, List.set_cons_succ, List.set_cons_zero]
      refine wpAnyH_done (by kernel_rfl) ?_ _
      refine NoPanic.normal ?_
      have hsix : (w7.alloc (.cells #[.int .i64 2, .int .i64 2, .int .i64 2, .int .i64 2, .int .i64 2, .int .i64 2] 31)).heap[w7.heap.size]? = some (.cells #[.int .i64 2, .int .i64 2, .int .i64 2, .int .i64 2, .int .i64 2, .int .i64 2] 31 (0, 0)) := heap_alloc_new _ _
      have BA : Below w.heap.size w (w7.alloc (.cells #[.int .i64 2, .int .i64 2, .int .i64 2, .int .i64 2, .int .i64 2, .int .i64 2] 31)) := B7.alloc B7.size _
      have hUA := hidz (hU7.out.below (show Below w7.heap.size w7 (w7.alloc (.cells #[.int .i64 2, .int .i64 2, .int .i64 2, .int .i64 2, .int .i64 2, .int .i64 2] 31)) from (Below.refl _ _).alloc (Nat.le_refl _) _))
      have HNA := hidz hHeld
      clear hHeld
      generalize (w7.alloc (.cells #[.int .i64 2, .int .i64 2, .int .i64 2, .int .i64 2, .int .i64 2, .int .i64 2] 31)) = wa at *
      have HSX := hidz hsix
      clear hsix
      generalize w7.heap.size = bs at *
      go_wp2
      go_loopw [53] (fun i wq => ∃ j : Nat, j ≤ 6 ∧ i = .int .i64 j ∧ wq = wa) (fun i wq => 6 - (intOf i).toNat)
      case atStart => exact ⟨0, Nat.zero_le _, rfl, rfl⟩
      case round =>
        obtain ⟨j, hj, rfl, rfl⟩ := hrel
        by_cases hj6 : j < 6
        · have cj := sixAt HSX.out j hj6
          go_wp2
          exact ⟨⟨j + 1, by omega, by go_num, by first | rfl | trivial⟩, by simp [intOf]; omega⟩
        · have hnj : ¬ (j : Int) < 6 := by omega
          have ca1 := HNA.out.field 1 (y := y1) rfl
          have ca4 := HNA.out.field 4 (y := y4) rfl
          go_wp2_with fail
          refine (read_un _ v hUA.out y4 y1).mono ?_
          rintro e wb ⟨rfl, bb⟩
          have BB := BA.trans (bb.mono BA.size)
          have HNB := hidz (HNA.out.below bb)
          have hUB := hidz (hUA.out.below bb)
          clear ca1 ca4
          go_wp2
          have HNc : Hid (NB wb.drew w.heap.size 25 #[y0, y1, y2, y3, y4, .slice a len cap, y6, y7]) := hidz HNB.out
          have BC : Below w.heap.size w wb.drew := BB.drew
          have hUC := hidz hUB.out.drew'
          refine wp_region_noPanic ?_
          refine wp_region_held_drew (S := (fun w' => NB w' w.heap.size 25 #[y0, y1, y2, y3, y4, .slice a len cap, y6, y7])) (by kernel_rfl) HNc.out (fun hHeld => ?_)
          generalize wb.drew = wc at *
          refine drawn_take (i := 0) (v := .slice none 0 0) (some 69) rfl rfl (by kernel_rfl) (by kernel_rfl) (by kernel_rfl) (fun _ _ _ h => h) (Or.inl ⟨by kernel_rfl, fun wq hw => by go_simp⟩) hHeld ?_
          simp only [Act.put, List.setIfInBounds_toArray, List.set_cons_succ, List.set_cons_zero]
          refine drawn_take (i := 1) (v := .int .i64 0) (some 70) rfl rfl (by kernel_rfl) (by kernel_rfl) (by kernel_rfl) (fun _ _ _ h => h) (Or.inl ⟨by kernel_rfl, fun wq hw => by go_simp⟩) hHeld ?_
          simp only [Act.put, List.setIfInBounds_toArray, List.set_cons_succ, List.set_cons_zero]
          refine drawn_take (i := 2) (v := v) (some 71) rfl rfl (by kernel_rfl) (by kernel_rfl) (by kernel_rfl) (fun _ _ _ h => h) (Or.inl ⟨by kernel_rfl, fun wq hw => by go_simp⟩) hHeld ?_
          simp only [Act.put, List.setIfInBounds_toArray, List.set_cons_succ, List.set_cons_zero]
          refine drawn_take (i := 6) (v := v) (some 75) rfl rfl (by kernel_rfl) (by kernel_rfl) (by kernel_rfl) (fun _ _ _ h => h) (Or.inl ⟨by kernel_rfl, fun wq hw => by go_simp⟩) hHeld ?_
          simp only [Act.put, List.setIfInBounds_toArray, List.set_cons_succ, List.set_cons_zero]
          refine drawn_take (i := 10) (v := v) (some 79) rfl rfl (by kernel_rfl) (by kernel_rfl) (by kernel_rfl) (fun _ _ _ h => h) (Or.inl ⟨by kernel_rfl, fun wq hw => by go_simp⟩) hHeld ?_
          simp only [Act.put, List.setIfInBounds_toArray, List.set_cons_succ, List.set_cons_zero]
          refine drawn_take (i := 11) (v := .pointer (some ⟨w.heap.size, 4, none⟩)) (some 80) rfl rfl (by kernel_rfl) (by kernel_rfl) (by kernel_rfl) (fun _ _ _ h => h) (Or.inl ⟨by kernel_rfl, fun wq hw => by go_simp⟩) hHeld ?_
          simp only [Act.put, List.setIfInBounds_toArray, List.set_cons_succ, List.set_cons_zero]
          refine drawn_take (i := 12) (v := y4) (some 81) rfl rfl (by kernel_rfl) (by kernel_rfl) (by kernel_rfl) (fun _ _ _ h => h) (Or.inl ⟨by kernel_rfl, fun wq hw => by have q := hw.field 4 (y := y4) rfl; go_simp⟩) hHeld ?_
          simp only [Act.put, List.setIfInBounds_toArray, List.set_cons_succ, List.set_cons_zero]
          refine drawn_take (i := 15) (v := v) (some 84) rfl rfl (by kernel_rfl) (by kernel_rfl) (by kernel_rfl) (fun _ _ _ h => h) (Or.inl ⟨by kernel_rfl, fun wq hw => by go_simp⟩) hHeld ?_
          simp only [Act.put, List.setIfInBounds_toArray, List.set_cons_succ, List.set_cons_zero]
          refine wpAnyH_ready (rs := [3]) (by kernel_rfl) (by simp) ?_
          refine rdy_call (i := 3) rfl rfl (some 72) rfl 15 #[v] (dn_List (ts := #[26]) (x0 := 71) (by kernel_rfl) (by kernel_rfl)) (fun r w' => r = .slice none 0 0 ∧ Below (wc).heap.size (wc) w') ((list_un wc v hUC.out).mono fun e w' h => ⟨_, h.1, rfl, h.2⟩) (fun r8 w8 hR => ?_) rdy_nil
          obtain ⟨rfl, b8⟩ := hR
          have B8 := BC.trans (b8.mono BC.size)
          have hU8 := hidz (hUC.out.below b8)
          refine ⟨hHeld.below b8, fun hHeld => ?_⟩
          simp only [Act.put, List.setIfInBounds_toArray, List.set_cons_succ, List.set_cons_zero]
          refine drawn_take (i := 4) (v := .int .i64 0) (some 73) rfl rfl (by kernel_rfl) (by kernel_rfl) (by kernel_rfl) (fun _ _ _ h => h) (Or.inl ⟨by kernel_rfl, fun wq hw => by go_simp⟩) hHeld ?_
          simp only [Act.put, List.setIfInBounds_toArray, List.set_cons_succ, List.set_cons_zero]
          refine drawn_take (i := 5) (v := .int .i64 0) (some 74) rfl rfl (by kernel_rfl) (by kernel_rfl) (by kernel_rfl) (fun _ _ _ h => h) (Or.inl ⟨by kernel_rfl, fun wq hw => by go_simp; rfl⟩) hHeld ?_
          simp only [Act.put, List.setIfInBounds_toArray, List.set_cons_succ, List.set_cons_zero]
          refine wpAnyH_ready (rs := [7]) (by kernel_rfl) (by simp) ?_
          refine rdy_call (i := 7) rfl rfl (some 76) rfl 16 #[v] (dn_Damaged (ts := #[26]) (x0 := 75) (by kernel_rfl) (by kernel_rfl)) (fun r w' => r = .slice none 0 0 ∧ Below (w8).heap.size (w8) w') ((damaged_un w8 v hU8.out).mono fun e w' h => ⟨_, h.1, rfl, h.2⟩) (fun r9 w9 hR => ?_) rdy_nil
          obtain ⟨rfl, b9⟩ := hR
          have B9 := B8.trans (b9.mono B8.size)
          have hU9 := hidz (hU8.out.below b9)
          refine ⟨hHeld.below b9, fun hHeld => ?_⟩
          simp only [Act.put, List.setIfInBounds_toArray, List.set_cons_succ, List.set_cons_zero]
          refine drawn_take (i := 8) (v := .int .i64 0) (some 77) rfl rfl (by kernel_rfl) (by kernel_rfl) (by kernel_rfl) (fun _ _ _ h => h) (Or.inl ⟨by kernel_rfl, fun wq hw => by go_simp⟩) hHeld ?_
          simp only [Act.put, List.setIfInBounds_toArray, List.set_cons_succ, List.set_cons_zero]
          refine drawn_take (i := 9) (v := .int .i64 0) (some 78) rfl rfl (by kernel_rfl) (by kernel_rfl) (by kernel_rfl) (fun _ _ _ h => h) (Or.inl ⟨by kernel_rfl, fun wq hw => by go_simp; rfl⟩) hHeld ?_
          simp only [Act.put, List.setIfInBounds_toArray, List.set_cons_succ, List.set_cons_zero]
          refine wpAnyH_ready (rs := [13]) (by kernel_rfl) (by simp) ?_
          refine rdy_call (i := 13) rfl rfl (some 82) rfl 17 #[v, y4] (dn_Extents (ts := #[26, 9]) (x0 := 79) (x1 := 81) (by kernel_rfl) (by kernel_rfl) (by kernel_rfl)) (fun r w' => r = .int .i64 0 ∧ Below (w9).heap.size (w9) w') ((extents_un w9 v hU9.out y4).mono fun e w' h => ⟨_, h.1, rfl, h.2⟩) (fun r10 w10 hR => ?_) rdy_nil
          obtain ⟨rfl, b10⟩ := hR
          have B10 := B9.trans (b10.mono B9.size)
          have hU10 := hidz (hU9.out.below b10)
          refine ⟨hHeld.below b10, fun hHeld => ?_⟩
          simp only [Act.put, List.setIfInBounds_toArray, List.set_cons_succ, List.set_cons_zero]
          refine drawn_take (i := 14) (v := .int .i64 0) (some 83) rfl rfl (by kernel_rfl) (by kernel_rfl) (by kernel_rfl) (fun _ _ _ h => h) (Or.inl ⟨by kernel_rfl, fun wq hw => by go_simp; rfl⟩) hHeld ?_
          simp only [Act.put, List.setIfInBounds_toArray, List.set_cons_succ, List.set_cons_zero]
          refine wpAnyH_ready (rs := [16]) (by kernel_rfl) (by simp) ?_
          refine rdy_call (i := 16) rfl rfl (some 85) rfl 18 #[v] (dn_Free (ts := #[26]) (x0 := 84) (by kernel_rfl) (by kernel_rfl)) (fun r w' => r = .int .i64 0 ∧ Below (w10).heap.size (w10) w') ((free_un w10 v hU10.out).mono fun e w' h => ⟨_, h.1, rfl, h.2⟩) (fun r11 w11 hR => ?_) rdy_nil
          obtain ⟨rfl, b11⟩ := hR
          have B11 := B10.trans (b11.mono B10.size)
          have hU11 := hidz (hU10.out.below b11)
          refine ⟨hHeld.below b11, fun hHeld => ?_⟩
          simp only [Act.put, List.setIfInBounds_toArray, List.set_cons_succ, List.set_cons_zero]
          refine drawn_take (i := 17) (v := .int .i64 0) (some 86) rfl rfl (by kernel_rfl) (by kernel_rfl) (by kernel_rfl) (fun _ _ _ h => h) (Or.inl ⟨by kernel_rfl, fun wq hw => by go_simp; rfl⟩) hHeld ?_
          simp only [Act.put, List.setIfInBounds_toArray, List.set_cons_succ, List.set_cons_zero]
          refine drawn_take (i := 18) (v := .bool false) (some 87) rfl rfl (by kernel_rfl) (by kernel_rfl) (by kernel_rfl) (fun _ _ _ h => h) (Or.inl ⟨by kernel_rfl, fun wq hw => by go_simp⟩) hHeld ?_
          simp only [Act.put, List.setIfInBounds_toArray, List.set_cons_succ, List.set_cons_zero]
          refine drawn_take (i := 19) (v := .bool false) (some 88) rfl rfl (by kernel_rfl) (by kernel_rfl) (by kernel_rfl) (fun _ _ _ h => h) (Or.inl ⟨by kernel_rfl, fun wq hw => by go_simp⟩) hHeld ?_
          simp only [Act.put, List.setIfInBounds_toArray, List.set_cons_succ, List.set_cons_zero]
          refine drawn_take (i := 20) (v := .int .i64 2) (some 89) rfl rfl (by kernel_rfl) (by kernel_rfl) (by kernel_rfl) (fun _ _ _ h => h) (Or.inl ⟨by kernel_rfl, fun wq hw => by go_simp⟩) hHeld ?_
          simp only [Act.put, List.setIfInBounds_toArray, List.set_cons_succ, List.set_cons_zero]
          refine drawn_take (i := 21) (v := .bool false) (some 90) rfl rfl (by kernel_rfl) (by kernel_rfl) (by kernel_rfl) (fun _ _ _ h => h) (Or.inl ⟨by kernel_rfl, fun wq hw => by go_simp⟩) hHeld ?_
          simp only [Act.put, List.setIfInBounds_toArray, List.set_cons_succ, List.set_cons_zero]
          refine drawn_take (i := 22) (v := .bool false) (some 91) rfl rfl (by kernel_rfl) (by kernel_rfl) (by kernel_rfl) (fun _ _ _ h => h) (Or.inl ⟨by kernel_rfl, fun wq hw => by go_simp⟩) hHeld ?_
          simp only [Act.put, List.setIfInBounds_toArray, List.set_cons_succ, List.set_cons_zero]
          refine drawn_take (i := 23) (v := .bool false) (some 92) rfl rfl (by kernel_rfl) (by kernel_rfl) (by kernel_rfl) (fun _ _ _ h => h) (Or.inl ⟨by kernel_rfl, fun wq hw => by go_simp⟩) hHeld ?_
          simp only [Act.put, List.setIfInBounds_toArray, List.set_cons_succ, List.set_cons_zero]
          refine drawn_take (i := 24) (v := v) (some 93) rfl rfl (by kernel_rfl) (by kernel_rfl) (by kernel_rfl) (fun _ _ _ h => h) (Or.inl ⟨by kernel_rfl, fun wq hw => by go_simp⟩) hHeld ?_
          simp only [Act.put, List.setIfInBounds_toArray, List.set_cons_succ, List.set_cons_zero]
          refine wpAnyH_ready (rs := [25]) (by kernel_rfl) (by simp) ?_
          refine rdy_callg (i := 25) rfl (by kernel_rfl) (some 94) rfl 19 #[v] (dn_Copy (ts := #[26]) (x0 := 93) (by kernel_rfl) (by kernel_rfl)) (fun r w' => r = .pointer none ∧ Below (w11).heap.size (w11) w') ((copy_un w11 v hU11.out).mono fun e w' h => ⟨_, h.1, rfl, h.2⟩) (fun r12 w12 hR => ?_) rdy_nil
          obtain ⟨rfl, b12⟩ := hR
          have B12 := B11.trans (b12.mono B11.size)
          have hU12 := hidz (hU11.out.below b12)
          refine ⟨hHeld.below b12, fun hHeld => ?_⟩
          simp only [Act.put, List.setIfInBounds_toArray, List.set_cons_succ, List.set_cons_zero]
          refine drawn_take (i := 26) (v := .bool false) (some 95) rfl rfl (by kernel_rfl) (by kernel_rfl) (by kernel_rfl) (fun _ _ _ h => h) (Or.inl ⟨by kernel_rfl, fun wq hw => by go_simp⟩) hHeld ?_
          simp only [Act.put, List.setIfInBounds_toArray, List.set_cons_succ, List.set_cons_zero]
          refine drawn_take (i := 27) (v := .bool false) (some 96) rfl rfl (by kernel_rfl) (by kernel_rfl) (by kernel_rfl) (fun _ _ _ h => h) (Or.inl ⟨by kernel_rfl, fun wq hw => by go_simp⟩) hHeld ?_
          simp only [Act.put, List.setIfInBounds_toArray, List.set_cons_succ, List.set_cons_zero]
          refine wpAnyH_done (by kernel_rfl) ?_ _
          refine NoPanic.normal ?_
          have HNZ := hidz hHeld
          clear hHeld
          go_wp2
          exact ⟨⟨k + 1, by omega, by go_num, HNZ, B12⟩, by simp [intOf]; omega⟩
    · have hnl : ¬ (k : Int) < 2 := by omega
      go_wp2_with fail
      refine (awake3_any _).mono ?_
      rintro e w1 ⟨rfl, b1⟩
      go_wp2
      go_ret
      exact ⟨rfl, hbl.trans (b1.mono hbl.size)⟩
end Go.Proofs.Ytekfonjlhjjhbaa
