/- MatchNot: the law. -/
import Derived.Test.YtobjpofdchjciaaDoorMatH
import Derived.Test.YtobjpofdchjciaaDoorMatchEmptyWalk
namespace Go.Proofs.YtobjpofdchjciaaDoor
open Go.RowKit Go.Joins
set_option linter.unusedVariables false
theorem mss_one (w : World) (b : Nat) (m : Mat) (t : TypeId) (fr : Nat × Nat) (h : w.heap[b]? = some (.cells #[.int .i64 m.k, .string m.n, .string m.v] t fr)) (h1 : m.n.size ≤ maxLen) (h2 : m.v.size ≤ maxLen) : Mss w (some ⟨b, 0, none⟩) 1 [m] := by
  refine ⟨rfl, by decide, (fun h => by cases h), fun x hx => by rw [List.mem_singleton] at hx; rw [hx]; exact ⟨h1, h2⟩, ?_⟩
  intro x hx j y hy
  cases hx
  match j, hy with
  | 0, hy =>
    simp at hy
    subst hy
    rw [ladd_none, ladd_none, ladd_none]
    exact ⟨by rw [cell_of_row _ _ _ _ _ _ h]; rfl, by rw [cell_of_row _ _ _ _ _ _ h]; rfl, by rw [cell_of_row _ _ _ _ _ _ h]; rfl⟩
theorem canL_not (n v : ByteArray) : canL [⟨1, n, v⟩] = canL [⟨2, n, v⟩] ∧ canL [⟨3, n, v⟩] = canL [⟨4, n, v⟩] := by
  constructor
  · simp [canL, canM, valM]
  · simp [canL, canM, valM]
/-- Two matchers, one behind the other. -/
def TwoM (w : World) (A : Nat) (k1 k2 : Int) (n v : ByteArray) : Prop := w.heap[A]? = some (.cells #[.int .i64 k1, .string n, .string v] 24 (0, 0)) ∧ w.heap[A + 1]? = some (.cells #[.int .i64 k2, .string n, .string v] 24 (0, 0))
theorem TwoM.below {w w' : World} {A : Nat} {k1 k2 : Int} {n v : ByteArray} (h : TwoM w A k1 k2 n v) (hb : Below w.heap.size w w') : TwoM w' A k1 k2 n v :=
  ⟨(hb.block _ (Array.getElem?_eq_some_iff.1 h.1).1).trans h.1, (hb.block _ (Array.getElem?_eq_some_iff.1 h.2).1).trans h.2⟩
theorem TwoM.new (w : World) (k1 k2 : Int) (n v : ByteArray) : TwoM ((w.alloc (.cells #[.int .i64 k1, .string n, .string v] 24)).alloc (.cells #[.int .i64 k2, .string n, .string v] 24)) w.heap.size k1 k2 n v := by
  refine ⟨?_, ?_⟩
  · rw [Below.heap_alloc _ _ _ (by simp)]
    exact heap_alloc_new w _
  · have h := heap_alloc_new (w.alloc (.cells #[.int .i64 k1, .string n, .string v] 24)) (.cells #[.int .i64 k2, .string n, .string v] 24)
    rw [show (w.alloc (.cells #[.int .i64 k1, .string n, .string v] 24)).heap.size = w.heap.size + 1 by simp] at h
    exact h
section
variable {P : Program} {md : Region.Mode} {ops : Array Oper} {Q : Exit → Act → World → Prop} {S : World → Prop} {fuel : Nat} {listed : Array Bool} {a : Act} {w : World} {i : Nat} {o : Oper} {rs : List Nat}
theorem rdy_valw (ho : ops[i]? = some o) (hw : Region.wanted o (yielded ops a.tmps) = true) (dst : Option Nat) (hd : o.dst = dst) (v : Value) (w' : World) (hrun : (execOp a.eval o).run P w = .ok (.value v) w') (hS : S w')
    (h : S w' → wpAnyH P md ops Q S fuel (listed.setIfInBounds i true) (a.put dst v) w') (hs : AllReadyH P md ops Q S fuel listed a w rs) : AllReadyH P md ops Q S fuel listed a w (i :: rs) := by
  subst hd
  refine AllReadyH.cons ho (fun K hK => ?_) hs
  rw [if_pos hw]
  unfold Oper.wp
  rw [hrun]
  exact hK _ _ hS h
end
theorem mn_One {o : Oper} {a : Act} {w : World} {ts : Array TypeId} {x0 x1 : Nat} {v0 v1 : Value} (ho : o.op = Op.call { callee := Callee.value (Operand.func 6), args := #[.tmp x0, .tmp x1], argTypes := ts }) (hx0 : a.eval (.tmp x0) = v0) (hx1 : a.eval (.tmp x1) = v1) : (execOp a.eval o).run Tryd.prog w = .ok (.enter 6 #[v0, v1]) w := by
  simp [go_sem, execOp, ho, resolve, invoke]
  exact ⟨by simpa [Act.eval] using hx0, by simpa [Act.eval] using hx1⟩
theorem mn_Can {o : Oper} {a : Act} {w : World} {ts : Array TypeId} {x0 : Nat} {v0 : Value} (ho : o.op = Op.call { callee := Callee.value (Operand.func 7), args := #[.tmp x0], argTypes := ts }) (hx0 : a.eval (.tmp x0) = v0) : (execOp a.eval o).run Tryd.prog w = .ok (.enter 7 #[v0]) w := by
  simp [go_sem, execOp, ho, resolve, invoke]
  simpa [Act.eval] using hx0
theorem mn_awake {o : Oper} {a : Act} {w : World} (ho : o.op = Op.call { callee := Callee.value (Operand.func 8), args := #[], argTypes := #[] }) : (execOp a.eval o).run Tryd.prog w = .ok (.enter 8 #[]) w := by
  simp [go_sem, execOp, ho, resolve, invoke]
set_option maxHeartbeats 8000000 in
set_option maxRecDepth 100000 in
theorem matchNot_walk (n v : ByteArray) (la : Option Addr) (llen lcap : Nat) (ls : List Lab) (like : Bool) (w : World) (ht : SignTab w) (hL : Ls w la llen ls) (hr : llen ≤ 140737488355328) (hsz : ∀ x ∈ ls, x.2.size ≤ 140737488355328) (hn : n.size ≤ maxLen) (hv : v.size ≤ maxLen) :
    Calls Tryd.prog 3 #[.string n, .string v, .slice la llen lcap, .bool like] w fun e w' => e = .returned (.bool true) ∧ Below w.heap.size w w' := by
  have hG := getL_size ls n _ hsz
  cases like with
  | false =>
    obtain ⟨ob, hob⟩ : ∃ ob, ob = oneM ⟨1, n, v⟩ ls := ⟨_, rfl⟩
    obtain ⟨cb, hcb⟩ : ∃ cb, cb = canL [⟨1, n, v⟩] := ⟨_, rfl⟩
    have ho2 : Hid (oneM ⟨2, n, v⟩ ls = !ob) := hidn (by rw [hob]; rfl)
    have hc2 : Hid (canL [⟨2, n, v⟩] = cb) := hidn (by rw [hcb]; exact ((canL_not n v).1).symm)
    have ho1 := hidn hob.symm
    have hc1 := hidn hcb.symm
    have HO1 := hidn (fun (w' : World) (hl : Ls w' la llen ls) => one_is ⟨1, n, v⟩ la llen lcap ls w' hl hr rfl)
    have HO2 := hidn (fun (w' : World) (hl : Ls w' la llen ls) => one_not ⟨2, n, v⟩ la llen lcap ls w' hl hr rfl)
    rw [ho1.out] at HO1
    rw [ho2.out] at HO2
    have HC1 := hidn (fun (w' : World) (b : Nat) (h : Mss w' (some ⟨b, 0, none⟩) 1 [⟨1, n, v⟩]) => canM_any (some ⟨b, 0, none⟩) 1 1 [⟨1, n, v⟩] w' h)
    have HC2 := hidn (fun (w' : World) (b : Nat) (h : Mss w' (some ⟨b, 0, none⟩) 1 [⟨2, n, v⟩]) => canM_any (some ⟨b, 0, none⟩) 1 1 [⟨2, n, v⟩] w' h)
    rw [hc1.out] at HC1
    rw [hc2.out] at HC2
    have HM1 := hidn (fun (w' : World) (b : Nat) (h : w'.heap[b]? = some (.cells #[.int .i64 1, .string n, .string v] 24 (0, 0))) => mss_one w' b ⟨1, n, v⟩ _ _ h hn hv)
    have HM2 := hidn (fun (w' : World) (b : Nat) (h : w'.heap[b]? = some (.cells #[.int .i64 2, .string n, .string v] 24 (0, 0))) => mss_one w' b ⟨2, n, v⟩ _ _ h hn hv)
    have HL := hidn hL
    have HT := hidn ht
    clear hob hcb ho1 ho2 hc1 hc2 hG hL ht hsz hn hv hr
    go_enter Tryd.func3, Tryd.ntmps3
    go_wp2_with fail
    have HT2 := TwoM.new w 1 2 n v
    have B0 : Below w.heap.size w ((w.alloc (.cells #[.int .i64 1, .string n, .string v] 24)).alloc (.cells #[.int .i64 2, .string n, .string v] 24)) := ((Below.refl _ w).alloc (Nat.le_refl _) _).alloc (by simp) _
    generalize (w.alloc (.cells #[.int .i64 1, .string n, .string v] 24)).alloc (.cells #[.int .i64 2, .string n, .string v] 24) = wa at *
    have HTd : TwoM wa.drew w.heap.size 1 2 n v := HT2
    have BD : Below w.heap.size w wa.drew := B0.drew
    generalize hbase : w.heap.size = bs at HTd ⊢
    have HBS := hidn hbase
    clear hbase HT2
    refine wp_region_noPanic ?_
    refine wp_region_held_drew (S := fun w' => TwoM w' bs 1 2 n v) (by kernel_rfl) HTd (fun hHeld => ?_)
    generalize wa.drew = wd at *
    refine drawn_take (i := 0) (v := .agg #[.int .i64 1, .string n, .string v]) (some 22) rfl rfl (by kernel_rfl) (by kernel_rfl) (by kernel_rfl) (fun _ _ _ h => h) (Or.inl ⟨by kernel_rfl, fun wq hw => by have q0 : wq.cell? ⟨bs, 0, none⟩ = some (.int .i64 1) := cell_of_row _ _ _ _ _ _ hw.1; have q1 : wq.cell? ⟨bs, 1, none⟩ = some (.string n) := cell_of_row _ _ _ _ _ _ hw.1; have q2 : wq.cell? ⟨bs, 2, none⟩ = some (.string v) := cell_of_row _ _ _ _ _ _ hw.1; go_simp⟩) hHeld ?_
    simp only [Act.put, List.setIfInBounds_toArray, List.set_cons_succ, List.set_cons_zero]
    refine drawn_take (i := 1) (v := .slice la llen lcap) (some 23) rfl rfl (by kernel_rfl) (by kernel_rfl) (by kernel_rfl) (fun _ _ _ h => h) (Or.inl ⟨by kernel_rfl, fun wq hw => by go_simp⟩) hHeld ?_
    simp only [Act.put, List.setIfInBounds_toArray, List.set_cons_succ, List.set_cons_zero]
    refine drawn_take (i := 3) (v := .agg #[.int .i64 2, .string n, .string v]) (some 25) rfl rfl (by kernel_rfl) (by kernel_rfl) (by kernel_rfl) (fun _ _ _ h => h) (Or.inl ⟨by kernel_rfl, fun wq hw => by have q0 : wq.cell? ⟨bs + 1, 0, none⟩ = some (.int .i64 2) := cell_of_row _ _ _ _ _ _ hw.2; have q1 : wq.cell? ⟨bs + 1, 1, none⟩ = some (.string n) := cell_of_row _ _ _ _ _ _ hw.2; have q2 : wq.cell? ⟨bs + 1, 2, none⟩ = some (.string v) := cell_of_row _ _ _ _ _ _ hw.2; go_simp⟩) hHeld ?_
    simp only [Act.put, List.setIfInBounds_toArray, List.set_cons_succ, List.set_cons_zero]
    refine drawn_take (i := 4) (v := .slice la llen lcap) (some 26) rfl rfl (by kernel_rfl) (by kernel_rfl) (by kernel_rfl) (fun _ _ _ h => h) (Or.inl ⟨by kernel_rfl, fun wq hw => by go_simp⟩) hHeld ?_
    simp only [Act.put, List.setIfInBounds_toArray, List.set_cons_succ, List.set_cons_zero]
    refine wpAnyH_ready (rs := [2]) (by kernel_rfl) (by simp) ?_
    refine rdy_call (i := 2) rfl rfl (some 24) rfl 6 #[.agg #[.int .i64 1, .string n, .string v], .slice la llen lcap] (mn_One (ts := #[24, 22]) (x0 := 22) (x1 := 23) (by kernel_rfl) (by kernel_rfl) (by kernel_rfl)) (fun r w' => r = .bool ob ∧ Below (wd).heap.size (wd) w') ((HO1.out _ (HL.out.below BD)).mono fun e w' h => ⟨_, h.1, rfl, h.2⟩) (fun r w1 hR => ?_) rdy_nil
    obtain ⟨rfl, b1⟩ := hR
    have B1 := BD.trans (b1.mono BD.size)
    refine ⟨hHeld.below b1, fun hHeld => ?_⟩
    simp only [Act.put, List.setIfInBounds_toArray, List.set_cons_succ, List.set_cons_zero]
    refine wpAnyH_ready (rs := [5]) (by kernel_rfl) (by simp) ?_
    refine rdy_call (i := 5) rfl rfl (some 27) rfl 6 #[.agg #[.int .i64 2, .string n, .string v], .slice la llen lcap] (mn_One (ts := #[24, 22]) (x0 := 25) (x1 := 26) (by kernel_rfl) (by kernel_rfl) (by kernel_rfl)) (fun r w' => r = .bool (!ob) ∧ Below (w1).heap.size (w1) w') ((HO2.out _ (HL.out.below B1)).mono fun e w' h => ⟨_, h.1, rfl, h.2⟩) (fun r w2 hR => ?_) rdy_nil
    obtain ⟨rfl, b2⟩ := hR
    have B2 := B1.trans (b2.mono B1.size)
    refine ⟨hHeld.below b2, fun hHeld => ?_⟩
    simp only [Act.put, List.setIfInBounds_toArray, List.set_cons_succ, List.set_cons_zero]
    refine drawn_take (i := 6) (v := .bool true) (some 28) rfl rfl (by kernel_rfl) (by kernel_rfl) (by kernel_rfl) (fun _ _ _ h => h) (Or.inl ⟨by kernel_rfl, fun wq hw => by cases ob <;> go_simp⟩) hHeld ?_
    simp only [Act.put, List.setIfInBounds_toArray, List.set_cons_succ, List.set_cons_zero]
    refine drawn_take (i := 7) (v := .bool true) (some 29) rfl rfl (by kernel_rfl) (by kernel_rfl) (by kernel_rfl) (fun _ _ _ h => h) (Or.inl ⟨by kernel_rfl, fun wq hw => by go_simp⟩) hHeld ?_
    simp only [Act.put, List.setIfInBounds_toArray, List.set_cons_succ, List.set_cons_zero]
    refine drawn_take (i := 8) (v := .agg #[.int .i64 1, .string n, .string v]) (some 30) rfl rfl (by kernel_rfl) (by kernel_rfl) (by kernel_rfl) (fun _ _ _ h => h) (Or.inl ⟨by kernel_rfl, fun wq hw => by have q0 : wq.cell? ⟨bs, 0, none⟩ = some (.int .i64 1) := cell_of_row _ _ _ _ _ _ hw.1; have q1 : wq.cell? ⟨bs, 1, none⟩ = some (.string n) := cell_of_row _ _ _ _ _ _ hw.1; have q2 : wq.cell? ⟨bs, 2, none⟩ = some (.string v) := cell_of_row _ _ _ _ _ _ hw.1; go_simp⟩) hHeld ?_
    simp only [Act.put, List.setIfInBounds_toArray, List.set_cons_succ, List.set_cons_zero]
    refine drawn_take (i := 11) (v := .agg #[.int .i64 2, .string n, .string v]) (some 33) rfl rfl (by kernel_rfl) (by kernel_rfl) (by kernel_rfl) (fun _ _ _ h => h) (Or.inl ⟨by kernel_rfl, fun wq hw => by have q0 : wq.cell? ⟨bs + 1, 0, none⟩ = some (.int .i64 2) := cell_of_row _ _ _ _ _ _ hw.2; have q1 : wq.cell? ⟨bs + 1, 1, none⟩ = some (.string n) := cell_of_row _ _ _ _ _ _ hw.2; have q2 : wq.cell? ⟨bs + 1, 2, none⟩ = some (.string v) := cell_of_row _ _ _ _ _ _ hw.2; go_simp⟩) hHeld ?_
    simp only [Act.put, List.setIfInBounds_toArray, List.set_cons_succ, List.set_cons_zero]
    refine wpAnyH_ready (rs := [9, 12]) (by kernel_rfl) (by simp) ?_
    refine rdy_valw (i := 9) rfl (by kernel_rfl) (some 31) rfl (.slice (some ⟨(w2).heap.size, 0, none⟩) 1 1) ((w2).alloc (.cells #[.int .i64 1, .string n, .string v] 24)) (by go_simp) (hHeld.below ((Below.refl _ _).alloc (Nat.le_refl _) _)) (fun hHeld => ?_) (rdy_valw (i := 12) rfl (by kernel_rfl) (some 34) rfl (.slice (some ⟨(w2).heap.size, 0, none⟩) 1 1) ((w2).alloc (.cells #[.int .i64 2, .string n, .string v] 24)) (by go_simp) (hHeld.below ((Below.refl _ _).alloc (Nat.le_refl _) _)) (fun hHeld => ?_) rdy_nil)
    · have B3 : Below w.heap.size w (w2.alloc (.cells #[.int .i64 1, .string n, .string v] 24)) := B2.alloc B2.size _
      have m3 := HM1.out _ _ (heap_alloc_new w2 (.cells #[.int .i64 1, .string n, .string v] 24))
      simp only [Act.put, List.setIfInBounds_toArray, List.set_cons_succ, List.set_cons_zero]
      refine wpAnyH_ready (rs := [10, 12]) (by kernel_rfl) (by simp) ?_
      refine rdy_callw (i := 10) rfl (by kernel_rfl) (some 32) rfl 7 #[.slice (some ⟨w2.heap.size, 0, none⟩) 1 1] (mn_Can (ts := #[27]) (x0 := 31) (by kernel_rfl) (by kernel_rfl)) (fun r w' => r = .bool cb ∧ Below (w2.alloc (.cells #[.int .i64 1, .string n, .string v] 24)).heap.size (w2.alloc (.cells #[.int .i64 1, .string n, .string v] 24)) w') ((HC1.out _ _ m3).mono fun e w' h => ⟨_, h.1, rfl, h.2⟩) (fun r w4 hR => ?_) (rdy_valw (i := 12) rfl (by kernel_rfl) (some 34) rfl (.slice (some ⟨(w2.alloc (.cells #[.int .i64 1, .string n, .string v] 24)).heap.size, 0, none⟩) 1 1) ((w2.alloc (.cells #[.int .i64 1, .string n, .string v] 24)).alloc (.cells #[.int .i64 2, .string n, .string v] 24)) (by go_simp) (hHeld.below ((Below.refl _ _).alloc (Nat.le_refl _) _)) (fun hHeld => ?_) rdy_nil)
      · obtain ⟨rfl, b4⟩ := hR
        have B4 := B3.trans (b4.mono B3.size)
        refine ⟨hHeld.below b4, fun hHeld => ?_⟩
        simp only [Act.put, List.setIfInBounds_toArray, List.set_cons_succ, List.set_cons_zero]
        refine wpAnyH_ready (rs := [12]) (by kernel_rfl) (by simp) ?_
        refine rdy_valw (i := 12) rfl (by kernel_rfl) (some 34) rfl (.slice (some ⟨(w4).heap.size, 0, none⟩) 1 1) ((w4).alloc (.cells #[.int .i64 2, .string n, .string v] 24)) (by go_simp) (hHeld.below ((Below.refl _ _).alloc (Nat.le_refl _) _)) (fun hHeld => ?_) rdy_nil
        have B5 : Below w.heap.size w ((w4).alloc (.cells #[.int .i64 2, .string n, .string v] 24)) := B4.alloc B4.size _
        simp only [Act.put, List.setIfInBounds_toArray, List.set_cons_succ, List.set_cons_zero]
        have m5 := HM2.out _ _ (heap_alloc_new w4 (.cells #[.int .i64 2, .string n, .string v] 24))
        refine wpAnyH_ready (rs := [13]) (by kernel_rfl) (by simp) ?_
        refine rdy_callw (i := 13) rfl (by kernel_rfl) (some 35) rfl 7 #[.slice (some ⟨w4.heap.size, 0, none⟩) 1 1] (mn_Can (ts := #[27]) (x0 := 34) (by kernel_rfl) (by kernel_rfl)) (fun r w' => r = .bool cb ∧ Below (w4.alloc (.cells #[.int .i64 2, .string n, .string v] 24)).heap.size (w4.alloc (.cells #[.int .i64 2, .string n, .string v] 24)) w') ((HC2.out _ _ m5).mono fun e w' h => ⟨_, h.1, rfl, h.2⟩) (fun r w6 hR => ?_) rdy_nil
        obtain ⟨rfl, b6⟩ := hR
        have B6 := B5.trans (b6.mono B5.size)
        refine ⟨hHeld.below b6, fun hHeld => ?_⟩
        simp only [Act.put, List.setIfInBounds_toArray, List.set_cons_succ, List.set_cons_zero]
        refine drawn_take (i := 14) (v := .bool true) (some 36) rfl rfl (by kernel_rfl) (by kernel_rfl) (by kernel_rfl) (fun _ _ _ h => h) (Or.inl ⟨by kernel_rfl, fun wq hw => by cases cb <;> go_simp⟩) hHeld ?_
        simp only [Act.put, List.setIfInBounds_toArray, List.set_cons_succ, List.set_cons_zero]
        refine drawn_take (i := 15) (v := .bool true) (some 37) rfl rfl (by kernel_rfl) (by kernel_rfl) (by kernel_rfl) (fun _ _ _ h => h) (Or.inl ⟨by kernel_rfl, fun wq hw => by go_simp⟩) hHeld ?_
        simp only [Act.put, List.setIfInBounds_toArray, List.set_cons_succ, List.set_cons_zero]
        refine drawn_take (i := 16) (v := .bool true) (some 38) rfl rfl (by kernel_rfl) (by kernel_rfl) (by kernel_rfl) (fun _ _ _ h => h) (Or.inl ⟨by kernel_rfl, fun wq hw => by go_simp⟩) hHeld ?_
        simp only [Act.put, List.setIfInBounds_toArray, List.set_cons_succ, List.set_cons_zero]
        refine wpAnyH_ready (rs := [17]) (by kernel_rfl) (by simp) ?_
        refine rdy_callw (i := 17) rfl (by kernel_rfl) (some 39) rfl 8 #[] (mn_awake (by kernel_rfl)) (fun r w' => r = .bool true ∧ Below (w6).heap.size (w6) w') ((awake9 _ (HT.out.below B6)).mono fun e w' h => ⟨_, h.1, rfl, h.2⟩) (fun r w9 hR => ?_) rdy_nil
        obtain ⟨rfl, b9⟩ := hR
        have B9 := B6.trans (b9.mono B6.size)
        refine ⟨hHeld.below b9, fun hHeld => ?_⟩
        simp only [Act.put, List.setIfInBounds_toArray, List.set_cons_succ, List.set_cons_zero]
        refine drawn_take (i := 18) (v := .bool true) (some 40) rfl rfl (by kernel_rfl) (by kernel_rfl) (by kernel_rfl) (fun _ _ _ h => h) (Or.inl ⟨by kernel_rfl, fun wq hw => by go_simp⟩) hHeld ?_
        simp only [Act.put, List.setIfInBounds_toArray, List.set_cons_succ, List.set_cons_zero]
        refine drawn_take (i := 19) (v := .bool true) (some 8) rfl rfl (by kernel_rfl) (by kernel_rfl) (by kernel_rfl) (fun _ _ _ h => h) (Or.inl ⟨by kernel_rfl, fun wq hw => by go_simp⟩) hHeld ?_
        simp only [Act.put, List.setIfInBounds_toArray, List.set_cons_succ, List.set_cons_zero]
        refine wpAnyH_done (by kernel_rfl) ?_ _
        refine NoPanic.normal ?_
        clear hHeld
        go_wp2_with fail
        exact bodyPost_ret (v := .bool true) (by simp [results, Tryd.results3, go_sem]) rfl ⟨rfl, B9⟩
      · have B4 : Below w.heap.size w ((w2.alloc (.cells #[.int .i64 1, .string n, .string v] 24)).alloc (.cells #[.int .i64 2, .string n, .string v] 24)) := B3.alloc B3.size _
        have m4 := HM2.out _ _ (heap_alloc_new (w2.alloc (.cells #[.int .i64 1, .string n, .string v] 24)) (.cells #[.int .i64 2, .string n, .string v] 24))
        have m3' := m3.below (show Below (w2.alloc (.cells #[.int .i64 1, .string n, .string v] 24)).heap.size (w2.alloc (.cells #[.int .i64 1, .string n, .string v] 24)) ((w2.alloc (.cells #[.int .i64 1, .string n, .string v] 24)).alloc (.cells #[.int .i64 2, .string n, .string v] 24)) from (Below.refl _ _).alloc (Nat.le_refl _) _)
        simp only [Act.put, List.setIfInBounds_toArray, List.set_cons_succ, List.set_cons_zero]
        refine wpAnyH_ready (rs := [10]) (by kernel_rfl) (by simp) ?_
        refine rdy_callw (i := 10) rfl (by kernel_rfl) (some 32) rfl 7 #[.slice (some ⟨w2.heap.size, 0, none⟩) 1 1] (mn_Can (ts := #[27]) (x0 := 31) (by kernel_rfl) (by kernel_rfl)) (fun r w' => r = .bool cb ∧ Below ((w2.alloc (.cells #[.int .i64 1, .string n, .string v] 24)).alloc (.cells #[.int .i64 2, .string n, .string v] 24)).heap.size ((w2.alloc (.cells #[.int .i64 1, .string n, .string v] 24)).alloc (.cells #[.int .i64 2, .string n, .string v] 24)) w') ((HC1.out _ _ m3').mono fun e w' h => ⟨_, h.1, rfl, h.2⟩) (fun r w5 hR => ?_) rdy_nil
        obtain ⟨rfl, b5⟩ := hR
        have B5 := B4.trans (b5.mono B4.size)
        refine ⟨hHeld.below b5, fun hHeld => ?_⟩
        simp only [Act.put, List.setIfInBounds_toArray, List.set_cons_succ, List.set_cons_zero]
        refine wpAnyH_ready (rs := [13]) (by kernel_rfl) (by simp) ?_
        refine rdy_callw (i := 13) rfl (by kernel_rfl) (some 35) rfl 7 #[.slice (some ⟨(w2.alloc (.cells #[.int .i64 1, .string n, .string v] 24)).heap.size, 0, none⟩) 1 1] (mn_Can (ts := #[27]) (x0 := 34) (by kernel_rfl) (by kernel_rfl)) (fun r w' => r = .bool cb ∧ Below (w5).heap.size (w5) w') ((HC2.out _ _ (m4.below b5)).mono fun e w' h => ⟨_, h.1, rfl, h.2⟩) (fun r w6 hR => ?_) rdy_nil
        obtain ⟨rfl, b6⟩ := hR
        have B6 := B5.trans (b6.mono B5.size)
        refine ⟨hHeld.below b6, fun hHeld => ?_⟩
        simp only [Act.put, List.setIfInBounds_toArray, List.set_cons_succ, List.set_cons_zero]
        refine drawn_take (i := 14) (v := .bool true) (some 36) rfl rfl (by kernel_rfl) (by kernel_rfl) (by kernel_rfl) (fun _ _ _ h => h) (Or.inl ⟨by kernel_rfl, fun wq hw => by cases cb <;> go_simp⟩) hHeld ?_
        simp only [Act.put, List.setIfInBounds_toArray, List.set_cons_succ, List.set_cons_zero]
        refine drawn_take (i := 15) (v := .bool true) (some 37) rfl rfl (by kernel_rfl) (by kernel_rfl) (by kernel_rfl) (fun _ _ _ h => h) (Or.inl ⟨by kernel_rfl, fun wq hw => by go_simp⟩) hHeld ?_
        simp only [Act.put, List.setIfInBounds_toArray, List.set_cons_succ, List.set_cons_zero]
        refine drawn_take (i := 16) (v := .bool true) (some 38) rfl rfl (by kernel_rfl) (by kernel_rfl) (by kernel_rfl) (fun _ _ _ h => h) (Or.inl ⟨by kernel_rfl, fun wq hw => by go_simp⟩) hHeld ?_
        simp only [Act.put, List.setIfInBounds_toArray, List.set_cons_succ, List.set_cons_zero]
        refine wpAnyH_ready (rs := [17]) (by kernel_rfl) (by simp) ?_
        refine rdy_callw (i := 17) rfl (by kernel_rfl) (some 39) rfl 8 #[] (mn_awake (by kernel_rfl)) (fun r w' => r = .bool true ∧ Below (w6).heap.size (w6) w') ((awake9 _ (HT.out.below B6)).mono fun e w' h => ⟨_, h.1, rfl, h.2⟩) (fun r w9 hR => ?_) rdy_nil
        obtain ⟨rfl, b9⟩ := hR
        have B9 := B6.trans (b9.mono B6.size)
        refine ⟨hHeld.below b9, fun hHeld => ?_⟩
        simp only [Act.put, List.setIfInBounds_toArray, List.set_cons_succ, List.set_cons_zero]
        refine drawn_take (i := 18) (v := .bool true) (some 40) rfl rfl (by kernel_rfl) (by kernel_rfl) (by kernel_rfl) (fun _ _ _ h => h) (Or.inl ⟨by kernel_rfl, fun wq hw => by go_simp⟩) hHeld ?_
        simp only [Act.put, List.setIfInBounds_toArray, List.set_cons_succ, List.set_cons_zero]
        refine drawn_take (i := 19) (v := .bool true) (some 8) rfl rfl (by kernel_rfl) (by kernel_rfl) (by kernel_rfl) (fun _ _ _ h => h) (Or.inl ⟨by kernel_rfl, fun wq hw => by go_simp⟩) hHeld ?_
        simp only [Act.put, List.setIfInBounds_toArray, List.set_cons_succ, List.set_cons_zero]
        refine wpAnyH_done (by kernel_rfl) ?_ _
        refine NoPanic.normal ?_
        clear hHeld
        go_wp2_with fail
        exact bodyPost_ret (v := .bool true) (by simp [results, Tryd.results3, go_sem]) rfl ⟨rfl, B9⟩
    · have B3 : Below w.heap.size w (w2.alloc (.cells #[.int .i64 2, .string n, .string v] 24)) := B2.alloc B2.size _
      have m3 := HM2.out _ _ (heap_alloc_new w2 (.cells #[.int .i64 2, .string n, .string v] 24))
      simp only [Act.put, List.setIfInBounds_toArray, List.set_cons_succ, List.set_cons_zero]
      refine wpAnyH_ready (rs := [9]) (by kernel_rfl) (by simp) ?_
      refine rdy_valw (i := 9) rfl (by kernel_rfl) (some 31) rfl (.slice (some ⟨(w2.alloc (.cells #[.int .i64 2, .string n, .string v] 24)).heap.size, 0, none⟩) 1 1) ((w2.alloc (.cells #[.int .i64 2, .string n, .string v] 24)).alloc (.cells #[.int .i64 1, .string n, .string v] 24)) (by go_simp) (hHeld.below ((Below.refl _ _).alloc (Nat.le_refl _) _)) (fun hHeld => ?_) rdy_nil
      have B4 : Below w.heap.size w ((w2.alloc (.cells #[.int .i64 2, .string n, .string v] 24)).alloc (.cells #[.int .i64 1, .string n, .string v] 24)) := B3.alloc B3.size _
      simp only [Act.put, List.setIfInBounds_toArray, List.set_cons_succ, List.set_cons_zero]
      have m4 := HM1.out _ _ (heap_alloc_new (w2.alloc (.cells #[.int .i64 2, .string n, .string v] 24)) (.cells #[.int .i64 1, .string n, .string v] 24))
      have m3' := m3.below (show Below (w2.alloc (.cells #[.int .i64 2, .string n, .string v] 24)).heap.size (w2.alloc (.cells #[.int .i64 2, .string n, .string v] 24)) ((w2.alloc (.cells #[.int .i64 2, .string n, .string v] 24)).alloc (.cells #[.int .i64 1, .string n, .string v] 24)) from (Below.refl _ _).alloc (Nat.le_refl _) _)
      refine wpAnyH_ready (rs := [10]) (by kernel_rfl) (by simp) ?_
      refine rdy_callw (i := 10) rfl (by kernel_rfl) (some 32) rfl 7 #[.slice (some ⟨(w2.alloc (.cells #[.int .i64 2, .string n, .string v] 24)).heap.size, 0, none⟩) 1 1] (mn_Can (ts := #[27]) (x0 := 31) (by kernel_rfl) (by kernel_rfl)) (fun r w' => r = .bool cb ∧ Below ((w2.alloc (.cells #[.int .i64 2, .string n, .string v] 24)).alloc (.cells #[.int .i64 1, .string n, .string v] 24)).heap.size ((w2.alloc (.cells #[.int .i64 2, .string n, .string v] 24)).alloc (.cells #[.int .i64 1, .string n, .string v] 24)) w') ((HC1.out _ _ m4).mono fun e w' h => ⟨_, h.1, rfl, h.2⟩) (fun r w5 hR => ?_) rdy_nil
      obtain ⟨rfl, b5⟩ := hR
      have B5 := B4.trans (b5.mono B4.size)
      refine ⟨hHeld.below b5, fun hHeld => ?_⟩
      simp only [Act.put, List.setIfInBounds_toArray, List.set_cons_succ, List.set_cons_zero]
      refine wpAnyH_ready (rs := [13]) (by kernel_rfl) (by simp) ?_
      refine rdy_callw (i := 13) rfl (by kernel_rfl) (some 35) rfl 7 #[.slice (some ⟨w2.heap.size, 0, none⟩) 1 1] (mn_Can (ts := #[27]) (x0 := 34) (by kernel_rfl) (by kernel_rfl)) (fun r w' => r = .bool cb ∧ Below (w5).heap.size (w5) w') ((HC2.out _ _ (m3'.below b5)).mono fun e w' h => ⟨_, h.1, rfl, h.2⟩) (fun r w6 hR => ?_) rdy_nil
      obtain ⟨rfl, b6⟩ := hR
      have B6 := B5.trans (b6.mono B5.size)
      refine ⟨hHeld.below b6, fun hHeld => ?_⟩
      simp only [Act.put, List.setIfInBounds_toArray, List.set_cons_succ, List.set_cons_zero]
      refine drawn_take (i := 14) (v := .bool true) (some 36) rfl rfl (by kernel_rfl) (by kernel_rfl) (by kernel_rfl) (fun _ _ _ h => h) (Or.inl ⟨by kernel_rfl, fun wq hw => by cases cb <;> go_simp⟩) hHeld ?_
      simp only [Act.put, List.setIfInBounds_toArray, List.set_cons_succ, List.set_cons_zero]
      refine drawn_take (i := 15) (v := .bool true) (some 37) rfl rfl (by kernel_rfl) (by kernel_rfl) (by kernel_rfl) (fun _ _ _ h => h) (Or.inl ⟨by kernel_rfl, fun wq hw => by go_simp⟩) hHeld ?_
      simp only [Act.put, List.setIfInBounds_toArray, List.set_cons_succ, List.set_cons_zero]
      refine drawn_take (i := 16) (v := .bool true) (some 38) rfl rfl (by kernel_rfl) (by kernel_rfl) (by kernel_rfl) (fun _ _ _ h => h) (Or.inl ⟨by kernel_rfl, fun wq hw => by go_simp⟩) hHeld ?_
      simp only [Act.put, List.setIfInBounds_toArray, List.set_cons_succ, List.set_cons_zero]
      refine wpAnyH_ready (rs := [17]) (by kernel_rfl) (by simp) ?_
      refine rdy_callw (i := 17) rfl (by kernel_rfl) (some 39) rfl 8 #[] (mn_awake (by kernel_rfl)) (fun r w' => r = .bool true ∧ Below (w6).heap.size (w6) w') ((awake9 _ (HT.out.below B6)).mono fun e w' h => ⟨_, h.1, rfl, h.2⟩) (fun r w9 hR => ?_) rdy_nil
      obtain ⟨rfl, b9⟩ := hR
      have B9 := B6.trans (b9.mono B6.size)
      refine ⟨hHeld.below b9, fun hHeld => ?_⟩
      simp only [Act.put, List.setIfInBounds_toArray, List.set_cons_succ, List.set_cons_zero]
      refine drawn_take (i := 18) (v := .bool true) (some 40) rfl rfl (by kernel_rfl) (by kernel_rfl) (by kernel_rfl) (fun _ _ _ h => h) (Or.inl ⟨by kernel_rfl, fun wq hw => by go_simp⟩) hHeld ?_
      simp only [Act.put, List.setIfInBounds_toArray, List.set_cons_succ, List.set_cons_zero]
      refine drawn_take (i := 19) (v := .bool true) (some 8) rfl rfl (by kernel_rfl) (by kernel_rfl) (by kernel_rfl) (fun _ _ _ h => h) (Or.inl ⟨by kernel_rfl, fun wq hw => by go_simp⟩) hHeld ?_
      simp only [Act.put, List.setIfInBounds_toArray, List.set_cons_succ, List.set_cons_zero]
      refine wpAnyH_done (by kernel_rfl) ?_ _
      refine NoPanic.normal ?_
      clear hHeld
      go_wp2_with fail
      exact bodyPost_ret (v := .bool true) (by simp [results, Tryd.results3, go_sem]) rfl ⟨rfl, B9⟩
  | true =>
    obtain ⟨ob, hob⟩ : ∃ ob, ob = oneM ⟨3, n, v⟩ ls := ⟨_, rfl⟩
    obtain ⟨cb, hcb⟩ : ∃ cb, cb = canL [⟨3, n, v⟩] := ⟨_, rfl⟩
    have ho2 : Hid (oneM ⟨4, n, v⟩ ls = !ob) := hidn (by rw [hob]; rfl)
    have hc2 : Hid (canL [⟨4, n, v⟩] = cb) := hidn (by rw [hcb]; exact ((canL_not n v).2).symm)
    have ho1 := hidn hob.symm
    have hc1 := hidn hcb.symm
    have HO1 := hidn (fun (w' : World) (hl : Ls w' la llen ls) => one_like ⟨3, n, v⟩ la llen lcap ls w' hl hr rfl hG hv)
    have HO2 := hidn (fun (w' : World) (hl : Ls w' la llen ls) => one_notlike ⟨4, n, v⟩ la llen lcap ls w' hl hr rfl hG hv)
    rw [ho1.out] at HO1
    rw [ho2.out] at HO2
    have HC1 := hidn (fun (w' : World) (b : Nat) (h : Mss w' (some ⟨b, 0, none⟩) 1 [⟨3, n, v⟩]) => canM_any (some ⟨b, 0, none⟩) 1 1 [⟨3, n, v⟩] w' h)
    have HC2 := hidn (fun (w' : World) (b : Nat) (h : Mss w' (some ⟨b, 0, none⟩) 1 [⟨4, n, v⟩]) => canM_any (some ⟨b, 0, none⟩) 1 1 [⟨4, n, v⟩] w' h)
    rw [hc1.out] at HC1
    rw [hc2.out] at HC2
    have HM1 := hidn (fun (w' : World) (b : Nat) (h : w'.heap[b]? = some (.cells #[.int .i64 3, .string n, .string v] 24 (0, 0))) => mss_one w' b ⟨3, n, v⟩ _ _ h hn hv)
    have HM2 := hidn (fun (w' : World) (b : Nat) (h : w'.heap[b]? = some (.cells #[.int .i64 4, .string n, .string v] 24 (0, 0))) => mss_one w' b ⟨4, n, v⟩ _ _ h hn hv)
    have HL := hidn hL
    have HT := hidn ht
    clear hob hcb ho1 ho2 hc1 hc2 hG hL ht hsz hn hv hr
    go_enter Tryd.func3, Tryd.ntmps3
    go_wp2_with fail
    have HT2 := TwoM.new w 3 4 n v
    have B0 : Below w.heap.size w ((w.alloc (.cells #[.int .i64 3, .string n, .string v] 24)).alloc (.cells #[.int .i64 4, .string n, .string v] 24)) := ((Below.refl _ w).alloc (Nat.le_refl _) _).alloc (by simp) _
    generalize (w.alloc (.cells #[.int .i64 3, .string n, .string v] 24)).alloc (.cells #[.int .i64 4, .string n, .string v] 24) = wa at *
    have HTd : TwoM wa.drew w.heap.size 3 4 n v := HT2
    have BD : Below w.heap.size w wa.drew := B0.drew
    generalize hbase : w.heap.size = bs at HTd ⊢
    have HBS := hidn hbase
    clear hbase HT2
    refine wp_region_noPanic ?_
    refine wp_region_held_drew (S := fun w' => TwoM w' bs 3 4 n v) (by kernel_rfl) HTd (fun hHeld => ?_)
    generalize wa.drew = wd at *
    refine drawn_take (i := 0) (v := .agg #[.int .i64 3, .string n, .string v]) (some 22) rfl rfl (by kernel_rfl) (by kernel_rfl) (by kernel_rfl) (fun _ _ _ h => h) (Or.inl ⟨by kernel_rfl, fun wq hw => by have q0 : wq.cell? ⟨bs, 0, none⟩ = some (.int .i64 3) := cell_of_row _ _ _ _ _ _ hw.1; have q1 : wq.cell? ⟨bs, 1, none⟩ = some (.string n) := cell_of_row _ _ _ _ _ _ hw.1; have q2 : wq.cell? ⟨bs, 2, none⟩ = some (.string v) := cell_of_row _ _ _ _ _ _ hw.1; go_simp⟩) hHeld ?_
    simp only [Act.put, List.setIfInBounds_toArray, List.set_cons_succ, List.set_cons_zero]
    refine drawn_take (i := 1) (v := .slice la llen lcap) (some 23) rfl rfl (by kernel_rfl) (by kernel_rfl) (by kernel_rfl) (fun _ _ _ h => h) (Or.inl ⟨by kernel_rfl, fun wq hw => by go_simp⟩) hHeld ?_
    simp only [Act.put, List.setIfInBounds_toArray, List.set_cons_succ, List.set_cons_zero]
    refine drawn_take (i := 3) (v := .agg #[.int .i64 4, .string n, .string v]) (some 25) rfl rfl (by kernel_rfl) (by kernel_rfl) (by kernel_rfl) (fun _ _ _ h => h) (Or.inl ⟨by kernel_rfl, fun wq hw => by have q0 : wq.cell? ⟨bs + 1, 0, none⟩ = some (.int .i64 4) := cell_of_row _ _ _ _ _ _ hw.2; have q1 : wq.cell? ⟨bs + 1, 1, none⟩ = some (.string n) := cell_of_row _ _ _ _ _ _ hw.2; have q2 : wq.cell? ⟨bs + 1, 2, none⟩ = some (.string v) := cell_of_row _ _ _ _ _ _ hw.2; go_simp⟩) hHeld ?_
    simp only [Act.put, List.setIfInBounds_toArray, List.set_cons_succ, List.set_cons_zero]
    refine drawn_take (i := 4) (v := .slice la llen lcap) (some 26) rfl rfl (by kernel_rfl) (by kernel_rfl) (by kernel_rfl) (fun _ _ _ h => h) (Or.inl ⟨by kernel_rfl, fun wq hw => by go_simp⟩) hHeld ?_
    simp only [Act.put, List.setIfInBounds_toArray, List.set_cons_succ, List.set_cons_zero]
    refine wpAnyH_ready (rs := [2]) (by kernel_rfl) (by simp) ?_
    refine rdy_call (i := 2) rfl rfl (some 24) rfl 6 #[.agg #[.int .i64 3, .string n, .string v], .slice la llen lcap] (mn_One (ts := #[24, 22]) (x0 := 22) (x1 := 23) (by kernel_rfl) (by kernel_rfl) (by kernel_rfl)) (fun r w' => r = .bool ob ∧ Below (wd).heap.size (wd) w') ((HO1.out _ (HL.out.below BD)).mono fun e w' h => ⟨_, h.1, rfl, h.2⟩) (fun r w1 hR => ?_) rdy_nil
    obtain ⟨rfl, b1⟩ := hR
    have B1 := BD.trans (b1.mono BD.size)
    refine ⟨hHeld.below b1, fun hHeld => ?_⟩
    simp only [Act.put, List.setIfInBounds_toArray, List.set_cons_succ, List.set_cons_zero]
    refine wpAnyH_ready (rs := [5]) (by kernel_rfl) (by simp) ?_
    refine rdy_call (i := 5) rfl rfl (some 27) rfl 6 #[.agg #[.int .i64 4, .string n, .string v], .slice la llen lcap] (mn_One (ts := #[24, 22]) (x0 := 25) (x1 := 26) (by kernel_rfl) (by kernel_rfl) (by kernel_rfl)) (fun r w' => r = .bool (!ob) ∧ Below (w1).heap.size (w1) w') ((HO2.out _ (HL.out.below B1)).mono fun e w' h => ⟨_, h.1, rfl, h.2⟩) (fun r w2 hR => ?_) rdy_nil
    obtain ⟨rfl, b2⟩ := hR
    have B2 := B1.trans (b2.mono B1.size)
    refine ⟨hHeld.below b2, fun hHeld => ?_⟩
    simp only [Act.put, List.setIfInBounds_toArray, List.set_cons_succ, List.set_cons_zero]
    refine drawn_take (i := 6) (v := .bool true) (some 28) rfl rfl (by kernel_rfl) (by kernel_rfl) (by kernel_rfl) (fun _ _ _ h => h) (Or.inl ⟨by kernel_rfl, fun wq hw => by cases ob <;> go_simp⟩) hHeld ?_
    simp only [Act.put, List.setIfInBounds_toArray, List.set_cons_succ, List.set_cons_zero]
    refine drawn_take (i := 7) (v := .bool true) (some 29) rfl rfl (by kernel_rfl) (by kernel_rfl) (by kernel_rfl) (fun _ _ _ h => h) (Or.inl ⟨by kernel_rfl, fun wq hw => by go_simp⟩) hHeld ?_
    simp only [Act.put, List.setIfInBounds_toArray, List.set_cons_succ, List.set_cons_zero]
    refine drawn_take (i := 8) (v := .agg #[.int .i64 3, .string n, .string v]) (some 30) rfl rfl (by kernel_rfl) (by kernel_rfl) (by kernel_rfl) (fun _ _ _ h => h) (Or.inl ⟨by kernel_rfl, fun wq hw => by have q0 : wq.cell? ⟨bs, 0, none⟩ = some (.int .i64 3) := cell_of_row _ _ _ _ _ _ hw.1; have q1 : wq.cell? ⟨bs, 1, none⟩ = some (.string n) := cell_of_row _ _ _ _ _ _ hw.1; have q2 : wq.cell? ⟨bs, 2, none⟩ = some (.string v) := cell_of_row _ _ _ _ _ _ hw.1; go_simp⟩) hHeld ?_
    simp only [Act.put, List.setIfInBounds_toArray, List.set_cons_succ, List.set_cons_zero]
    refine drawn_take (i := 11) (v := .agg #[.int .i64 4, .string n, .string v]) (some 33) rfl rfl (by kernel_rfl) (by kernel_rfl) (by kernel_rfl) (fun _ _ _ h => h) (Or.inl ⟨by kernel_rfl, fun wq hw => by have q0 : wq.cell? ⟨bs + 1, 0, none⟩ = some (.int .i64 4) := cell_of_row _ _ _ _ _ _ hw.2; have q1 : wq.cell? ⟨bs + 1, 1, none⟩ = some (.string n) := cell_of_row _ _ _ _ _ _ hw.2; have q2 : wq.cell? ⟨bs + 1, 2, none⟩ = some (.string v) := cell_of_row _ _ _ _ _ _ hw.2; go_simp⟩) hHeld ?_
    simp only [Act.put, List.setIfInBounds_toArray, List.set_cons_succ, List.set_cons_zero]
    refine wpAnyH_ready (rs := [9, 12]) (by kernel_rfl) (by simp) ?_
    refine rdy_valw (i := 9) rfl (by kernel_rfl) (some 31) rfl (.slice (some ⟨(w2).heap.size, 0, none⟩) 1 1) ((w2).alloc (.cells #[.int .i64 3, .string n, .string v] 24)) (by go_simp) (hHeld.below ((Below.refl _ _).alloc (Nat.le_refl _) _)) (fun hHeld => ?_) (rdy_valw (i := 12) rfl (by kernel_rfl) (some 34) rfl (.slice (some ⟨(w2).heap.size, 0, none⟩) 1 1) ((w2).alloc (.cells #[.int .i64 4, .string n, .string v] 24)) (by go_simp) (hHeld.below ((Below.refl _ _).alloc (Nat.le_refl _) _)) (fun hHeld => ?_) rdy_nil)
    · have B3 : Below w.heap.size w (w2.alloc (.cells #[.int .i64 3, .string n, .string v] 24)) := B2.alloc B2.size _
      have m3 := HM1.out _ _ (heap_alloc_new w2 (.cells #[.int .i64 3, .string n, .string v] 24))
      simp only [Act.put, List.setIfInBounds_toArray, List.set_cons_succ, List.set_cons_zero]
      refine wpAnyH_ready (rs := [10, 12]) (by kernel_rfl) (by simp) ?_
      refine rdy_callw (i := 10) rfl (by kernel_rfl) (some 32) rfl 7 #[.slice (some ⟨w2.heap.size, 0, none⟩) 1 1] (mn_Can (ts := #[27]) (x0 := 31) (by kernel_rfl) (by kernel_rfl)) (fun r w' => r = .bool cb ∧ Below (w2.alloc (.cells #[.int .i64 3, .string n, .string v] 24)).heap.size (w2.alloc (.cells #[.int .i64 3, .string n, .string v] 24)) w') ((HC1.out _ _ m3).mono fun e w' h => ⟨_, h.1, rfl, h.2⟩) (fun r w4 hR => ?_) (rdy_valw (i := 12) rfl (by kernel_rfl) (some 34) rfl (.slice (some ⟨(w2.alloc (.cells #[.int .i64 3, .string n, .string v] 24)).heap.size, 0, none⟩) 1 1) ((w2.alloc (.cells #[.int .i64 3, .string n, .string v] 24)).alloc (.cells #[.int .i64 4, .string n, .string v] 24)) (by go_simp) (hHeld.below ((Below.refl _ _).alloc (Nat.le_refl _) _)) (fun hHeld => ?_) rdy_nil)
      · obtain ⟨rfl, b4⟩ := hR
        have B4 := B3.trans (b4.mono B3.size)
        refine ⟨hHeld.below b4, fun hHeld => ?_⟩
        simp only [Act.put, List.setIfInBounds_toArray, List.set_cons_succ, List.set_cons_zero]
        refine wpAnyH_ready (rs := [12]) (by kernel_rfl) (by simp) ?_
        refine rdy_valw (i := 12) rfl (by kernel_rfl) (some 34) rfl (.slice (some ⟨(w4).heap.size, 0, none⟩) 1 1) ((w4).alloc (.cells #[.int .i64 4, .string n, .string v] 24)) (by go_simp) (hHeld.below ((Below.refl _ _).alloc (Nat.le_refl _) _)) (fun hHeld => ?_) rdy_nil
        have B5 : Below w.heap.size w ((w4).alloc (.cells #[.int .i64 4, .string n, .string v] 24)) := B4.alloc B4.size _
        simp only [Act.put, List.setIfInBounds_toArray, List.set_cons_succ, List.set_cons_zero]
        have m5 := HM2.out _ _ (heap_alloc_new w4 (.cells #[.int .i64 4, .string n, .string v] 24))
        refine wpAnyH_ready (rs := [13]) (by kernel_rfl) (by simp) ?_
        refine rdy_callw (i := 13) rfl (by kernel_rfl) (some 35) rfl 7 #[.slice (some ⟨w4.heap.size, 0, none⟩) 1 1] (mn_Can (ts := #[27]) (x0 := 34) (by kernel_rfl) (by kernel_rfl)) (fun r w' => r = .bool cb ∧ Below (w4.alloc (.cells #[.int .i64 4, .string n, .string v] 24)).heap.size (w4.alloc (.cells #[.int .i64 4, .string n, .string v] 24)) w') ((HC2.out _ _ m5).mono fun e w' h => ⟨_, h.1, rfl, h.2⟩) (fun r w6 hR => ?_) rdy_nil
        obtain ⟨rfl, b6⟩ := hR
        have B6 := B5.trans (b6.mono B5.size)
        refine ⟨hHeld.below b6, fun hHeld => ?_⟩
        simp only [Act.put, List.setIfInBounds_toArray, List.set_cons_succ, List.set_cons_zero]
        refine drawn_take (i := 14) (v := .bool true) (some 36) rfl rfl (by kernel_rfl) (by kernel_rfl) (by kernel_rfl) (fun _ _ _ h => h) (Or.inl ⟨by kernel_rfl, fun wq hw => by cases cb <;> go_simp⟩) hHeld ?_
        simp only [Act.put, List.setIfInBounds_toArray, List.set_cons_succ, List.set_cons_zero]
        refine drawn_take (i := 15) (v := .bool true) (some 37) rfl rfl (by kernel_rfl) (by kernel_rfl) (by kernel_rfl) (fun _ _ _ h => h) (Or.inl ⟨by kernel_rfl, fun wq hw => by go_simp⟩) hHeld ?_
        simp only [Act.put, List.setIfInBounds_toArray, List.set_cons_succ, List.set_cons_zero]
        refine drawn_take (i := 16) (v := .bool true) (some 38) rfl rfl (by kernel_rfl) (by kernel_rfl) (by kernel_rfl) (fun _ _ _ h => h) (Or.inl ⟨by kernel_rfl, fun wq hw => by go_simp⟩) hHeld ?_
        simp only [Act.put, List.setIfInBounds_toArray, List.set_cons_succ, List.set_cons_zero]
        refine wpAnyH_ready (rs := [17]) (by kernel_rfl) (by simp) ?_
        refine rdy_callw (i := 17) rfl (by kernel_rfl) (some 39) rfl 8 #[] (mn_awake (by kernel_rfl)) (fun r w' => r = .bool true ∧ Below (w6).heap.size (w6) w') ((awake9 _ (HT.out.below B6)).mono fun e w' h => ⟨_, h.1, rfl, h.2⟩) (fun r w9 hR => ?_) rdy_nil
        obtain ⟨rfl, b9⟩ := hR
        have B9 := B6.trans (b9.mono B6.size)
        refine ⟨hHeld.below b9, fun hHeld => ?_⟩
        simp only [Act.put, List.setIfInBounds_toArray, List.set_cons_succ, List.set_cons_zero]
        refine drawn_take (i := 18) (v := .bool true) (some 40) rfl rfl (by kernel_rfl) (by kernel_rfl) (by kernel_rfl) (fun _ _ _ h => h) (Or.inl ⟨by kernel_rfl, fun wq hw => by go_simp⟩) hHeld ?_
        simp only [Act.put, List.setIfInBounds_toArray, List.set_cons_succ, List.set_cons_zero]
        refine drawn_take (i := 19) (v := .bool true) (some 8) rfl rfl (by kernel_rfl) (by kernel_rfl) (by kernel_rfl) (fun _ _ _ h => h) (Or.inl ⟨by kernel_rfl, fun wq hw => by go_simp⟩) hHeld ?_
        simp only [Act.put, List.setIfInBounds_toArray, List.set_cons_succ, List.set_cons_zero]
        refine wpAnyH_done (by kernel_rfl) ?_ _
        refine NoPanic.normal ?_
        clear hHeld
        go_wp2_with fail
        exact bodyPost_ret (v := .bool true) (by simp [results, Tryd.results3, go_sem]) rfl ⟨rfl, B9⟩
      · have B4 : Below w.heap.size w ((w2.alloc (.cells #[.int .i64 3, .string n, .string v] 24)).alloc (.cells #[.int .i64 4, .string n, .string v] 24)) := B3.alloc B3.size _
        have m4 := HM2.out _ _ (heap_alloc_new (w2.alloc (.cells #[.int .i64 3, .string n, .string v] 24)) (.cells #[.int .i64 4, .string n, .string v] 24))
        have m3' := m3.below (show Below (w2.alloc (.cells #[.int .i64 3, .string n, .string v] 24)).heap.size (w2.alloc (.cells #[.int .i64 3, .string n, .string v] 24)) ((w2.alloc (.cells #[.int .i64 3, .string n, .string v] 24)).alloc (.cells #[.int .i64 4, .string n, .string v] 24)) from (Below.refl _ _).alloc (Nat.le_refl _) _)
        simp only [Act.put, List.setIfInBounds_toArray, List.set_cons_succ, List.set_cons_zero]
        refine wpAnyH_ready (rs := [10]) (by kernel_rfl) (by simp) ?_
        refine rdy_callw (i := 10) rfl (by kernel_rfl) (some 32) rfl 7 #[.slice (some ⟨w2.heap.size, 0, none⟩) 1 1] (mn_Can (ts := #[27]) (x0 := 31) (by kernel_rfl) (by kernel_rfl)) (fun r w' => r = .bool cb ∧ Below ((w2.alloc (.cells #[.int .i64 3, .string n, .string v] 24)).alloc (.cells #[.int .i64 4, .string n, .string v] 24)).heap.size ((w2.alloc (.cells #[.int .i64 3, .string n, .string v] 24)).alloc (.cells #[.int .i64 4, .string n, .string v] 24)) w') ((HC1.out _ _ m3').mono fun e w' h => ⟨_, h.1, rfl, h.2⟩) (fun r w5 hR => ?_) rdy_nil
        obtain ⟨rfl, b5⟩ := hR
        have B5 := B4.trans (b5.mono B4.size)
        refine ⟨hHeld.below b5, fun hHeld => ?_⟩
        simp only [Act.put, List.setIfInBounds_toArray, List.set_cons_succ, List.set_cons_zero]
        refine wpAnyH_ready (rs := [13]) (by kernel_rfl) (by simp) ?_
        refine rdy_callw (i := 13) rfl (by kernel_rfl) (some 35) rfl 7 #[.slice (some ⟨(w2.alloc (.cells #[.int .i64 3, .string n, .string v] 24)).heap.size, 0, none⟩) 1 1] (mn_Can (ts := #[27]) (x0 := 34) (by kernel_rfl) (by kernel_rfl)) (fun r w' => r = .bool cb ∧ Below (w5).heap.size (w5) w') ((HC2.out _ _ (m4.below b5)).mono fun e w' h => ⟨_, h.1, rfl, h.2⟩) (fun r w6 hR => ?_) rdy_nil
        obtain ⟨rfl, b6⟩ := hR
        have B6 := B5.trans (b6.mono B5.size)
        refine ⟨hHeld.below b6, fun hHeld => ?_⟩
        simp only [Act.put, List.setIfInBounds_toArray, List.set_cons_succ, List.set_cons_zero]
        refine drawn_take (i := 14) (v := .bool true) (some 36) rfl rfl (by kernel_rfl) (by kernel_rfl) (by kernel_rfl) (fun _ _ _ h => h) (Or.inl ⟨by kernel_rfl, fun wq hw => by cases cb <;> go_simp⟩) hHeld ?_
        simp only [Act.put, List.setIfInBounds_toArray, List.set_cons_succ, List.set_cons_zero]
        refine drawn_take (i := 15) (v := .bool true) (some 37) rfl rfl (by kernel_rfl) (by kernel_rfl) (by kernel_rfl) (fun _ _ _ h => h) (Or.inl ⟨by kernel_rfl, fun wq hw => by go_simp⟩) hHeld ?_
        simp only [Act.put, List.setIfInBounds_toArray, List.set_cons_succ, List.set_cons_zero]
        refine drawn_take (i := 16) (v := .bool true) (some 38) rfl rfl (by kernel_rfl) (by kernel_rfl) (by kernel_rfl) (fun _ _ _ h => h) (Or.inl ⟨by kernel_rfl, fun wq hw => by go_simp⟩) hHeld ?_
        simp only [Act.put, List.setIfInBounds_toArray, List.set_cons_succ, List.set_cons_zero]
        refine wpAnyH_ready (rs := [17]) (by kernel_rfl) (by simp) ?_
        refine rdy_callw (i := 17) rfl (by kernel_rfl) (some 39) rfl 8 #[] (mn_awake (by kernel_rfl)) (fun r w' => r = .bool true ∧ Below (w6).heap.size (w6) w') ((awake9 _ (HT.out.below B6)).mono fun e w' h => ⟨_, h.1, rfl, h.2⟩) (fun r w9 hR => ?_) rdy_nil
        obtain ⟨rfl, b9⟩ := hR
        have B9 := B6.trans (b9.mono B6.size)
        refine ⟨hHeld.below b9, fun hHeld => ?_⟩
        simp only [Act.put, List.setIfInBounds_toArray, List.set_cons_succ, List.set_cons_zero]
        refine drawn_take (i := 18) (v := .bool true) (some 40) rfl rfl (by kernel_rfl) (by kernel_rfl) (by kernel_rfl) (fun _ _ _ h => h) (Or.inl ⟨by kernel_rfl, fun wq hw => by go_simp⟩) hHeld ?_
        simp only [Act.put, List.setIfInBounds_toArray, List.set_cons_succ, List.set_cons_zero]
        refine drawn_take (i := 19) (v := .bool true) (some 8) rfl rfl (by kernel_rfl) (by kernel_rfl) (by kernel_rfl) (fun _ _ _ h => h) (Or.inl ⟨by kernel_rfl, fun wq hw => by go_simp⟩) hHeld ?_
        simp only [Act.put, List.setIfInBounds_toArray, List.set_cons_succ, List.set_cons_zero]
        refine wpAnyH_done (by kernel_rfl) ?_ _
        refine NoPanic.normal ?_
        clear hHeld
        go_wp2_with fail
        exact bodyPost_ret (v := .bool true) (by simp [results, Tryd.results3, go_sem]) rfl ⟨rfl, B9⟩
    · have B3 : Below w.heap.size w (w2.alloc (.cells #[.int .i64 4, .string n, .string v] 24)) := B2.alloc B2.size _
      have m3 := HM2.out _ _ (heap_alloc_new w2 (.cells #[.int .i64 4, .string n, .string v] 24))
      simp only [Act.put, List.setIfInBounds_toArray, List.set_cons_succ, List.set_cons_zero]
      refine wpAnyH_ready (rs := [9]) (by kernel_rfl) (by simp) ?_
      refine rdy_valw (i := 9) rfl (by kernel_rfl) (some 31) rfl (.slice (some ⟨(w2.alloc (.cells #[.int .i64 4, .string n, .string v] 24)).heap.size, 0, none⟩) 1 1) ((w2.alloc (.cells #[.int .i64 4, .string n, .string v] 24)).alloc (.cells #[.int .i64 3, .string n, .string v] 24)) (by go_simp) (hHeld.below ((Below.refl _ _).alloc (Nat.le_refl _) _)) (fun hHeld => ?_) rdy_nil
      have B4 : Below w.heap.size w ((w2.alloc (.cells #[.int .i64 4, .string n, .string v] 24)).alloc (.cells #[.int .i64 3, .string n, .string v] 24)) := B3.alloc B3.size _
      simp only [Act.put, List.setIfInBounds_toArray, List.set_cons_succ, List.set_cons_zero]
      have m4 := HM1.out _ _ (heap_alloc_new (w2.alloc (.cells #[.int .i64 4, .string n, .string v] 24)) (.cells #[.int .i64 3, .string n, .string v] 24))
      have m3' := m3.below (show Below (w2.alloc (.cells #[.int .i64 4, .string n, .string v] 24)).heap.size (w2.alloc (.cells #[.int .i64 4, .string n, .string v] 24)) ((w2.alloc (.cells #[.int .i64 4, .string n, .string v] 24)).alloc (.cells #[.int .i64 3, .string n, .string v] 24)) from (Below.refl _ _).alloc (Nat.le_refl _) _)
      refine wpAnyH_ready (rs := [10]) (by kernel_rfl) (by simp) ?_
      refine rdy_callw (i := 10) rfl (by kernel_rfl) (some 32) rfl 7 #[.slice (some ⟨(w2.alloc (.cells #[.int .i64 4, .string n, .string v] 24)).heap.size, 0, none⟩) 1 1] (mn_Can (ts := #[27]) (x0 := 31) (by kernel_rfl) (by kernel_rfl)) (fun r w' => r = .bool cb ∧ Below ((w2.alloc (.cells #[.int .i64 4, .string n, .string v] 24)).alloc (.cells #[.int .i64 3, .string n, .string v] 24)).heap.size ((w2.alloc (.cells #[.int .i64 4, .string n, .string v] 24)).alloc (.cells #[.int .i64 3, .string n, .string v] 24)) w') ((HC1.out _ _ m4).mono fun e w' h => ⟨_, h.1, rfl, h.2⟩) (fun r w5 hR => ?_) rdy_nil
      obtain ⟨rfl, b5⟩ := hR
      have B5 := B4.trans (b5.mono B4.size)
      refine ⟨hHeld.below b5, fun hHeld => ?_⟩
      simp only [Act.put, List.setIfInBounds_toArray, List.set_cons_succ, List.set_cons_zero]
      refine wpAnyH_ready (rs := [13]) (by kernel_rfl) (by simp) ?_
      refine rdy_callw (i := 13) rfl (by kernel_rfl) (some 35) rfl 7 #[.slice (some ⟨w2.heap.size, 0, none⟩) 1 1] (mn_Can (ts := #[27]) (x0 := 34) (by kernel_rfl) (by kernel_rfl)) (fun r w' => r = .bool cb ∧ Below (w5).heap.size (w5) w') ((HC2.out _ _ (m3'.below b5)).mono fun e w' h => ⟨_, h.1, rfl, h.2⟩) (fun r w6 hR => ?_) rdy_nil
      obtain ⟨rfl, b6⟩ := hR
      have B6 := B5.trans (b6.mono B5.size)
      refine ⟨hHeld.below b6, fun hHeld => ?_⟩
      simp only [Act.put, List.setIfInBounds_toArray, List.set_cons_succ, List.set_cons_zero]
      refine drawn_take (i := 14) (v := .bool true) (some 36) rfl rfl (by kernel_rfl) (by kernel_rfl) (by kernel_rfl) (fun _ _ _ h => h) (Or.inl ⟨by kernel_rfl, fun wq hw => by cases cb <;> go_simp⟩) hHeld ?_
      simp only [Act.put, List.setIfInBounds_toArray, List.set_cons_succ, List.set_cons_zero]
      refine drawn_take (i := 15) (v := .bool true) (some 37) rfl rfl (by kernel_rfl) (by kernel_rfl) (by kernel_rfl) (fun _ _ _ h => h) (Or.inl ⟨by kernel_rfl, fun wq hw => by go_simp⟩) hHeld ?_
      simp only [Act.put, List.setIfInBounds_toArray, List.set_cons_succ, List.set_cons_zero]
      refine drawn_take (i := 16) (v := .bool true) (some 38) rfl rfl (by kernel_rfl) (by kernel_rfl) (by kernel_rfl) (fun _ _ _ h => h) (Or.inl ⟨by kernel_rfl, fun wq hw => by go_simp⟩) hHeld ?_
      simp only [Act.put, List.setIfInBounds_toArray, List.set_cons_succ, List.set_cons_zero]
      refine wpAnyH_ready (rs := [17]) (by kernel_rfl) (by simp) ?_
      refine rdy_callw (i := 17) rfl (by kernel_rfl) (some 39) rfl 8 #[] (mn_awake (by kernel_rfl)) (fun r w' => r = .bool true ∧ Below (w6).heap.size (w6) w') ((awake9 _ (HT.out.below B6)).mono fun e w' h => ⟨_, h.1, rfl, h.2⟩) (fun r w9 hR => ?_) rdy_nil
      obtain ⟨rfl, b9⟩ := hR
      have B9 := B6.trans (b9.mono B6.size)
      refine ⟨hHeld.below b9, fun hHeld => ?_⟩
      simp only [Act.put, List.setIfInBounds_toArray, List.set_cons_succ, List.set_cons_zero]
      refine drawn_take (i := 18) (v := .bool true) (some 40) rfl rfl (by kernel_rfl) (by kernel_rfl) (by kernel_rfl) (fun _ _ _ h => h) (Or.inl ⟨by kernel_rfl, fun wq hw => by go_simp⟩) hHeld ?_
      simp only [Act.put, List.setIfInBounds_toArray, List.set_cons_succ, List.set_cons_zero]
      refine drawn_take (i := 19) (v := .bool true) (some 8) rfl rfl (by kernel_rfl) (by kernel_rfl) (by kernel_rfl) (fun _ _ _ h => h) (Or.inl ⟨by kernel_rfl, fun wq hw => by go_simp⟩) hHeld ?_
      simp only [Act.put, List.setIfInBounds_toArray, List.set_cons_succ, List.set_cons_zero]
      refine wpAnyH_done (by kernel_rfl) ?_ _
      refine NoPanic.normal ?_
      clear hHeld
      go_wp2_with fail
      exact bodyPost_ret (v := .bool true) (by simp [results, Tryd.results3, go_sem]) rfl ⟨rfl, B9⟩
end Go.Proofs.YtobjpofdchjciaaDoor
