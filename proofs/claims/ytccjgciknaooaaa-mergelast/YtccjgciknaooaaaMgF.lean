/- merge: the heap's push. -/
import Derived.Test.YtccjgciknaooaaaMgE
import Derived.Deep.RegionHeld3
namespace Go.Proofs.Ytccjgciknaooaaa
open Go.RowKit Go.Joins
set_option linter.unusedVariables false

section
variable {P : Program} {md : Region.Mode} {ops : Array Oper} {Q : Exit → Act → World → Prop} {S : World → Prop} {fuel : Nat} {listed : Array Bool} {a : Act} {w : World} {i : Nat} {o : Oper} {rs : List Nat}
/-- A call that is guarded, and wanted. -/
theorem rdy_callw (ho : ops[i]? = some o) (hw : Region.wanted o (yielded ops a.tmps) = true) (dst : Option Nat) (hd : o.dst = dst) (f : FuncId) (args : Array Value) (hrun : (execOp a.eval o).run P w = .ok (.enter f args) w) (R : Value → World → Prop)
    (hc : Calls P f args w fun e w' => ∃ v, e = .returned v ∧ R v w')
    (h : ∀ v w', R v w' → S w' ∧ (S w' → wpAnyH P md ops Q S fuel (listed.setIfInBounds i true) (a.put dst v) w')) (hs : AllReadyH P md ops Q S fuel listed a w rs) : AllReadyH P md ops Q S fuel listed a w (i :: rs) := by
  subst hd
  refine AllReadyH.cons ho (fun K hK => ?_) hs
  rw [if_pos hw]
  unfold Oper.wp
  rw [hrun, Oper.upon_enter]
  refine hc.mono fun e w' hh => ?_
  obtain ⟨v, rfl, hR⟩ := hh
  exact hK _ _ (h v w' hR).1 (h v w' hR).2
end
theorem call1_run {o : Oper} {a : Act} {w : World} {f : FuncId} {x : Nat} {vx : Value} {ts : Array TypeId} (ho : o.op = Op.call { callee := Callee.value (Operand.func f), args := #[.tmp x], argTypes := ts }) (hen : ∀ args w, (callFunc f args).run Try.prog w = .ok (.enter f args) w) (hx : a.eval (.tmp x) = vx) : (execOp a.eval o).run Try.prog w = .ok (.enter f #[vx]) w := by
  simp [go_sem, execOp, ho, resolve, invoke, hen]
  simpa [Act.eval] using hx
theorem appRun_exec {o : Oper} {a : Act} {w w' : World} {t u : TypeId} {x y : Operand} {vx vy v : Value} (ho : o.op = .call { callee := .builtin .append, args := #[x, y], argTypes := #[t, u] }) (hx : a.eval x = vx) (hy : a.eval y = vy) (hr : (Builtin.append_ #[t, u] o.type #[vx, vy]).run Try.prog w = .ok v w') : (execOp a.eval o).run Try.prog w = .ok (.value v) w' := by
  unfold execOp
  simp only [ho, resolve, invoke, builtin, Sem.run_bind, Sem.run_pure, Result.andThen_ok, List.map_toArray, List.map_cons, List.map_nil, hx, hy, hr]

theorem callV2_run {o : Oper} {a : Act} {w : World} {f : FuncId} {z x y : Nat} {vx vy : Value} {ts : Array TypeId} (ho : o.op = Op.call { callee := Callee.value (.tmp z), args := #[.tmp x, .tmp y], argTypes := ts }) (hz : a.eval (.tmp z) = .func (.func f) #[] #[]) (hen : ∀ args w, (callFunc f args).run Try.prog w = .ok (.enter f args) w) (hx : a.eval (.tmp x) = vx) (hy : a.eval (.tmp y) = vy) : (execOp a.eval o).run Try.prog w = .ok (.enter f #[vx, vy]) w := by
  have hz' : a.tmps[z]?.getD undef = .func (.func f) #[] #[] := by simpa [Act.eval] using hz
  have hx' : a.tmps[x]?.getD undef = vx := by simpa [Act.eval] using hx
  have hy' : a.tmps[y]?.getD undef = vy := by simpa [Act.eval] using hy
  have h9 := hen #[vx, vy] w
  simp [go_sem, execOp, ho, resolve, invoke, Act.eval, hz', hx', hy']
  exact h9

theorem rvs_app (l m : List Run) : rvs (l ++ m) = rvs l ++ rvs m := by
  induction l with
  | nil => rfl
  | cons r t ih => simp [rvs, ih]

theorem one_rvs (l : List Run) : ∀ u ∈ rvs l, u.oneCell' = true := by
  induction l with
  | nil => intro u hu; simp [rvs] at hu
  | cons r t ih =>
    intro u hu
    simp only [rvs, List.mem_append, List.mem_cons, List.not_mem_nil, or_false] at hu
    rcases hu with (rfl | rfl | rfl) | hu
    · rfl
    · rfl
    · rfl
    · exact ih u hu

/-- One run more onto the row. -/
theorem app_run1 {B : Nat} {v : Value} {rs : List Run} {W : World} (ho : W.ownsRow B 70 3 v rs.length (rvs rs)) (hB : B ≤ W.heap.size) (hn : rs.length ≤ 1000) (r : Run) (ad : Addr) (hc : ∀ j u, (rvs [r])[j]? = some u → W.cell? (ad.add j) = some u) :
    ∃ g c' W', (Builtin.append_ #[65, 65] 65 #[v, .slice (some ad) 1 1]).run Try.prog W = .ok (.slice (some ⟨g, 0, none⟩) (rs.length + 1) c') W' ∧ W'.ownsRow B 70 3 (.slice (some ⟨g, 0, none⟩) (rs.length + 1) c') (rs.length + 1) (rvs (rs ++ [r])) ∧ W.grownBy W' v.ownBlock := by
  obtain ⟨i0, hi, hz0, hz1, hz2⟩ := info_parts zRun
  obtain ⟨g, c', W', hr, ho', hg, _⟩ := appN (P := Try.prog) W 65 65 70 i0 (.agg #[.slice none 0 0, .int .i64 0, .int .i64 0]) 3 40 Try.underlying65 hi hz0 hz1 hz2 rfl (by decide) v rs.length (rvs rs) B ho hB ad 1 1 (by decide) (rvs [r]) rfl hc (one_rvs [r]) (by unfold maxLen; omega) (by omega)
  exact ⟨g, c', W', hr, by rw [rvs_app]; exact ho', hg⟩

/-- What push leaves. -/
def PushP (B : Nat) (W : World) (h : Nat) (v : Value) (rs : List Run) (e : Ending) (W' : World) : Prop :=
  e = .returned (.tuple #[]) ∧ ∃ g c, HpI B W' h (.slice (some ⟨g, 0, none⟩) rs.length c) rs ∧ Below B W W' ∧ ∀ k, k < W.heap.size → k ≠ h → some k ≠ v.ownBlock → W'.heap[k]? = W.heap[k]?

set_option maxHeartbeats 4000000 in
set_option maxRecDepth 100000 in
theorem push0 (B h : Nat)  (a1 : Option Addr) (l1 c1 : Nat) (k1 p1 : Int) (w : World) (hx : HpI B w h (.slice none 0 0) []) (hB : B ≤ w.heap.size) :
    Calls Try.prog 31 #[.pointer (some ⟨h, 0, none⟩), .agg #[.slice a1 l1 c1, .int .i64 k1, .int .i64 p1]] w (PushP B w h (.slice none 0 0) [⟨a1, l1, c1, k1, p1⟩]) := by
  obtain ⟨hh, ho, hBh⟩ := hx
  have hhs : h < w.heap.size := (Array.getElem?_eq_some_iff.1 hh).1
  obtain ⟨w1, hw1⟩ : ∃ w1, w1 = w.alloc (.cells #[.slice a1 l1 c1, .int .i64 k1, .int .i64 p1] 70) := ⟨_, rfl⟩
  have b1 : Below w.heap.size w w1 := by rw [hw1]; exact (Below.refl _ w).alloc (Nat.le_refl _) _
  have s1 : w1.heap.size = w.heap.size + 1 := by rw [hw1]; simp
  have qb : w1.heap[w.heap.size]? = some (.cells #[.slice a1 l1 c1, .int .i64 k1, .int .i64 p1] 70 (0, 0)) := by rw [hw1]; exact heap_alloc_new w _
  obtain ⟨w2, hw2⟩ : ∃ w2, w2 = w1.drew.alloc (.cells #[.slice a1 l1 c1, .int .i64 k1, .int .i64 p1] 70) := ⟨_, rfl⟩
  have b12 : Below w1.heap.size w1 w2 := by rw [hw2]; exact ((Below.refl _ w1).drew).alloc (Nat.le_refl _) _
  have b2 : Below w.heap.size w w2 := b1.trans (b12.mono (by omega))
  have qn : w2.heap[w1.heap.size]? = some (.cells #[.slice a1 l1 c1, .int .i64 k1, .int .i64 p1] 70 (0, 0)) := by rw [hw2]; exact heap_alloc_new w1.drew _
  have qb2 : w2.heap[w.heap.size]? = some (.cells #[.slice a1 l1 c1, .int .i64 k1, .int .i64 p1] 70 (0, 0)) := (b12.block _ (by omega)).trans qb
  have hh2 : HpB w2 h (.slice none 0 0) := (b2.block h hhs).trans hh
  obtain ⟨g3, c3, w3, hr3, ho3, hg3⟩ := app_run1 (own_skip ho b2) (Nat.le_trans hB b2.size) (by simp) (⟨a1, l1, c1, k1, p1⟩ : Run) ⟨w1.heap.size, 0, none⟩ (fun j u hj => by
    have hjl : j < 3 := (List.getElem?_eq_some_iff.1 hj).1
    rw [add_none, Nat.zero_add, cell_of_row _ _ _ _ _ _ qn]
    match j, hjl, hj with
    | 0, _, hj => cases hj; rfl
    | 1, _, hj => cases hj; rfl
    | 2, _, hj => cases hj; rfl)
  have hne : ∀ {k : Nat} {cs : Array Value} {t : TypeId}, w2.heap[k]? = some (.cells cs t (0, 0)) → t ≠ 70 → some k ≠ (.slice none 0 0 : Value).ownBlock := fun {k cs t} hk ht e => by
    rcases (own_skip ho b2).2 with ⟨h1, _⟩ | ⟨g', _, cur, h1, _, h2, _⟩
    · rw [h1] at e; cases e
    · rw [h1] at e
      have e2 : k = g' := by simpa [Value.ownBlock] using e
      subst e2
      rw [hk] at h2
      cases h2
      exact ht rfl
  have hlt : ∀ k, (.slice none 0 0 : Value).ownBlock = some k → k < w.heap.size := fun k hk => (ho.lt k hk).2
  have hh3 : HpB w3 h (.slice none 0 0) := (hg3.block h (Array.getElem?_eq_some_iff.1 hh2).1 (hne hh2 (by decide))).trans hh2
  have qb3 : w3.heap[w.heap.size]? = some (.cells #[.slice a1 l1 c1, .int .i64 k1, .int .i64 p1] 70 (0, 0)) := (hg3.block _ (Array.getElem?_eq_some_iff.1 qb2).1 (fun e => by have := hlt _ e.symm; omega)).trans qb2
  have b3 : Below B w w3 := (b2.mono hB).trans ((Below.refl B w2).grown hg3 (Nat.le_trans hB b2.size) (fun k hk => (ho.lt k hk).1))
  have h30 : w3.cell? ⟨h, 0, none⟩ = some (.slice none 0 0) := cell_of_row w3 h 0 _ _ _ hh3
  have f30 := unfrozen_of_block hh3 0
  obtain ⟨w4, hw4⟩ : ∃ w4, w4 = w3.setCell ⟨h, 0, none⟩ (.slice (some ⟨g3, 0, none⟩) 1 c3) := ⟨_, rfl⟩
  have hh4 : HpB w4 h (.slice (some ⟨g3, 0, none⟩) 1 c3) := by rw [hw4]; exact block_setCell hh3 _
  have k4 : ∀ k, k ≠ h → w4.heap[k]? = w3.heap[k]? := fun k hk => by rw [hw4]; exact Below.heap_setCell _ ⟨h, 0, none⟩ _ _ hk
  have qb4 := (k4 _ (by omega)).trans qb3
  have ho4 : w4.ownsRow B 70 3 (.slice (some ⟨g3, 0, none⟩) 1 c3) 1 (rvs [⟨a1, l1, c1, k1, p1⟩]) := own_stay ho3 (fun k hk => k4 k (fun e => by
    subst e
    obtain ⟨_, _, cur, hcur⟩ := own_blk ho3
    have e2 : g3 = k := by simpa [Value.ownBlock] using hk
    subst e2
    rw [show w3.heap[g3]? = _ from hh3] at hcur
    cases hcur))
  have b4 : Below B w w4 := by rw [hw4]; exact b3.setCell (p := ⟨h, 0, none⟩) hBh _
  have h40 : w4.cell? ⟨h, 0, none⟩ = some (.slice (some ⟨g3, 0, none⟩) 1 c3) := cell_of_row w4 h 0 _ _ _ hh4
  have hh1 : w1.drew.cell? ⟨h, 0, none⟩ = some (.slice none 0 0) := cell_of_row w1.drew h 0 _ _ _ (show w1.drew.heap[h]? = _ from (b1.block h hhs).trans hh)
  have hh20 : w2.cell? ⟨h, 0, none⟩ = some (.slice none 0 0) := cell_of_row w2 h 0 _ _ _ hh2
  have HH4 := hidn hh4
  have HO4 := hidn ho4
  have HB4 := hidn b4
  have HW1 := hidn hw1
  have HS1 := hidn s1
  have HBH := hidn hBh
  have HW2 := hidn hw2
  have HW4 := hidn hw4
  have HSZ : Hid (w.heap.size ≤ w4.heap.size) := hidn (by rw [hw4]; exact Nat.le_trans b2.size (by have := ((Below.refl 0 w2).grown hg3 (Nat.zero_le _) (fun k hk => Nat.zero_le _)).size; simpa [World.setCell] using this))
  have HFR : Hid (∀ k, k < w.heap.size → k ≠ h → some k ≠ (.slice none 0 0 : Value).ownBlock → w4.heap[k]? = w.heap[k]?) := hidn (fun k hk h1 h2 => (k4 k h1).trans ((hg3.block k (Nat.lt_of_lt_of_le hk b2.size) h2).trans (b2.block k hk)))
  clear hw1 hw2 hw4 ho3 k4 hh ho hne hlt hg3 b3 b12 b2 hh2 hh3
  go_enter Try.func31, Try.ntmps31
  go_wp2_with fail
  rw [← HW1.out]
  refine wp_region_noPanic ?_
  refine wp_region_held_drew (S := fun w' => w'.heap[w.heap.size]? = some (.cells #[.slice a1 l1 c1, .int .i64 k1, .int .i64 p1] 70 (0, 0))) (by kernel_rfl) (qb) (fun hHeld => ?_)
  refine drawn_take (i := 0) (v := .pointer (some ⟨h, 0, none⟩)) (some 5) rfl rfl (by kernel_rfl) (by kernel_rfl) (by kernel_rfl) (fun _ _ _ h => h) (Or.inl ⟨by kernel_rfl, fun wq hw => by go_simp⟩) hHeld ?_
  simp only [Act.put, List.setIfInBounds_toArray, List.set_cons_succ, List.set_cons_zero]
  refine drawn_take (i := 1) (v := .pointer (some ⟨h, 0, none⟩)) (some 6) rfl rfl (by kernel_rfl) (by kernel_rfl) (by kernel_rfl) (fun _ _ _ h => h) (Or.inl ⟨by kernel_rfl, fun wq hw => by go_simp⟩) hHeld ?_
  simp only [Act.put, List.setIfInBounds_toArray, List.set_cons_succ, List.set_cons_zero]
  refine drawn_take (i := 2) (v := .pointer (some ⟨h, 0, none⟩)) (some 7) rfl rfl (by kernel_rfl) (by kernel_rfl) (by kernel_rfl) (fun _ _ _ h => h) (Or.inl ⟨by kernel_rfl, fun wq hw => by go_simp⟩) hHeld ?_
  simp only [Act.put, List.setIfInBounds_toArray, List.set_cons_succ, List.set_cons_zero]
  refine drawn_take (i := 3) (v := .pointer (some ⟨h, 0, none⟩)) (some 8) rfl rfl (by kernel_rfl) (by kernel_rfl) (by kernel_rfl) (fun _ _ _ h => h) (Or.inl ⟨by kernel_rfl, fun wq hw => by go_simp⟩) hHeld ?_
  simp only [Act.put, List.setIfInBounds_toArray, List.set_cons_succ, List.set_cons_zero]
  refine drawn_take (i := 5) (v := .agg #[.slice a1 l1 c1, .int .i64 k1, .int .i64 p1]) (some 10) rfl rfl (by kernel_rfl) (by kernel_rfl) (by kernel_rfl) (fun _ _ _ h => h) (Or.inl ⟨by kernel_rfl, fun wq hw => by have q7 := cell_of_row _ _ 0 _ _ _ hw; have q8 := cell_of_row _ _ 1 _ _ _ hw; have q9 := cell_of_row _ _ 2 _ _ _ hw; go_simp⟩) hHeld ?_
  simp only [Act.put, List.setIfInBounds_toArray, List.set_cons_succ, List.set_cons_zero]
  refine wpAnyH_ready (rs := [4, 6]) (by kernel_rfl) (by simp) ?_
  refine rdy_val (i := 4) rfl rfl (some 9) rfl (.slice none 0 0) (w1.drew) (by have q9 := hh1; go_simp) qb (fun hHeld => ?_) (rdy_val (i := 6) rfl rfl (some 11) rfl (.slice (some ⟨w1.heap.size, 0, none⟩) 1 1) w2 (by rw [HW2.out]; go_simp) qb2 (fun hHeld => ?_) rdy_nil)
  · simp only [Act.put, List.setIfInBounds_toArray, List.set_cons_succ, List.set_cons_zero]
    refine wpAnyH_ready (rs := [6]) (by kernel_rfl) (by simp) ?_
    refine rdy_val (i := 6) rfl rfl (some 11) rfl (.slice (some ⟨w1.heap.size, 0, none⟩) 1 1) (w2) (by rw [HW2.out]; go_simp) (qb2) (fun hHeld => ?_) rdy_nil
    simp only [Act.put, List.setIfInBounds_toArray, List.set_cons_succ, List.set_cons_zero]
    refine wpAnyH_ready (rs := [7]) (by kernel_rfl) (by simp) ?_
    refine rdy_val (i := 7) rfl rfl (some 12) rfl (.slice (some ⟨g3, 0, none⟩) 1 c3) (w3) (appRun_exec (x := .tmp 9) (y := .tmp 11) (by kernel_rfl) (by kernel_rfl) (by kernel_rfl) hr3) (qb3) (fun hHeld => ?_) rdy_nil
    simp only [Act.put, List.setIfInBounds_toArray, List.set_cons_succ, List.set_cons_zero]
    refine drawn_take (i := 8) (v := .pointer (some ⟨h, 0, none⟩)) (some 13) rfl rfl (by kernel_rfl) (by kernel_rfl) (by kernel_rfl) (fun _ _ _ h => h) (Or.inl ⟨by kernel_rfl, fun wq hw => by go_simp⟩) hHeld ?_
    simp only [Act.put, List.setIfInBounds_toArray, List.set_cons_succ, List.set_cons_zero]
    refine drawn_take (i := 9) (v := .pointer (some ⟨h, 0, none⟩)) (some 14) rfl rfl (by kernel_rfl) (by kernel_rfl) (by kernel_rfl) (fun _ _ _ h => h) (Or.inl ⟨by kernel_rfl, fun wq hw => by go_simp⟩) hHeld ?_
    simp only [Act.put, List.setIfInBounds_toArray, List.set_cons_succ, List.set_cons_zero]
    refine wpAnyH_ready (rs := [10]) (by kernel_rfl) (by simp) ?_
    refine rdy_unit (i := 10) rfl rfl none rfl (w4) (by rw [HW4.out]; go_simp) (qb4) (fun hHeld => ?_) rdy_nil
    simp only [Act.put]
    refine wpAnyH_done (by kernel_rfl) ?_ _
    refine NoPanic.normal ?_
    clear hHeld
    clear hh1 hh20 h30 f30 qb qb2 qb3 qb4 hHeld hr3
    go_wp2_with fail
    go_loopw [4] (fun av wr => av = .int .i64 0 ∧ Hid (wr = w4)) (fun _ _ => 0)
    case atStart => exact ⟨rfl, hidn rfl⟩
    case round =>
      obtain ⟨rfl, HW⟩ := hrel
      have hw := HW.out
      subst hw
      go_wp2_with fail
      go_region
      go_wp2_with fail
      go_end0
      exact ⟨rfl, g3, c3, ⟨HH4.out, own_skip HO4.out ((Below.refl _ _).drew), HBH.out⟩, HB4.out.trans ((Below.refl _ _).drew), HFR.out⟩
  · simp only [Act.put, List.setIfInBounds_toArray, List.set_cons_succ, List.set_cons_zero]
    refine wpAnyH_ready (rs := [4]) (by kernel_rfl) (by simp) ?_
    refine rdy_val (i := 4) rfl rfl (some 9) rfl (.slice none 0 0) (w2) (by have q9 := hh20; go_simp) (qb2) (fun hHeld => ?_) rdy_nil
    simp only [Act.put, List.setIfInBounds_toArray, List.set_cons_succ, List.set_cons_zero]
    refine wpAnyH_ready (rs := [7]) (by kernel_rfl) (by simp) ?_
    refine rdy_val (i := 7) rfl rfl (some 12) rfl (.slice (some ⟨g3, 0, none⟩) 1 c3) (w3) (appRun_exec (x := .tmp 9) (y := .tmp 11) (by kernel_rfl) (by kernel_rfl) (by kernel_rfl) hr3) (qb3) (fun hHeld => ?_) rdy_nil
    simp only [Act.put, List.setIfInBounds_toArray, List.set_cons_succ, List.set_cons_zero]
    refine drawn_take (i := 8) (v := .pointer (some ⟨h, 0, none⟩)) (some 13) rfl rfl (by kernel_rfl) (by kernel_rfl) (by kernel_rfl) (fun _ _ _ h => h) (Or.inl ⟨by kernel_rfl, fun wq hw => by go_simp⟩) hHeld ?_
    simp only [Act.put, List.setIfInBounds_toArray, List.set_cons_succ, List.set_cons_zero]
    refine drawn_take (i := 9) (v := .pointer (some ⟨h, 0, none⟩)) (some 14) rfl rfl (by kernel_rfl) (by kernel_rfl) (by kernel_rfl) (fun _ _ _ h => h) (Or.inl ⟨by kernel_rfl, fun wq hw => by go_simp⟩) hHeld ?_
    simp only [Act.put, List.setIfInBounds_toArray, List.set_cons_succ, List.set_cons_zero]
    refine wpAnyH_ready (rs := [10]) (by kernel_rfl) (by simp) ?_
    refine rdy_unit (i := 10) rfl rfl none rfl (w4) (by rw [HW4.out]; go_simp) (qb4) (fun hHeld => ?_) rdy_nil
    simp only [Act.put]
    refine wpAnyH_done (by kernel_rfl) ?_ _
    refine NoPanic.normal ?_
    clear hHeld
    clear hh1 hh20 h30 f30 qb qb2 qb3 qb4 hHeld hr3
    go_wp2_with fail
    go_loopw [4] (fun av wr => av = .int .i64 0 ∧ Hid (wr = w4)) (fun _ _ => 0)
    case atStart => exact ⟨rfl, hidn rfl⟩
    case round =>
      obtain ⟨rfl, HW⟩ := hrel
      have hw := HW.out
      subst hw
      go_wp2_with fail
      go_region
      go_wp2_with fail
      go_end0
      exact ⟨rfl, g3, c3, ⟨HH4.out, own_skip HO4.out ((Below.refl _ _).drew), HBH.out⟩, HB4.out.trans ((Below.refl _ _).drew), HFR.out⟩

set_option maxHeartbeats 4000000 in
set_option maxRecDepth 100000 in
theorem push1 (B h : Nat) (b0 o0 : Nat) (g c l0 c0 : Nat) (k0 p0 : Int) (bb ob : Nat) (t0 t1 : Int) (l1 c1 : Nat) (k1 p1 : Int) (w : World) (hx : HpI B w h (.slice (some ⟨g, 0, none⟩) 1 c) [⟨some ⟨b0, o0, none⟩, l0, c0, k0, p0⟩]) (hB : B ≤ w.heap.size) (hl0 : 0 < l0) (hl1 : 0 < l1) (hbB0 : b0 < B) (hbB1 : bb < B) (ht0 : w.cell? ⟨b0, o0, none⟩ = some (.int .i64 t0)) (ht1 : w.cell? ⟨bb, ob, none⟩ = some (.int .i64 t1)) (hah : aheadB t1 t0 k1 k0 p1 p0 = false) :
    Calls Try.prog 31 #[.pointer (some ⟨h, 0, none⟩), .agg #[.slice (some ⟨bb, ob, none⟩) l1 c1, .int .i64 k1, .int .i64 p1]] w (PushP B w h (.slice (some ⟨g, 0, none⟩) 1 c) [⟨some ⟨b0, o0, none⟩, l0, c0, k0, p0⟩, ⟨some ⟨bb, ob, none⟩, l1, c1, k1, p1⟩]) := by
  obtain ⟨hh, ho, hBh⟩ := hx
  have hhs : h < w.heap.size := (Array.getElem?_eq_some_iff.1 hh).1
  obtain ⟨w1, hw1⟩ : ∃ w1, w1 = w.alloc (.cells #[.slice (some ⟨bb, ob, none⟩) l1 c1, .int .i64 k1, .int .i64 p1] 70) := ⟨_, rfl⟩
  have b1 : Below w.heap.size w w1 := by rw [hw1]; exact (Below.refl _ w).alloc (Nat.le_refl _) _
  have s1 : w1.heap.size = w.heap.size + 1 := by rw [hw1]; simp
  have qb : w1.heap[w.heap.size]? = some (.cells #[.slice (some ⟨bb, ob, none⟩) l1 c1, .int .i64 k1, .int .i64 p1] 70 (0, 0)) := by rw [hw1]; exact heap_alloc_new w _
  obtain ⟨w2, hw2⟩ : ∃ w2, w2 = w1.drew.alloc (.cells #[.slice (some ⟨bb, ob, none⟩) l1 c1, .int .i64 k1, .int .i64 p1] 70) := ⟨_, rfl⟩
  have b12 : Below w1.heap.size w1 w2 := by rw [hw2]; exact ((Below.refl _ w1).drew).alloc (Nat.le_refl _) _
  have b2 : Below w.heap.size w w2 := b1.trans (b12.mono (by omega))
  have qn : w2.heap[w1.heap.size]? = some (.cells #[.slice (some ⟨bb, ob, none⟩) l1 c1, .int .i64 k1, .int .i64 p1] 70 (0, 0)) := by rw [hw2]; exact heap_alloc_new w1.drew _
  have qb2 : w2.heap[w.heap.size]? = some (.cells #[.slice (some ⟨bb, ob, none⟩) l1 c1, .int .i64 k1, .int .i64 p1] 70 (0, 0)) := (b12.block _ (by omega)).trans qb
  have hh2 : HpB w2 h (.slice (some ⟨g, 0, none⟩) 1 c) := (b2.block h hhs).trans hh
  obtain ⟨g3, c3, w3, hr3, ho3, hg3⟩ := app_run1 (own_skip ho b2) (Nat.le_trans hB b2.size) (by simp) (⟨some ⟨bb, ob, none⟩, l1, c1, k1, p1⟩ : Run) ⟨w1.heap.size, 0, none⟩ (fun j u hj => by
    have hjl : j < 3 := (List.getElem?_eq_some_iff.1 hj).1
    rw [add_none, Nat.zero_add, cell_of_row _ _ _ _ _ _ qn]
    match j, hjl, hj with
    | 0, _, hj => cases hj; rfl
    | 1, _, hj => cases hj; rfl
    | 2, _, hj => cases hj; rfl)
  have hne : ∀ {k : Nat} {cs : Array Value} {t : TypeId}, w2.heap[k]? = some (.cells cs t (0, 0)) → t ≠ 70 → some k ≠ (.slice (some ⟨g, 0, none⟩) 1 c : Value).ownBlock := fun {k cs t} hk ht e => by
    rcases (own_skip ho b2).2 with ⟨h1, _⟩ | ⟨g', _, cur, h1, _, h2, _⟩
    · rw [h1] at e; cases e
    · rw [h1] at e
      have e2 : k = g' := by simpa [Value.ownBlock] using e
      subst e2
      rw [hk] at h2
      cases h2
      exact ht rfl
  have hlt : ∀ k, (.slice (some ⟨g, 0, none⟩) 1 c : Value).ownBlock = some k → k < w.heap.size := fun k hk => (ho.lt k hk).2
  have hh3 : HpB w3 h (.slice (some ⟨g, 0, none⟩) 1 c) := (hg3.block h (Array.getElem?_eq_some_iff.1 hh2).1 (hne hh2 (by decide))).trans hh2
  have qb3 : w3.heap[w.heap.size]? = some (.cells #[.slice (some ⟨bb, ob, none⟩) l1 c1, .int .i64 k1, .int .i64 p1] 70 (0, 0)) := (hg3.block _ (Array.getElem?_eq_some_iff.1 qb2).1 (fun e => by have := hlt _ e.symm; omega)).trans qb2
  have b3 : Below B w w3 := (b2.mono hB).trans ((Below.refl B w2).grown hg3 (Nat.le_trans hB b2.size) (fun k hk => (ho.lt k hk).1))
  have h30 : w3.cell? ⟨h, 0, none⟩ = some (.slice (some ⟨g, 0, none⟩) 1 c) := cell_of_row w3 h 0 _ _ _ hh3
  have f30 := unfrozen_of_block hh3 0
  obtain ⟨w4, hw4⟩ : ∃ w4, w4 = w3.setCell ⟨h, 0, none⟩ (.slice (some ⟨g3, 0, none⟩) 2 c3) := ⟨_, rfl⟩
  have hh4 : HpB w4 h (.slice (some ⟨g3, 0, none⟩) 2 c3) := by rw [hw4]; exact block_setCell hh3 _
  have k4 : ∀ k, k ≠ h → w4.heap[k]? = w3.heap[k]? := fun k hk => by rw [hw4]; exact Below.heap_setCell _ ⟨h, 0, none⟩ _ _ hk
  have qb4 := (k4 _ (by omega)).trans qb3
  have ho4 : w4.ownsRow B 70 3 (.slice (some ⟨g3, 0, none⟩) 2 c3) 2 (rvs [⟨some ⟨b0, o0, none⟩, l0, c0, k0, p0⟩, ⟨some ⟨bb, ob, none⟩, l1, c1, k1, p1⟩]) := own_stay ho3 (fun k hk => k4 k (fun e => by
    subst e
    obtain ⟨_, _, cur, hcur⟩ := own_blk ho3
    have e2 : g3 = k := by simpa [Value.ownBlock] using hk
    subst e2
    rw [show w3.heap[g3]? = _ from hh3] at hcur
    cases hcur))
  have b4 : Below B w w4 := by rw [hw4]; exact b3.setCell (p := ⟨h, 0, none⟩) hBh _
  have h40 : w4.cell? ⟨h, 0, none⟩ = some (.slice (some ⟨g3, 0, none⟩) 2 c3) := cell_of_row w4 h 0 _ _ _ hh4
  have hh1 : w1.drew.cell? ⟨h, 0, none⟩ = some (.slice (some ⟨g, 0, none⟩) 1 c) := cell_of_row w1.drew h 0 _ _ _ (show w1.drew.heap[h]? = _ from (b1.block h hhs).trans hh)
  have hh20 : w2.cell? ⟨h, 0, none⟩ = some (.slice (some ⟨g, 0, none⟩) 1 c) := cell_of_row w2 h 0 _ _ _ hh2
  have HH4 := hidn hh4
  have HO4 := hidn ho4
  have HB4 := hidn b4
  have HW1 := hidn hw1
  have HS1 := hidn s1
  have HBH := hidn hBh
  have HW2 := hidn hw2
  have HW4 := hidn hw4
  have HSZ : Hid (w.heap.size ≤ w4.heap.size) := hidn (by rw [hw4]; exact Nat.le_trans b2.size (by have := ((Below.refl 0 w2).grown hg3 (Nat.zero_le _) (fun k hk => Nat.zero_le _)).size; simpa [World.setCell] using this))
  have HFR : Hid (∀ k, k < w.heap.size → k ≠ h → some k ≠ (.slice (some ⟨g, 0, none⟩) 1 c : Value).ownBlock → w4.heap[k]? = w.heap[k]?) := hidn (fun k hk h1 h2 => (k4 k h1).trans ((hg3.block k (Nat.lt_of_lt_of_le hk b2.size) h2).trans (b2.block k hk)))
  clear hw1 hw2 hw4 ho3 k4 hh ho hne hlt hg3 b3 b12 b2 hh2 hh3
  go_enter Try.func31, Try.ntmps31
  go_wp2_with fail
  rw [← HW1.out]
  refine wp_region_noPanic ?_
  refine wp_region_held_drew (S := fun w' => w'.heap[w.heap.size]? = some (.cells #[.slice (some ⟨bb, ob, none⟩) l1 c1, .int .i64 k1, .int .i64 p1] 70 (0, 0))) (by kernel_rfl) (qb) (fun hHeld => ?_)
  refine drawn_take (i := 0) (v := .pointer (some ⟨h, 0, none⟩)) (some 5) rfl rfl (by kernel_rfl) (by kernel_rfl) (by kernel_rfl) (fun _ _ _ h => h) (Or.inl ⟨by kernel_rfl, fun wq hw => by go_simp⟩) hHeld ?_
  simp only [Act.put, List.setIfInBounds_toArray, List.set_cons_succ, List.set_cons_zero]
  refine drawn_take (i := 1) (v := .pointer (some ⟨h, 0, none⟩)) (some 6) rfl rfl (by kernel_rfl) (by kernel_rfl) (by kernel_rfl) (fun _ _ _ h => h) (Or.inl ⟨by kernel_rfl, fun wq hw => by go_simp⟩) hHeld ?_
  simp only [Act.put, List.setIfInBounds_toArray, List.set_cons_succ, List.set_cons_zero]
  refine drawn_take (i := 2) (v := .pointer (some ⟨h, 0, none⟩)) (some 7) rfl rfl (by kernel_rfl) (by kernel_rfl) (by kernel_rfl) (fun _ _ _ h => h) (Or.inl ⟨by kernel_rfl, fun wq hw => by go_simp⟩) hHeld ?_
  simp only [Act.put, List.setIfInBounds_toArray, List.set_cons_succ, List.set_cons_zero]
  refine drawn_take (i := 3) (v := .pointer (some ⟨h, 0, none⟩)) (some 8) rfl rfl (by kernel_rfl) (by kernel_rfl) (by kernel_rfl) (fun _ _ _ h => h) (Or.inl ⟨by kernel_rfl, fun wq hw => by go_simp⟩) hHeld ?_
  simp only [Act.put, List.setIfInBounds_toArray, List.set_cons_succ, List.set_cons_zero]
  refine drawn_take (i := 5) (v := .agg #[.slice (some ⟨bb, ob, none⟩) l1 c1, .int .i64 k1, .int .i64 p1]) (some 10) rfl rfl (by kernel_rfl) (by kernel_rfl) (by kernel_rfl) (fun _ _ _ h => h) (Or.inl ⟨by kernel_rfl, fun wq hw => by have q7 := cell_of_row _ _ 0 _ _ _ hw; have q8 := cell_of_row _ _ 1 _ _ _ hw; have q9 := cell_of_row _ _ 2 _ _ _ hw; go_simp⟩) hHeld ?_
  simp only [Act.put, List.setIfInBounds_toArray, List.set_cons_succ, List.set_cons_zero]
  refine wpAnyH_ready (rs := [4, 6]) (by kernel_rfl) (by simp) ?_
  refine rdy_val (i := 4) rfl rfl (some 9) rfl (.slice (some ⟨g, 0, none⟩) 1 c) (w1.drew) (by have q9 := hh1; go_simp) qb (fun hHeld => ?_) (rdy_val (i := 6) rfl rfl (some 11) rfl (.slice (some ⟨w1.heap.size, 0, none⟩) 1 1) w2 (by rw [HW2.out]; go_simp) qb2 (fun hHeld => ?_) rdy_nil)
  · simp only [Act.put, List.setIfInBounds_toArray, List.set_cons_succ, List.set_cons_zero]
    refine wpAnyH_ready (rs := [6]) (by kernel_rfl) (by simp) ?_
    refine rdy_val (i := 6) rfl rfl (some 11) rfl (.slice (some ⟨w1.heap.size, 0, none⟩) 1 1) (w2) (by rw [HW2.out]; go_simp) (qb2) (fun hHeld => ?_) rdy_nil
    simp only [Act.put, List.setIfInBounds_toArray, List.set_cons_succ, List.set_cons_zero]
    refine wpAnyH_ready (rs := [7]) (by kernel_rfl) (by simp) ?_
    refine rdy_val (i := 7) rfl rfl (some 12) rfl (.slice (some ⟨g3, 0, none⟩) 2 c3) (w3) (appRun_exec (x := .tmp 9) (y := .tmp 11) (by kernel_rfl) (by kernel_rfl) (by kernel_rfl) hr3) (qb3) (fun hHeld => ?_) rdy_nil
    simp only [Act.put, List.setIfInBounds_toArray, List.set_cons_succ, List.set_cons_zero]
    refine drawn_take (i := 8) (v := .pointer (some ⟨h, 0, none⟩)) (some 13) rfl rfl (by kernel_rfl) (by kernel_rfl) (by kernel_rfl) (fun _ _ _ h => h) (Or.inl ⟨by kernel_rfl, fun wq hw => by go_simp⟩) hHeld ?_
    simp only [Act.put, List.setIfInBounds_toArray, List.set_cons_succ, List.set_cons_zero]
    refine drawn_take (i := 9) (v := .pointer (some ⟨h, 0, none⟩)) (some 14) rfl rfl (by kernel_rfl) (by kernel_rfl) (by kernel_rfl) (fun _ _ _ h => h) (Or.inl ⟨by kernel_rfl, fun wq hw => by go_simp⟩) hHeld ?_
    simp only [Act.put, List.setIfInBounds_toArray, List.set_cons_succ, List.set_cons_zero]
    refine wpAnyH_ready (rs := [10]) (by kernel_rfl) (by simp) ?_
    refine rdy_unit (i := 10) rfl rfl none rfl (w4) (by rw [HW4.out]; go_simp) (qb4) (fun hHeld => ?_) rdy_nil
    simp only [Act.put]
    refine wpAnyH_done (by kernel_rfl) ?_ _
    refine NoPanic.normal ?_
    clear hHeld
    clear hh1 hh20 h30 f30 qb qb2 qb3 qb4 hHeld hr3
    go_wp2_with fail
    go_loopw [4] (fun av wr => av = .int .i64 1 ∧ Hid (wr = w4)) (fun _ _ => 0)
    case atStart => exact ⟨rfl, hidn rfl⟩
    case round =>
      obtain ⟨rfl, HW⟩ := hrel
      have hw := HW.out
      subst hw
      have h41 : wr.cell? ⟨h, 1, none⟩ = some (.func (.func 30) #[] #[]) := cell_of_row wr h 1 _ _ _ HH4.out
      have e := HO4.out.cells (g := g3) rfl
      have e0 := e 0 _ rfl
      have e1 := e 1 _ rfl
      have e2 := e 2 _ rfl
      have e3 := e 3 _ rfl
      have e4 := e 4 _ rfl
      have e5 := e 5 _ rfl
      rw [add_none, Nat.zero_add] at e0 e1 e2 e3 e4 e5
      have HRD : Hid (∀ w', Below wr.heap.size wr w' → w'.cell? ⟨h, 0, none⟩ = some (.slice (some ⟨g3, 0, none⟩) 2 c3) ∧ w'.cell? ⟨h, 1, none⟩ = some (.func (.func 30) #[] #[]) ∧ w'.cell? ⟨g3, 0, none⟩ = some (.slice (some ⟨b0, o0, none⟩) l0 c0) ∧ w'.cell? ⟨g3, 1, none⟩ = some (.int .i64 k0) ∧ w'.cell? ⟨g3, 2, none⟩ = some (.int .i64 p0) ∧ w'.cell? ⟨g3, 3, none⟩ = some (.slice (some ⟨bb, ob, none⟩) l1 c1) ∧ w'.cell? ⟨g3, 4, none⟩ = some (.int .i64 k1) ∧ w'.cell? ⟨g3, 5, none⟩ = some (.int .i64 p1)) := hidn (fun w' hb => ⟨(hb.cell (block_lt_of_cell h40)).trans h40, (hb.cell (block_lt_of_cell h41)).trans h41, (hb.cell (block_lt_of_cell e0)).trans e0, (hb.cell (block_lt_of_cell e1)).trans e1, (hb.cell (block_lt_of_cell e2)).trans e2, (hb.cell (block_lt_of_cell e3)).trans e3, (hb.cell (block_lt_of_cell e4)).trans e4, (hb.cell (block_lt_of_cell e5)).trans e5⟩)
      have HAH := hidn (ahead_any bb ob l1 c1 b0 o0 l0 c0 t1 t0 k1 k0 p1 p0 wr.drew hl1 hl0 ((HB4.out.cell (p := ⟨bb, ob, none⟩) hbB1).trans ht1) ((HB4.out.cell (p := ⟨b0, o0, none⟩) hbB0).trans ht0))
      rw [hah] at HAH
      have nw0 : IntKind.i64.wrap 0 = 0 := by decide
      clear e e0 e1 e2 e3 e4 e5 h40 h41 ht0 ht1 hah
      go_wp2_with fail
      refine wp_region_noPanic ?_
      refine wp_region_held_drew (S := fun w' => Below wr.heap.size wr w') (by kernel_rfl) ((Below.refl _ wr).drew) (fun hHeld => ?_)
      refine drawn_take (i := 0) (v := .int .i64 1) (some 21) rfl rfl (by kernel_rfl) (by kernel_rfl) (by kernel_rfl) (fun _ _ _ h => h) (Or.inl ⟨by kernel_rfl, fun wq hw => by go_simp⟩) hHeld ?_
      simp only [Act.put, List.setIfInBounds_toArray, List.set_cons_succ, List.set_cons_zero]
      refine drawn_take (i := 1) (v := .bool true) (some 22) rfl rfl (by kernel_rfl) (by kernel_rfl) (by kernel_rfl) (fun _ _ _ h => h) (Or.inl ⟨by kernel_rfl, fun wq hw => by go_simp⟩) hHeld ?_
      simp only [Act.put, List.setIfInBounds_toArray, List.set_cons_succ, List.set_cons_zero]
      refine drawn_take (i := 2) (v := .bool true) (some 23) rfl rfl (by kernel_rfl) (by kernel_rfl) (by kernel_rfl) (fun _ _ _ h => h) (Or.inl ⟨by kernel_rfl, fun wq hw => by go_simp⟩) hHeld ?_
      simp only [Act.put, List.setIfInBounds_toArray, List.set_cons_succ, List.set_cons_zero]
      refine drawn_take (i := 3) (v := .pointer (some ⟨h, 0, none⟩)) (some 24) rfl rfl (by kernel_rfl) (by kernel_rfl) (by kernel_rfl) (fun _ _ _ h => h) (Or.inl ⟨by kernel_rfl, fun wq hw => by go_simp⟩) hHeld ?_
      simp only [Act.put, List.setIfInBounds_toArray, List.set_cons_succ, List.set_cons_zero]
      refine drawn_take (i := 4) (v := .pointer (some ⟨h, 0, none⟩)) (some 25) rfl rfl (by kernel_rfl) (by kernel_rfl) (by kernel_rfl) (fun _ _ _ h => h) (Or.inl ⟨by kernel_rfl, fun wq hw => by go_simp⟩) hHeld ?_
      simp only [Act.put, List.setIfInBounds_toArray, List.set_cons_succ, List.set_cons_zero]
      refine drawn_take (i := 5) (v := .pointer (some ⟨h, 1, none⟩)) (some 26) rfl rfl (by kernel_rfl) (by kernel_rfl) (by kernel_rfl) (fun _ _ _ h => h) (Or.inl ⟨by kernel_rfl, fun wq hw => by go_simp⟩) hHeld ?_
      simp only [Act.put, List.setIfInBounds_toArray, List.set_cons_succ, List.set_cons_zero]
      refine drawn_take (i := 6) (v := .func (.func 30) #[] #[]) (some 27) rfl rfl (by kernel_rfl) (by kernel_rfl) (by kernel_rfl) (fun _ _ _ h => h) (Or.inl ⟨by kernel_rfl, fun wq hw => by have q9 := (HRD.out _ hw).2.1; go_simp⟩) hHeld ?_
      simp only [Act.put, List.setIfInBounds_toArray, List.set_cons_succ, List.set_cons_zero]
      refine drawn_take (i := 7) (v := .pointer (some ⟨h, 0, none⟩)) (some 28) rfl rfl (by kernel_rfl) (by kernel_rfl) (by kernel_rfl) (fun _ _ _ h => h) (Or.inl ⟨by kernel_rfl, fun wq hw => by go_simp⟩) hHeld ?_
      simp only [Act.put, List.setIfInBounds_toArray, List.set_cons_succ, List.set_cons_zero]
      refine drawn_take (i := 8) (v := .pointer (some ⟨h, 0, none⟩)) (some 29) rfl rfl (by kernel_rfl) (by kernel_rfl) (by kernel_rfl) (fun _ _ _ h => h) (Or.inl ⟨by kernel_rfl, fun wq hw => by go_simp⟩) hHeld ?_
      simp only [Act.put, List.setIfInBounds_toArray, List.set_cons_succ, List.set_cons_zero]
      refine drawn_take (i := 9) (v := .pointer (some ⟨h, 0, none⟩)) (some 30) rfl rfl (by kernel_rfl) (by kernel_rfl) (by kernel_rfl) (fun _ _ _ h => h) (Or.inl ⟨by kernel_rfl, fun wq hw => by go_simp⟩) hHeld ?_
      simp only [Act.put, List.setIfInBounds_toArray, List.set_cons_succ, List.set_cons_zero]
      refine drawn_take (i := 10) (v := .slice (some ⟨g3, 0, none⟩) 2 c3) (some 31) rfl rfl (by kernel_rfl) (by kernel_rfl) (by kernel_rfl) (fun _ _ _ h => h) (Or.inl ⟨by kernel_rfl, fun wq hw => by have q9 := (HRD.out _ hw).1; go_simp⟩) hHeld ?_
      simp only [Act.put, List.setIfInBounds_toArray, List.set_cons_succ, List.set_cons_zero]
      refine drawn_take (i := 11) (v := .int .i64 1) (some 32) rfl rfl (by kernel_rfl) (by kernel_rfl) (by kernel_rfl) (fun _ _ _ h => h) (Or.inl ⟨by kernel_rfl, fun wq hw => by go_simp⟩) hHeld ?_
      simp only [Act.put, List.setIfInBounds_toArray, List.set_cons_succ, List.set_cons_zero]
      refine drawn_take (i := 12) (v := .pointer (some ⟨g3, 3, none⟩)) (some 33) rfl rfl (by kernel_rfl) (by kernel_rfl) (by kernel_rfl) (fun _ _ _ h => h) (Or.inl ⟨by kernel_rfl, fun wq hw => by go_simp⟩) hHeld ?_
      simp only [Act.put, List.setIfInBounds_toArray, List.set_cons_succ, List.set_cons_zero]
      refine drawn_take (i := 13) (v := .agg #[.slice (some ⟨bb, ob, none⟩) l1 c1, .int .i64 k1, .int .i64 p1]) (some 34) rfl rfl (by kernel_rfl) (by kernel_rfl) (by kernel_rfl) (fun _ _ _ h => h) (Or.inl ⟨by kernel_rfl, fun wq hw => by obtain ⟨_, _, _, _, _, q7, q8, q9⟩ := HRD.out _ hw; go_simp⟩) hHeld ?_
      simp only [Act.put, List.setIfInBounds_toArray, List.set_cons_succ, List.set_cons_zero]
      refine drawn_take (i := 14) (v := .pointer (some ⟨h, 0, none⟩)) (some 35) rfl rfl (by kernel_rfl) (by kernel_rfl) (by kernel_rfl) (fun _ _ _ h => h) (Or.inl ⟨by kernel_rfl, fun wq hw => by go_simp⟩) hHeld ?_
      simp only [Act.put, List.setIfInBounds_toArray, List.set_cons_succ, List.set_cons_zero]
      refine drawn_take (i := 15) (v := .pointer (some ⟨h, 0, none⟩)) (some 36) rfl rfl (by kernel_rfl) (by kernel_rfl) (by kernel_rfl) (fun _ _ _ h => h) (Or.inl ⟨by kernel_rfl, fun wq hw => by go_simp⟩) hHeld ?_
      simp only [Act.put, List.setIfInBounds_toArray, List.set_cons_succ, List.set_cons_zero]
      refine drawn_take (i := 16) (v := .pointer (some ⟨h, 0, none⟩)) (some 37) rfl rfl (by kernel_rfl) (by kernel_rfl) (by kernel_rfl) (fun _ _ _ h => h) (Or.inl ⟨by kernel_rfl, fun wq hw => by go_simp⟩) hHeld ?_
      simp only [Act.put, List.setIfInBounds_toArray, List.set_cons_succ, List.set_cons_zero]
      refine drawn_take (i := 17) (v := .slice (some ⟨g3, 0, none⟩) 2 c3) (some 38) rfl rfl (by kernel_rfl) (by kernel_rfl) (by kernel_rfl) (fun _ _ _ h => h) (Or.inl ⟨by kernel_rfl, fun wq hw => by have q9 := (HRD.out _ hw).1; go_simp⟩) hHeld ?_
      simp only [Act.put, List.setIfInBounds_toArray, List.set_cons_succ, List.set_cons_zero]
      refine drawn_take (i := 18) (v := .int .i64 1) (some 39) rfl rfl (by kernel_rfl) (by kernel_rfl) (by kernel_rfl) (fun _ _ _ h => h) (Or.inl ⟨by kernel_rfl, fun wq hw => by go_simp⟩) hHeld ?_
      simp only [Act.put, List.setIfInBounds_toArray, List.set_cons_succ, List.set_cons_zero]
      refine wpAnyH_ready (rs := [19]) (by kernel_rfl) (by simp) ?_
      refine rdy_callw (i := 19) rfl (by kernel_rfl) (some 40) rfl 38 #[.int .i64 1] (call1_run (x := 39) rfl (fun _ _ => rfl) (by kernel_rfl)) (fun r w9 => r = .int .i64 0 ∧ w9 = wr.drew) ((above_one _).mono (by rintro e w9 ⟨rfl, h9⟩; exact ⟨_, rfl, rfl, h9⟩)) (fun r w9 hR => ?_) rdy_nil
      obtain ⟨rfl, rfl⟩ := hR
      refine ⟨hHeld, fun hHeld => ?_⟩
      simp only [Act.put, List.setIfInBounds_toArray, List.set_cons_succ, List.set_cons_zero]
      refine drawn_take (i := 20) (v := .pointer (some ⟨g3, 0, none⟩)) (some 41) rfl rfl (by kernel_rfl) (by kernel_rfl) (by kernel_rfl) (fun _ _ _ h => h) (Or.inl ⟨by kernel_rfl, fun wq hw => by go_simp⟩) hHeld ?_
      simp only [Act.put, List.setIfInBounds_toArray, List.set_cons_succ, List.set_cons_zero]
      refine drawn_take (i := 21) (v := .agg #[.slice (some ⟨b0, o0, none⟩) l0 c0, .int .i64 k0, .int .i64 p0]) (some 42) rfl rfl (by kernel_rfl) (by kernel_rfl) (by kernel_rfl) (fun _ _ _ h => h) (Or.inl ⟨by kernel_rfl, fun wq hw => by obtain ⟨_, _, q7, q8, q9, _⟩ := HRD.out _ hw; go_simp⟩) hHeld ?_
      simp only [Act.put, List.setIfInBounds_toArray, List.set_cons_succ, List.set_cons_zero]
      refine wpAnyH_ready (rs := [22]) (by kernel_rfl) (by simp) ?_
      refine rdy_callw (i := 22) rfl (by kernel_rfl) (some 43) rfl 30 #[.agg #[.slice (some ⟨bb, ob, none⟩) l1 c1, .int .i64 k1, .int .i64 p1], .agg #[.slice (some ⟨b0, o0, none⟩) l0 c0, .int .i64 k0, .int .i64 p0]] (callV2_run (z := 27) (x := 34) (y := 42) rfl (by kernel_rfl) (fun _ _ => rfl) (by kernel_rfl) (by kernel_rfl)) (fun r w9 => r = .bool false ∧ Below wr.heap.size wr w9) (HAH.out.mono (by rintro e w9 ⟨rfl, h9⟩; exact ⟨_, rfl, rfl, ((Below.refl _ wr).drew).trans h9⟩)) (fun r w9 hR => ?_) rdy_nil
      obtain ⟨rfl, hb9⟩ := hR
      refine ⟨hb9, fun hHeld => ?_⟩
      simp only [Act.put, List.setIfInBounds_toArray, List.set_cons_succ, List.set_cons_zero]
      refine drawn_take (i := 23) (v := .bool false) (some 44) rfl rfl (by kernel_rfl) (by kernel_rfl) (by kernel_rfl) (fun _ _ _ h => h) (Or.inl ⟨by kernel_rfl, fun wq hw => by go_simp⟩) hHeld ?_
      simp only [Act.put, List.setIfInBounds_toArray, List.set_cons_succ, List.set_cons_zero]
      have HB9 := hidn hb9
      clear hb9
      refine wpAnyH_done (by kernel_rfl) ?_ _
      refine NoPanic.normal ?_
      clear hHeld
      go_wp2_with fail
      go_end0
      exact ⟨rfl, g3, c3, ⟨(HB9.out.block h (Array.getElem?_eq_some_iff.1 HH4.out).1).trans HH4.out, own_skip HO4.out HB9.out, HBH.out⟩, HB4.out.trans (HB9.out.mono (Nat.le_trans hB HB4.out.size)), fun k hk h1 h2 => (HB9.out.block k (Nat.lt_of_lt_of_le hk HSZ.out)).trans (HFR.out k hk h1 h2)⟩
  · simp only [Act.put, List.setIfInBounds_toArray, List.set_cons_succ, List.set_cons_zero]
    refine wpAnyH_ready (rs := [4]) (by kernel_rfl) (by simp) ?_
    refine rdy_val (i := 4) rfl rfl (some 9) rfl (.slice (some ⟨g, 0, none⟩) 1 c) (w2) (by have q9 := hh20; go_simp) (qb2) (fun hHeld => ?_) rdy_nil
    simp only [Act.put, List.setIfInBounds_toArray, List.set_cons_succ, List.set_cons_zero]
    refine wpAnyH_ready (rs := [7]) (by kernel_rfl) (by simp) ?_
    refine rdy_val (i := 7) rfl rfl (some 12) rfl (.slice (some ⟨g3, 0, none⟩) 2 c3) (w3) (appRun_exec (x := .tmp 9) (y := .tmp 11) (by kernel_rfl) (by kernel_rfl) (by kernel_rfl) hr3) (qb3) (fun hHeld => ?_) rdy_nil
    simp only [Act.put, List.setIfInBounds_toArray, List.set_cons_succ, List.set_cons_zero]
    refine drawn_take (i := 8) (v := .pointer (some ⟨h, 0, none⟩)) (some 13) rfl rfl (by kernel_rfl) (by kernel_rfl) (by kernel_rfl) (fun _ _ _ h => h) (Or.inl ⟨by kernel_rfl, fun wq hw => by go_simp⟩) hHeld ?_
    simp only [Act.put, List.setIfInBounds_toArray, List.set_cons_succ, List.set_cons_zero]
    refine drawn_take (i := 9) (v := .pointer (some ⟨h, 0, none⟩)) (some 14) rfl rfl (by kernel_rfl) (by kernel_rfl) (by kernel_rfl) (fun _ _ _ h => h) (Or.inl ⟨by kernel_rfl, fun wq hw => by go_simp⟩) hHeld ?_
    simp only [Act.put, List.setIfInBounds_toArray, List.set_cons_succ, List.set_cons_zero]
    refine wpAnyH_ready (rs := [10]) (by kernel_rfl) (by simp) ?_
    refine rdy_unit (i := 10) rfl rfl none rfl (w4) (by rw [HW4.out]; go_simp) (qb4) (fun hHeld => ?_) rdy_nil
    simp only [Act.put]
    refine wpAnyH_done (by kernel_rfl) ?_ _
    refine NoPanic.normal ?_
    clear hHeld
    clear hh1 hh20 h30 f30 qb qb2 qb3 qb4 hHeld hr3
    go_wp2_with fail
    go_loopw [4] (fun av wr => av = .int .i64 1 ∧ Hid (wr = w4)) (fun _ _ => 0)
    case atStart => exact ⟨rfl, hidn rfl⟩
    case round =>
      obtain ⟨rfl, HW⟩ := hrel
      have hw := HW.out
      subst hw
      have h41 : wr.cell? ⟨h, 1, none⟩ = some (.func (.func 30) #[] #[]) := cell_of_row wr h 1 _ _ _ HH4.out
      have e := HO4.out.cells (g := g3) rfl
      have e0 := e 0 _ rfl
      have e1 := e 1 _ rfl
      have e2 := e 2 _ rfl
      have e3 := e 3 _ rfl
      have e4 := e 4 _ rfl
      have e5 := e 5 _ rfl
      rw [add_none, Nat.zero_add] at e0 e1 e2 e3 e4 e5
      have HRD : Hid (∀ w', Below wr.heap.size wr w' → w'.cell? ⟨h, 0, none⟩ = some (.slice (some ⟨g3, 0, none⟩) 2 c3) ∧ w'.cell? ⟨h, 1, none⟩ = some (.func (.func 30) #[] #[]) ∧ w'.cell? ⟨g3, 0, none⟩ = some (.slice (some ⟨b0, o0, none⟩) l0 c0) ∧ w'.cell? ⟨g3, 1, none⟩ = some (.int .i64 k0) ∧ w'.cell? ⟨g3, 2, none⟩ = some (.int .i64 p0) ∧ w'.cell? ⟨g3, 3, none⟩ = some (.slice (some ⟨bb, ob, none⟩) l1 c1) ∧ w'.cell? ⟨g3, 4, none⟩ = some (.int .i64 k1) ∧ w'.cell? ⟨g3, 5, none⟩ = some (.int .i64 p1)) := hidn (fun w' hb => ⟨(hb.cell (block_lt_of_cell h40)).trans h40, (hb.cell (block_lt_of_cell h41)).trans h41, (hb.cell (block_lt_of_cell e0)).trans e0, (hb.cell (block_lt_of_cell e1)).trans e1, (hb.cell (block_lt_of_cell e2)).trans e2, (hb.cell (block_lt_of_cell e3)).trans e3, (hb.cell (block_lt_of_cell e4)).trans e4, (hb.cell (block_lt_of_cell e5)).trans e5⟩)
      have HAH := hidn (ahead_any bb ob l1 c1 b0 o0 l0 c0 t1 t0 k1 k0 p1 p0 wr.drew hl1 hl0 ((HB4.out.cell (p := ⟨bb, ob, none⟩) hbB1).trans ht1) ((HB4.out.cell (p := ⟨b0, o0, none⟩) hbB0).trans ht0))
      rw [hah] at HAH
      have nw0 : IntKind.i64.wrap 0 = 0 := by decide
      clear e e0 e1 e2 e3 e4 e5 h40 h41 ht0 ht1 hah
      go_wp2_with fail
      refine wp_region_noPanic ?_
      refine wp_region_held_drew (S := fun w' => Below wr.heap.size wr w') (by kernel_rfl) ((Below.refl _ wr).drew) (fun hHeld => ?_)
      refine drawn_take (i := 0) (v := .int .i64 1) (some 21) rfl rfl (by kernel_rfl) (by kernel_rfl) (by kernel_rfl) (fun _ _ _ h => h) (Or.inl ⟨by kernel_rfl, fun wq hw => by go_simp⟩) hHeld ?_
      simp only [Act.put, List.setIfInBounds_toArray, List.set_cons_succ, List.set_cons_zero]
      refine drawn_take (i := 1) (v := .bool true) (some 22) rfl rfl (by kernel_rfl) (by kernel_rfl) (by kernel_rfl) (fun _ _ _ h => h) (Or.inl ⟨by kernel_rfl, fun wq hw => by go_simp⟩) hHeld ?_
      simp only [Act.put, List.setIfInBounds_toArray, List.set_cons_succ, List.set_cons_zero]
      refine drawn_take (i := 2) (v := .bool true) (some 23) rfl rfl (by kernel_rfl) (by kernel_rfl) (by kernel_rfl) (fun _ _ _ h => h) (Or.inl ⟨by kernel_rfl, fun wq hw => by go_simp⟩) hHeld ?_
      simp only [Act.put, List.setIfInBounds_toArray, List.set_cons_succ, List.set_cons_zero]
      refine drawn_take (i := 3) (v := .pointer (some ⟨h, 0, none⟩)) (some 24) rfl rfl (by kernel_rfl) (by kernel_rfl) (by kernel_rfl) (fun _ _ _ h => h) (Or.inl ⟨by kernel_rfl, fun wq hw => by go_simp⟩) hHeld ?_
      simp only [Act.put, List.setIfInBounds_toArray, List.set_cons_succ, List.set_cons_zero]
      refine drawn_take (i := 4) (v := .pointer (some ⟨h, 0, none⟩)) (some 25) rfl rfl (by kernel_rfl) (by kernel_rfl) (by kernel_rfl) (fun _ _ _ h => h) (Or.inl ⟨by kernel_rfl, fun wq hw => by go_simp⟩) hHeld ?_
      simp only [Act.put, List.setIfInBounds_toArray, List.set_cons_succ, List.set_cons_zero]
      refine drawn_take (i := 5) (v := .pointer (some ⟨h, 1, none⟩)) (some 26) rfl rfl (by kernel_rfl) (by kernel_rfl) (by kernel_rfl) (fun _ _ _ h => h) (Or.inl ⟨by kernel_rfl, fun wq hw => by go_simp⟩) hHeld ?_
      simp only [Act.put, List.setIfInBounds_toArray, List.set_cons_succ, List.set_cons_zero]
      refine drawn_take (i := 6) (v := .func (.func 30) #[] #[]) (some 27) rfl rfl (by kernel_rfl) (by kernel_rfl) (by kernel_rfl) (fun _ _ _ h => h) (Or.inl ⟨by kernel_rfl, fun wq hw => by have q9 := (HRD.out _ hw).2.1; go_simp⟩) hHeld ?_
      simp only [Act.put, List.setIfInBounds_toArray, List.set_cons_succ, List.set_cons_zero]
      refine drawn_take (i := 7) (v := .pointer (some ⟨h, 0, none⟩)) (some 28) rfl rfl (by kernel_rfl) (by kernel_rfl) (by kernel_rfl) (fun _ _ _ h => h) (Or.inl ⟨by kernel_rfl, fun wq hw => by go_simp⟩) hHeld ?_
      simp only [Act.put, List.setIfInBounds_toArray, List.set_cons_succ, List.set_cons_zero]
      refine drawn_take (i := 8) (v := .pointer (some ⟨h, 0, none⟩)) (some 29) rfl rfl (by kernel_rfl) (by kernel_rfl) (by kernel_rfl) (fun _ _ _ h => h) (Or.inl ⟨by kernel_rfl, fun wq hw => by go_simp⟩) hHeld ?_
      simp only [Act.put, List.setIfInBounds_toArray, List.set_cons_succ, List.set_cons_zero]
      refine drawn_take (i := 9) (v := .pointer (some ⟨h, 0, none⟩)) (some 30) rfl rfl (by kernel_rfl) (by kernel_rfl) (by kernel_rfl) (fun _ _ _ h => h) (Or.inl ⟨by kernel_rfl, fun wq hw => by go_simp⟩) hHeld ?_
      simp only [Act.put, List.setIfInBounds_toArray, List.set_cons_succ, List.set_cons_zero]
      refine drawn_take (i := 10) (v := .slice (some ⟨g3, 0, none⟩) 2 c3) (some 31) rfl rfl (by kernel_rfl) (by kernel_rfl) (by kernel_rfl) (fun _ _ _ h => h) (Or.inl ⟨by kernel_rfl, fun wq hw => by have q9 := (HRD.out _ hw).1; go_simp⟩) hHeld ?_
      simp only [Act.put, List.setIfInBounds_toArray, List.set_cons_succ, List.set_cons_zero]
      refine drawn_take (i := 11) (v := .int .i64 1) (some 32) rfl rfl (by kernel_rfl) (by kernel_rfl) (by kernel_rfl) (fun _ _ _ h => h) (Or.inl ⟨by kernel_rfl, fun wq hw => by go_simp⟩) hHeld ?_
      simp only [Act.put, List.setIfInBounds_toArray, List.set_cons_succ, List.set_cons_zero]
      refine drawn_take (i := 12) (v := .pointer (some ⟨g3, 3, none⟩)) (some 33) rfl rfl (by kernel_rfl) (by kernel_rfl) (by kernel_rfl) (fun _ _ _ h => h) (Or.inl ⟨by kernel_rfl, fun wq hw => by go_simp⟩) hHeld ?_
      simp only [Act.put, List.setIfInBounds_toArray, List.set_cons_succ, List.set_cons_zero]
      refine drawn_take (i := 13) (v := .agg #[.slice (some ⟨bb, ob, none⟩) l1 c1, .int .i64 k1, .int .i64 p1]) (some 34) rfl rfl (by kernel_rfl) (by kernel_rfl) (by kernel_rfl) (fun _ _ _ h => h) (Or.inl ⟨by kernel_rfl, fun wq hw => by obtain ⟨_, _, _, _, _, q7, q8, q9⟩ := HRD.out _ hw; go_simp⟩) hHeld ?_
      simp only [Act.put, List.setIfInBounds_toArray, List.set_cons_succ, List.set_cons_zero]
      refine drawn_take (i := 14) (v := .pointer (some ⟨h, 0, none⟩)) (some 35) rfl rfl (by kernel_rfl) (by kernel_rfl) (by kernel_rfl) (fun _ _ _ h => h) (Or.inl ⟨by kernel_rfl, fun wq hw => by go_simp⟩) hHeld ?_
      simp only [Act.put, List.setIfInBounds_toArray, List.set_cons_succ, List.set_cons_zero]
      refine drawn_take (i := 15) (v := .pointer (some ⟨h, 0, none⟩)) (some 36) rfl rfl (by kernel_rfl) (by kernel_rfl) (by kernel_rfl) (fun _ _ _ h => h) (Or.inl ⟨by kernel_rfl, fun wq hw => by go_simp⟩) hHeld ?_
      simp only [Act.put, List.setIfInBounds_toArray, List.set_cons_succ, List.set_cons_zero]
      refine drawn_take (i := 16) (v := .pointer (some ⟨h, 0, none⟩)) (some 37) rfl rfl (by kernel_rfl) (by kernel_rfl) (by kernel_rfl) (fun _ _ _ h => h) (Or.inl ⟨by kernel_rfl, fun wq hw => by go_simp⟩) hHeld ?_
      simp only [Act.put, List.setIfInBounds_toArray, List.set_cons_succ, List.set_cons_zero]
      refine drawn_take (i := 17) (v := .slice (some ⟨g3, 0, none⟩) 2 c3) (some 38) rfl rfl (by kernel_rfl) (by kernel_rfl) (by kernel_rfl) (fun _ _ _ h => h) (Or.inl ⟨by kernel_rfl, fun wq hw => by have q9 := (HRD.out _ hw).1; go_simp⟩) hHeld ?_
      simp only [Act.put, List.setIfInBounds_toArray, List.set_cons_succ, List.set_cons_zero]
      refine drawn_take (i := 18) (v := .int .i64 1) (some 39) rfl rfl (by kernel_rfl) (by kernel_rfl) (by kernel_rfl) (fun _ _ _ h => h) (Or.inl ⟨by kernel_rfl, fun wq hw => by go_simp⟩) hHeld ?_
      simp only [Act.put, List.setIfInBounds_toArray, List.set_cons_succ, List.set_cons_zero]
      refine wpAnyH_ready (rs := [19]) (by kernel_rfl) (by simp) ?_
      refine rdy_callw (i := 19) rfl (by kernel_rfl) (some 40) rfl 38 #[.int .i64 1] (call1_run (x := 39) rfl (fun _ _ => rfl) (by kernel_rfl)) (fun r w9 => r = .int .i64 0 ∧ w9 = wr.drew) ((above_one _).mono (by rintro e w9 ⟨rfl, h9⟩; exact ⟨_, rfl, rfl, h9⟩)) (fun r w9 hR => ?_) rdy_nil
      obtain ⟨rfl, rfl⟩ := hR
      refine ⟨hHeld, fun hHeld => ?_⟩
      simp only [Act.put, List.setIfInBounds_toArray, List.set_cons_succ, List.set_cons_zero]
      refine drawn_take (i := 20) (v := .pointer (some ⟨g3, 0, none⟩)) (some 41) rfl rfl (by kernel_rfl) (by kernel_rfl) (by kernel_rfl) (fun _ _ _ h => h) (Or.inl ⟨by kernel_rfl, fun wq hw => by go_simp⟩) hHeld ?_
      simp only [Act.put, List.setIfInBounds_toArray, List.set_cons_succ, List.set_cons_zero]
      refine drawn_take (i := 21) (v := .agg #[.slice (some ⟨b0, o0, none⟩) l0 c0, .int .i64 k0, .int .i64 p0]) (some 42) rfl rfl (by kernel_rfl) (by kernel_rfl) (by kernel_rfl) (fun _ _ _ h => h) (Or.inl ⟨by kernel_rfl, fun wq hw => by obtain ⟨_, _, q7, q8, q9, _⟩ := HRD.out _ hw; go_simp⟩) hHeld ?_
      simp only [Act.put, List.setIfInBounds_toArray, List.set_cons_succ, List.set_cons_zero]
      refine wpAnyH_ready (rs := [22]) (by kernel_rfl) (by simp) ?_
      refine rdy_callw (i := 22) rfl (by kernel_rfl) (some 43) rfl 30 #[.agg #[.slice (some ⟨bb, ob, none⟩) l1 c1, .int .i64 k1, .int .i64 p1], .agg #[.slice (some ⟨b0, o0, none⟩) l0 c0, .int .i64 k0, .int .i64 p0]] (callV2_run (z := 27) (x := 34) (y := 42) rfl (by kernel_rfl) (fun _ _ => rfl) (by kernel_rfl) (by kernel_rfl)) (fun r w9 => r = .bool false ∧ Below wr.heap.size wr w9) (HAH.out.mono (by rintro e w9 ⟨rfl, h9⟩; exact ⟨_, rfl, rfl, ((Below.refl _ wr).drew).trans h9⟩)) (fun r w9 hR => ?_) rdy_nil
      obtain ⟨rfl, hb9⟩ := hR
      refine ⟨hb9, fun hHeld => ?_⟩
      simp only [Act.put, List.setIfInBounds_toArray, List.set_cons_succ, List.set_cons_zero]
      refine drawn_take (i := 23) (v := .bool false) (some 44) rfl rfl (by kernel_rfl) (by kernel_rfl) (by kernel_rfl) (fun _ _ _ h => h) (Or.inl ⟨by kernel_rfl, fun wq hw => by go_simp⟩) hHeld ?_
      simp only [Act.put, List.setIfInBounds_toArray, List.set_cons_succ, List.set_cons_zero]
      have HB9 := hidn hb9
      clear hb9
      refine wpAnyH_done (by kernel_rfl) ?_ _
      refine NoPanic.normal ?_
      clear hHeld
      go_wp2_with fail
      go_end0
      exact ⟨rfl, g3, c3, ⟨(HB9.out.block h (Array.getElem?_eq_some_iff.1 HH4.out).1).trans HH4.out, own_skip HO4.out HB9.out, HBH.out⟩, HB4.out.trans (HB9.out.mono (Nat.le_trans hB HB4.out.size)), fun k hk h1 h2 => (HB9.out.block k (Nat.lt_of_lt_of_le hk HSZ.out)).trans (HFR.out k hk h1 h2)⟩
end Go.Proofs.Ytccjgciknaooaaa
