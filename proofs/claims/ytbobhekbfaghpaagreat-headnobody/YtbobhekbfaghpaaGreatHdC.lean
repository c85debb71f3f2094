/- head at one row: put, Samples. -/
import Derived.Test.YtbobhekbfaghpaaGreatHdB
import Derived.Test.YtbobhekbfaghpaaGreatLabEnc
import Derived.Maps.OwnSet
import Derived.Maps.Views
import Derived.Maps.RangeWalk
import Derived.StringKeys
import Derived.Laws.Cover3
import Derived.Laws.Pointers
namespace Go.Proofs.YtbobhekbfaghpaaGreat
open Go.RowKit Go.Joins Go.Maps
set_option linter.unusedVariables false

/-- A pointer as a plain datum. -/
def hdP (v : Value) : Option (DataW Unit × List MemPlace) :=
  match v with
  | .pointer none => some (.nil, [])
  | .pointer (some ⟨g, 0, none⟩) => some (.lit (.int .u64 g), [])
  | _ => none

theorem hdP_nil : hdP (.pointer none) = some (.nil, []) := rfl

theorem hdP_mk (g : Nat) : hdP (.pointer (some ⟨g, 0, none⟩)) = some (.lit (.int .u64 g), []) := rfl

theorem hdP_inv {v : Value} {g : Nat} {ps : List MemPlace} (h : hdP v = some (.lit (.int .u64 g), ps)) : v = .pointer (some ⟨g, 0, none⟩) := by
  unfold hdP at h
  split at h
  · simp at h
  · simp at h
    obtain ⟨h1, _⟩ := h
    obtain rfl := Int.ofNat.inj h1
    rfl
  · cases h

theorem hdP_inv_nil {v : Value} {ps : List MemPlace} (h : hdP v = some (.nil, ps)) : v = .pointer none := by
  unfold hdP at h
  split at h
  · rfl
  · simp at h
  · cases h

theorem lawS : Keyed Tryz.prog 9 := string_keyed Tryz.underlying9

theorem zeroPt (w : World) : (zeroValue 54).run Tryz.prog w = .ok (.pointer none) w := by kernel_rfl

theorem look0 {w : World} {bm : Nat} (h : w.ownsMap Tryz.prog 9 hdP bm 0 (.map [])) (s : ByteArray) (hs : s.size ≤ maxLen) : (Instr.lookup 27 (.map (some bm)) (.string s) true).run Tryz.prog w = .ok (.tuple #[.pointer none, .bool false]) w := by
  obtain ⟨v, ps, hrun, hv⟩ := h.look_ok lawS Tryz.underlying27 (zeroPt w) hdP_nil (Go.WideMaps.keyOf_string_mk Tryz.underlying9 hs)
  have e : v = .pointer none := hdP_inv_nil (ps := ps) hv
  rw [e] at hrun
  exact hrun

theorem lk_run {o : Oper} {a : Act} {w : World} {t : TypeId} {x y : Operand} {vx vy v : Value} (ho : o.op = Op.lookup t x y true) (hx : a.eval x = vx) (hy : a.eval y = vy) (hr : (Instr.lookup t vx vy true).run Tryz.prog w = .ok v w) : (execOp a.eval o).run Tryz.prog w = .ok (.value v) w := by
  simp [execOp, ho, hx, hy, hr, Result.andThen]

theorem cv_run {o : Oper} {a : Act} {w : World} {s d : TypeId} {x : Operand} {vx v : Value} (ho : o.op = Op.convert s d x) (hx : a.eval x = vx) (hr : (convert s d vx).run Tryz.prog w = .ok v w) : (execOp a.eval o).run Tryz.prog w = .ok (.value v) w := by
  simp [execOp, ho, hx, hr, Result.andThen]

theorem up_run {o : Oper} {a : Act} {w w' : World} {t : TypeId} {m x y : Operand} {vm vx vy : Value} (ho : o.op = Op.mapUpdate t m x y) (hm : a.eval m = vm) (hx : a.eval x = vx) (hy : a.eval y = vy) (hr : (Instr.mapUpdate t vm vx vy).run Tryz.prog w = .ok () w') : (execOp a.eval o).run Tryz.prog w = .ok .skip w' := by
  simp [execOp, ho, hm, hx, hy, hr, Result.andThen]

theorem rdy_unit {P : Program} {md : Region.Mode} {ops : Array Oper} {Q : Exit → Act → World → Prop} {S : World → Prop} {fuel : Nat} {listed : Array Bool} {a : Act} {w : World} {i : Nat} {o : Oper} {rs : List Nat} (ho : ops[i]? = some o) (hgd : o.guard = none) (dst : Option Nat) (hd : o.dst = dst) (w' : World) (hrun : (execOp a.eval o).run P w = .ok .skip w') (hS : S w')
    (h : S w' → wpAnyH P md ops Q S fuel (listed.setIfInBounds i true) (a.put dst undef) w') (hs : AllReadyH P md ops Q S fuel listed a w rs) : AllReadyH P md ops Q S fuel listed a w (i :: rs) := by
  subst hd
  refine AllReadyH.cons ho (fun K hK => ?_) hs
  have hw : Region.wanted o (yielded ops a.tmps) = true := by simp [Region.wanted, hgd]
  rw [if_pos hw]
  unfold Oper.wp
  rw [hrun]
  exact hK _ _ hS h

/-- A head with one series. -/
def Head1 (w : World) (h : Nat) : Prop := ∃ (bm g : Nat) (s : List UInt8) (pb po pc : Nat), w.cell? ⟨h, 0, none⟩ = some (.map (some bm)) ∧ w.ownsMap Tryz.prog 9 hdP bm 1 (DataW.put (.map []) (.string s) (.lit (.int .u64 (g : Int)))) ∧ w.cell? ⟨g, 1, none⟩ = some (.slice (some ⟨pb, po, none⟩) 1 pc)

theorem ls_one {w : World} {v : Value} {n y : ByteArray} (h : One w v [.string n, .string y]) (hn : n.size ≤ maxLen) (hy : y.size ≤ maxLen) : ∃ a c, v = .slice a 1 c ∧ Ls w a 1 [(n, y)] := by
  obtain ⟨b, off, c, rfl, hc, h1⟩ := h
  refine ⟨_, _, rfl, rfl, by decide, fun i => ?_, (fun e => by cases e), fun x hx j hj => ?_⟩
  · cases i with
    | zero => exact ⟨hn, hy⟩
    | succ i => simp [labD, maxLen]
  · cases hx
    obtain rfl : j = 0 := by omega
    rw [ladd_none, ladd_none]
    exact ⟨h1 0 _ rfl, h1 1 _ rfl⟩

set_option maxHeartbeats 600000 in
set_option maxRecDepth 100000 in
theorem put1 (w : World) (h bm B : Nat) (lv pv : Value) (n y : ByteArray) (t x : Int) (hh : w.cell? ⟨h, 0, none⟩ = some (.map (some bm))) (hm : w.ownsMap Tryz.prog 9 hdP bm 0 (.map [])) (hL : One w lv [.string n, .string y]) (hP : One w pv [.int .i64 t, .int .u64 x])
    (hn : n.size ≤ maxLen) (hy : y.size ≤ maxLen) (hc : canOK [(n, y)] = true) (hB : B ≤ bm) :
    Calls Tryz.prog 15 #[.pointer (some ⟨h, 0, none⟩), .agg #[lv, pv]] w fun e w' => e = .returned (.tuple #[]) ∧ Head1 w' h ∧ Below B w w' := by
  obtain ⟨la, lc, rfl, hLs⟩ := ls_one hL hn hy
  obtain ⟨pb, po, pc, rfl, -, -⟩ := hP
  obtain ⟨wA, hwA⟩ : ∃ wA, wA = w.alloc (.cells #[.slice la 1 lc, .slice (some ⟨pb, po, none⟩) 1 pc] 50) := ⟨_, rfl⟩
  have bA : Below w.heap.size w wA := by rw [hwA]; exact (Below.refl _ w).alloc (Nat.le_refl _) _
  have qA : wA.heap[w.heap.size]? = some (.cells #[.slice la 1 lc, .slice (some ⟨pb, po, none⟩) 1 pc] 50 (0, 0)) := by rw [hwA]; exact heap_alloc_new w _
  have hAs : w.heap.size < wA.heap.size := (Array.getElem?_eq_some_iff.1 qA).1
  have x0 : wA.cell? ⟨w.heap.size, 0, none⟩ = some (.slice la 1 lc) := cell_of_row _ _ _ _ _ _ qA
  have HE := hidn (enc_yes la 1 lc [(n, y)] wA (hLs.below bA) (by decide) hc)
  have HWA := hidn hwA
  have hbs := hm.lt
  have hhb := block_lt_of_cell hh
  clear hwA
  go_enter Tryz.func15, Tryz.ntmps15
  go_wp2_with fail
  rw [← HWA.out]
  refine HE.out.mono ?_
  rintro e w2 ⟨g2, c2, rfl, hg2, hlc, hcm, hBs, -, b2⟩
  obtain ⟨m2, hm2⟩ : ∃ m, m = (encN [(n, y)]).length := ⟨_, rfl⟩
  rw [← hm2] at hBs ⊢
  obtain ⟨zs, hzs⟩ : ∃ zs, zs = encN [(n, y)] := ⟨_, rfl⟩
  rw [← hzs] at hBs
  have hss : (strB zs).size ≤ maxLen := by
    have h1 := hBs.1
    have h2 := hBs.2.1
    have h3 : (strB zs).size = zs.length := by simp [strB, ByteArray.size]
    omega
  obtain ⟨s, hs⟩ : ∃ s, s = strB zs := ⟨_, rfl⟩
  have HS := hidn hs
  rw [← hs] at hss
  clear hm2 hzs hs hlc
  have b20 := bA.trans (b2.mono bA.size)
  have hh2 : w2.cell? ⟨h, 0, none⟩ = some (.map (some bm)) := (b20.cell hhb).trans hh
  have hm2 : w2.ownsMap Tryz.prog 9 hdP bm 0 (.map []) := by
    obtain ⟨es, clock, hbk, F, hsz, hD⟩ := hm
    exact ⟨es, clock, (b20.block bm hbs).trans hbk, F, hsz, hD⟩
  have q2 : w2.heap[w.heap.size]? = some (.cells #[.slice la 1 lc, .slice (some ⟨pb, po, none⟩) 1 pc] 50 (0, 0)) := (b2.block _ hAs).trans qA
  go_wp2_with fail
  refine wp_region_noPanic ?_
  refine wp_region_held_drew (S := fun w' => w'.cell? ⟨h, 0, none⟩ = some (.map (some bm)) ∧ w'.ownsMap Tryz.prog 9 hdP bm 0 (.map []) ∧ Bs w' (some ⟨g2, 0, none⟩) m2 zs) (by kernel_rfl) (⟨hh2, hm2, hBs⟩) (fun hHeld => ?_)
  refine drawn_take (i := 0) (v := .pointer (some ⟨h, 0, none⟩)) (some 18) rfl rfl (by kernel_rfl) (by kernel_rfl) (by kernel_rfl) (fun _ _ _ h => h) (Or.inl ⟨by kernel_rfl, fun wq hw => by go_simp⟩) hHeld ?_
  simp only [Act.put, List.setIfInBounds_toArray, List.set_cons_succ, List.set_cons_zero]
  refine drawn_take (i := 1) (v := .pointer (some ⟨h, 0, none⟩)) (some 19) rfl rfl (by kernel_rfl) (by kernel_rfl) (by kernel_rfl) (fun _ _ _ h => h) (Or.inl ⟨by kernel_rfl, fun wq hw => by go_simp⟩) hHeld ?_
  simp only [Act.put, List.setIfInBounds_toArray, List.set_cons_succ, List.set_cons_zero]
  refine drawn_take (i := 2) (v := .pointer (some ⟨h, 0, none⟩)) (some 20) rfl rfl (by kernel_rfl) (by kernel_rfl) (by kernel_rfl) (fun _ _ _ h => h) (Or.inl ⟨by kernel_rfl, fun wq hw => by go_simp⟩) hHeld ?_
  simp only [Act.put, List.setIfInBounds_toArray, List.set_cons_succ, List.set_cons_zero]
  refine drawn_take (i := 3) (v := .map (some bm)) (some 21) rfl rfl (by kernel_rfl) (by kernel_rfl) (by kernel_rfl) (fun _ _ _ h => h) (Or.inl ⟨by kernel_rfl, fun wq hw => by have q9 := hw.1; go_simp⟩) hHeld ?_
  simp only [Act.put, List.setIfInBounds_toArray, List.set_cons_succ, List.set_cons_zero]
  refine drawn_take (i := 4) (v := .slice (some ⟨g2, 0, none⟩) m2 c2) (some 22) rfl rfl (by kernel_rfl) (by kernel_rfl) (by kernel_rfl) (fun _ _ _ h => h) (Or.inl ⟨by kernel_rfl, fun wq hw => by go_simp⟩) hHeld ?_
  simp only [Act.put, List.setIfInBounds_toArray, List.set_cons_succ, List.set_cons_zero]
  refine drawn_take (i := 5) (v := .string s) (some 23) rfl rfl (by kernel_rfl) (by kernel_rfl) (by kernel_rfl) (fun _ _ _ h => h) (Or.inl ⟨by kernel_rfl, fun wq hw => cv_run (x := .tmp 22) (vx := .slice (some ⟨g2, 0, none⟩) m2 c2) (by kernel_rfl) (by kernel_rfl) (by rw [HS.out]; exact hw.2.2.str)⟩) hHeld ?_
  simp only [Act.put, List.setIfInBounds_toArray, List.set_cons_succ, List.set_cons_zero]
  refine drawn_take (i := 6) (v := .tuple #[.pointer none, .bool false]) (some 24) rfl rfl (by kernel_rfl) (by kernel_rfl) (by kernel_rfl) (fun _ _ _ h => h) (Or.inl ⟨by kernel_rfl, fun wq hw => lk_run (x := .tmp 21) (y := .tmp 23) (by kernel_rfl) (by kernel_rfl) (by kernel_rfl) (look0 hw.2.1 s hss)⟩) hHeld ?_
  simp only [Act.put, List.setIfInBounds_toArray, List.set_cons_succ, List.set_cons_zero]
  refine drawn_take (i := 7) (v := .tuple #[.pointer none, .bool false]) (some 17) rfl rfl (by kernel_rfl) (by kernel_rfl) (by kernel_rfl) (fun _ _ _ h => h) (Or.inl ⟨by kernel_rfl, fun wq hw => by go_simp⟩) hHeld ?_
  simp only [Act.put, List.setIfInBounds_toArray, List.set_cons_succ, List.set_cons_zero]
  refine drawn_take (i := 8) (v := .pointer none) (some 25) rfl rfl (by kernel_rfl) (by kernel_rfl) (by kernel_rfl) (fun _ _ _ h => h) (Or.inl ⟨by kernel_rfl, fun wq hw => by go_simp⟩) hHeld ?_
  simp only [Act.put, List.setIfInBounds_toArray, List.set_cons_succ, List.set_cons_zero]
  refine drawn_take (i := 9) (v := .bool false) (some 26) rfl rfl (by kernel_rfl) (by kernel_rfl) (by kernel_rfl) (fun _ _ _ h => h) (Or.inl ⟨by kernel_rfl, fun wq hw => by go_simp⟩) hHeld ?_
  simp only [Act.put, List.setIfInBounds_toArray, List.set_cons_succ, List.set_cons_zero]
  refine drawn_take (i := 10) (v := .pointer none) (some 6) rfl rfl (by kernel_rfl) (by kernel_rfl) (by kernel_rfl) (fun _ _ _ h => h) (Or.inl ⟨by kernel_rfl, fun wq hw => by go_simp⟩) hHeld ?_
  simp only [Act.put, List.setIfInBounds_toArray, List.set_cons_succ, List.set_cons_zero]
  refine drawn_take (i := 11) (v := .bool false) (some 7) rfl rfl (by kernel_rfl) (by kernel_rfl) (by kernel_rfl) (fun _ _ _ h => h) (Or.inl ⟨by kernel_rfl, fun wq hw => by go_simp⟩) hHeld ?_
  simp only [Act.put, List.setIfInBounds_toArray, List.set_cons_succ, List.set_cons_zero]
  refine wpAnyH_done (by kernel_rfl) ?_ _
  refine NoPanic.normal ?_
  clear hHeld
  go_wp2_with fail
  obtain ⟨w5, hrun5, hown5, hg5⟩ := World.ownsMap.update (w := w2.drew.drew) (val := .pointer (some ⟨w.heap.size, 0, none⟩)) hm2 lawS Tryz.underlying27 (by decide) (Go.WideMaps.keyOf_string_mk Tryz.underlying9 hss) (hdP_mk w.heap.size)
  have hne : ∀ {k : Nat} {cs : Array Value} {t : TypeId} {fz : Nat × Nat}, w2.heap[k]? = some (.cells cs t fz) → k ≠ bm := fun {k cs t fz} hk e => by
    subst e
    obtain ⟨es, clock, hbk, _⟩ := hm2
    rw [hbk] at hk
    cases hk
  have hkeep : ∀ k, k < w2.heap.size → k ≠ bm → w5.heap[k]? = w2.heap[k]? := fun k hk hkb => hg5.block k hk (fun e => hkb (by cases e; rfl))
  have hhe : h ≠ bm := by
    obtain ⟨cs, t9, fz, hc9, _⟩ := Sort.cells_of_cell? hh2
    exact hne hc9
  have hh5 : w5.cell? ⟨h, 0, none⟩ = some (.map (some bm)) := (World.cell?_of_block (w := w2) (hkeep h (block_lt_of_cell hh2) hhe)).trans hh2
  have hq5 : w5.heap[w.heap.size]? = some (.cells #[.slice la 1 lc, .slice (some ⟨pb, po, none⟩) 1 pc] 50 (0, 0)) := (hkeep _ (Array.getElem?_eq_some_iff.1 q2).1 (hne q2)).trans q2
  have HF : Hid (Head1 w5 h ∧ Below B w w5) := hidn ⟨⟨bm, w.heap.size, s.data.toList, pb, po, pc, hh5, hown5, cell_of_row _ _ _ _ _ _ hq5⟩, by
    have hb : Below B w w2 := b20.mono (by omega)
    have hsz2 := b20.size
    exact ⟨hg5.os.trans hb.os, hg5.tape.trans hb.tape, hg5.output.trans hb.output, Nat.le_trans hb.size hg5.size, fun k hk => (hkeep k (by omega) (by omega)).trans (hb.block k hk)⟩⟩
  have hBs5 : Bs w5 (some ⟨g2, 0, none⟩) m2 zs := by
    obtain ⟨k1, k2, k3, k4, k5⟩ := hBs
    refine ⟨k1, k2, k3, k4, fun x hx j hj => ?_⟩
    have h1 := k5 x hx j hj
    obtain ⟨cs, t9, fz, hc9, _⟩ : ∃ c e fr, w2.heap[(x.add j).block]? = some (.cells c e fr) ∧ True := by
      cases hx
      rw [add_none] at h1 ⊢
      obtain ⟨c, e, fr, h2, _⟩ := Sort.cells_of_cell? h1
      exact ⟨c, e, fr, h2, trivial⟩
    exact (World.cell?_of_block (w := w2) (hkeep _ (block_lt_of_cell h1) (hne hc9))).trans h1
  refine wp_region_noPanic ?_
  refine wp_region_held_drew (S := fun w' => w'.cell? ⟨h, 0, none⟩ = some (.map (some bm)) ∧ Bs w' (some ⟨g2, 0, none⟩) m2 zs) (by kernel_rfl) (⟨hh2, hBs⟩) (fun hHeld => ?_)
  refine drawn_take (i := 0) (v := .pointer (some ⟨h, 0, none⟩)) (some 29) rfl rfl (by kernel_rfl) (by kernel_rfl) (by kernel_rfl) (fun _ _ _ h => h) (Or.inl ⟨by kernel_rfl, fun wq hw => by go_simp⟩) hHeld ?_
  simp only [Act.put, List.setIfInBounds_toArray, List.set_cons_succ, List.set_cons_zero]
  refine drawn_take (i := 1) (v := .pointer (some ⟨h, 0, none⟩)) (some 30) rfl rfl (by kernel_rfl) (by kernel_rfl) (by kernel_rfl) (fun _ _ _ h => h) (Or.inl ⟨by kernel_rfl, fun wq hw => by go_simp⟩) hHeld ?_
  simp only [Act.put, List.setIfInBounds_toArray, List.set_cons_succ, List.set_cons_zero]
  refine drawn_take (i := 2) (v := .pointer (some ⟨h, 0, none⟩)) (some 31) rfl rfl (by kernel_rfl) (by kernel_rfl) (by kernel_rfl) (fun _ _ _ h => h) (Or.inl ⟨by kernel_rfl, fun wq hw => by go_simp⟩) hHeld ?_
  simp only [Act.put, List.setIfInBounds_toArray, List.set_cons_succ, List.set_cons_zero]
  refine drawn_take (i := 3) (v := .map (some bm)) (some 32) rfl rfl (by kernel_rfl) (by kernel_rfl) (by kernel_rfl) (fun _ _ _ h => h) (Or.inl ⟨by kernel_rfl, fun wq hw => by have q9 := hw.1; go_simp⟩) hHeld ?_
  simp only [Act.put, List.setIfInBounds_toArray, List.set_cons_succ, List.set_cons_zero]
  refine drawn_take (i := 4) (v := .slice (some ⟨g2, 0, none⟩) m2 c2) (some 33) rfl rfl (by kernel_rfl) (by kernel_rfl) (by kernel_rfl) (fun _ _ _ h => h) (Or.inl ⟨by kernel_rfl, fun wq hw => by go_simp⟩) hHeld ?_
  simp only [Act.put, List.setIfInBounds_toArray, List.set_cons_succ, List.set_cons_zero]
  refine drawn_take (i := 5) (v := .string s) (some 34) rfl rfl (by kernel_rfl) (by kernel_rfl) (by kernel_rfl) (fun _ _ _ h => h) (Or.inl ⟨by kernel_rfl, fun wq hw => cv_run (x := .tmp 33) (vx := .slice (some ⟨g2, 0, none⟩) m2 c2) (by kernel_rfl) (by kernel_rfl) (by rw [HS.out]; exact hw.2.str)⟩) hHeld ?_
  simp only [Act.put, List.setIfInBounds_toArray, List.set_cons_succ, List.set_cons_zero]
  refine wpAnyH_ready (rs := [6]) (by kernel_rfl) (by simp) ?_
  refine rdy_unit (i := 6) rfl rfl none rfl (w5) (up_run (m := .tmp 32) (x := .tmp 34) (y := .tmp 3) (by kernel_rfl) (by kernel_rfl) (by kernel_rfl) (by kernel_rfl) hrun5) (⟨hh5, hBs5⟩) (fun hHeld => ?_) rdy_nil
  simp only [Act.put]
  refine wpAnyH_done (by kernel_rfl) ?_ _
  refine NoPanic.normal ?_
  clear hHeld
  go_wp2_with fail
  exact bodyPost_ret (v := .tuple #[]) (by simp [results, Tryz.results15, go_sem]) rfl ⟨rfl, HF.out⟩

/-- A head that no call made. -/
def Nob (w : World) (v : Value) : Prop := v = .pointer none ∨ ∃ e, v = .pointer (some ⟨e, 0, none⟩) ∧ w.cell? ⟨e, 0, none⟩ = some (.map none)

set_option maxHeartbeats 600000 in
theorem isMade_yes (w : World) (h bm : Nat) (hh : w.cell? ⟨h, 0, none⟩ = some (.map (some bm))) : Calls Tryz.prog 11 #[.pointer (some ⟨h, 0, none⟩)] w fun e w' => e = .returned (.bool true) ∧ w' = w := by
  have hmn := fun (wx : World) (m : Option Nat) => run_neq_map_nil (P := Tryz.prog) wx 27 9 54 m Tryz.underlying27
  have hpn := fun (wx : World) (p : Option Addr) => run_neq_pointer_nil (P := Tryz.prog) wx 26 p (by kernel_rfl)
  go_enter Tryz.func11, Tryz.ntmps11
  go_wp2
  go_ret
  exact ⟨rfl, rfl⟩

set_option maxHeartbeats 600000 in
theorem isMade_no (w : World) (v : Value) (hv : Nob w v) : Calls Tryz.prog 11 #[v] w fun e w' => e = .returned (.bool false) ∧ w' = w := by
  have hmn := fun (wx : World) (m : Option Nat) => run_neq_map_nil (P := Tryz.prog) wx 27 9 54 m Tryz.underlying27
  have hpn := fun (wx : World) (p : Option Addr) => run_neq_pointer_nil (P := Tryz.prog) wx 26 p (by kernel_rfl)
  rcases hv with rfl | ⟨e, rfl, hc⟩
  · go_enter Tryz.func11, Tryz.ntmps11
    go_wp2
    go_ret
    exact ⟨rfl, rfl⟩
  · go_enter Tryz.func11, Tryz.ntmps11
    go_wp2
    go_ret
    exact ⟨rfl, rfl⟩

theorem keyStr_form {key : Value} {kl : Lit} (h : keyOf Tryz.prog 9 key = some kl) : ∃ x, key = Value.string x := by
  cases key <;> simp [keyOf, Tryz.underlying9, mapKey] at h
  exact ⟨_, rfl⟩

theorem has_one (s : List UInt8) (d : DataW Unit) (kl : Lit) (h : Maps.has (DataW.put (.map []) (.string s) d) kl = true) : kl = .string s := by
  by_cases e : kl = .string s
  · exact e
  · rw [has_put_other e] at h
    cases h

set_option maxHeartbeats 600000 in
set_option maxRecDepth 100000 in
theorem samples1 (w : World) (h : Nat) (hH : Head1 w h) :
    Calls Tryz.prog 9 #[.pointer (some ⟨h, 0, none⟩)] w fun e w' => e = .returned (.int .i64 1) ∧ Below w.heap.size w w' := by
  obtain ⟨bm, g, s, pb, po, pc, hh, hm, hg⟩ := hH
  obtain ⟨D, hD⟩ : ∃ D, D = DataW.put (.map []) (.string s) (.lit (.int .u64 (g : Int))) := ⟨_, rfl⟩
  rw [← hD] at hm
  have hM : IsMap (DataW.map (H := Unit) []) := ⟨[], rfl⟩
  have HAS : Hid (Maps.has D (.string s) = true) := hidn (by rw [hD]; exact has_put_same hM (by first | trivial | exact ⟨_, rfl⟩ | decide) _)
  have HON : Hid (∀ kl, Maps.has D kl = true → kl = .string s) := hidn (fun kl hk => by rw [hD] at hk; exact has_one s _ kl hk)
  have HAT : Hid (∀ z, D.atKey (.string s) z = .lit (.int .u64 (g : Int))) := hidn (fun z => by rw [hD]; exact atKey_put_same hM (by first | trivial | exact ⟨_, rfl⟩ | decide) _ _)
  have HMY := hidn (isMade_yes w h bm hh)
  clear hD hM
  go_enter Tryz.func9, Tryz.ntmps9
  go_wp2_with fail
  refine HMY.out.mono ?_
  rintro e w1 ⟨rfl, rfl⟩
  go_wp2_with (at_range; refine wpList_range_own _ rfl _ 27 rfl 9 54 lawS Tryz.underlying27 hdP bm 1 D rfl hm ?_; intro w2 hrg hg2 hs2)
  go_frame
  obtain ⟨r, hr⟩ : ∃ r, r = w1.heap.size := ⟨_, rfl⟩
  rw [← hr] at hrg
  rw [← hr]
  have hb2 : Below w1.heap.size w1 w2 := ⟨hg2.os, hg2.tape, hg2.output, hg2.size, fun i hi => hg2.block i hi (by simp)⟩
  have HRG := hidn hrg
  have HR := hidn hr
  have hg2' : w2.cell? ⟨g, 1, none⟩ = some (.slice (some ⟨pb, po, none⟩) 1 pc) := (hb2.cell (block_lt_of_cell hg)).trans hg
  have hgb := block_lt_of_cell hg
  have HB2 := hidn hb2
  have HG2 := hidn hg2'
  clear hr hrg hg2 hs2 hb2 hg2' hh
  go_loopw [3] (fun cv wr => ∃ (left : Lit → Bool) (cnt c : Nat), cv = .int .i64 (c : Int) ∧ c ≤ 1 ∧ Hid (wr.ranges Tryz.prog 9 hdP bm r 1 D left cnt) ∧ Hid ((c = 0 ∧ ∀ kl, left kl = Maps.has D kl) ∨ (c = 1 ∧ ∀ kl, left kl = false)) ∧ Hid (wr.cell? ⟨g, 1, none⟩ = some (.slice (some ⟨pb, po, none⟩) 1 pc)) ∧ Hid (Below w1.heap.size w1 wr)) (fun cv _ => 1 - (intOf cv).toNat)
  case atStart => exact ⟨Maps.has D, _, 0, rfl, by omega, HRG, hidn (.inl ⟨rfl, fun _ => rfl⟩), HG2, HB2⟩
  case round =>
    obtain ⟨left, cnt, c, rfl, hc1, HG3, HC3, HP3, HB3⟩ := hrel
    go_wp2_with (at_next; refine wpList_next_ranges _ rfl _ rfl 9 lawS hdP Value.string id (fun key kl hk => keyStr_form hk) (fun v y hv => ⟨v, rfl⟩) bm r 1 D left cnt rfl HG3.out ?_ ?_)
    · intro hc0 hl0
      have hc : c = 1 := by
        rcases HC3.out with ⟨_, h2⟩ | ⟨h1, _⟩
        · have h3 := h2 (.string s)
          rw [hl0, HAS.out] at h3
          cases h3
        · exact h1
      subst hc
      clear hc0 hl0
      go_wp2_with fail
      exact bodyPost_ret (v := .int .i64 1) (by simp [results, Tryz.results9, go_sem]) rfl ⟨rfl, HB3.out⟩
    · intro x c' kl y1 y2 w4 cnt4 hkey hlk hv hat hrg4 hlt4 hg4 hs4 hen
      obtain ⟨rfl, h2⟩ : c = 0 ∧ ∀ kl, left kl = Maps.has D kl := by
        rcases HC3.out with h1 | ⟨_, h2⟩
        · exact h1
        · rw [h2] at hlk; cases hlk
      have ekl : kl = .string s := HON.out kl (by rw [← h2]; exact hlk)
      subst ekl
      have ey : y1 = .lit (.int .u64 (g : Int)) := (hat .nil).symm.trans (HAT.out .nil)
      have ec : c' = .pointer (some ⟨g, 0, none⟩) := hdP_inv (ps := y2) (by rw [← ey]; exact hv)
      subst ec
      have hrb : Below w1.heap.size wr w4 := ⟨hg4.os, hg4.tape, hg4.output, hg4.size, fun i hi => hg4.block i (by have := HB3.out.size; omega) (fun e => by cases e; have := HR.out; omega)⟩
      have p4 : w4.cell? ⟨g, 1, none⟩ = some (.slice (some ⟨pb, po, none⟩) 1 pc) := (hrb.cell hgb).trans HP3.out
      have HG4 := hidn hrg4
      have HB4 := hidn (HB3.out.trans hrb)
      have HP4 := hidn p4
      have HL4 : Hid ((1 = 0 ∧ ∀ kl, (fun z => left z && !z.sameKey (.string s)) kl = Maps.has D kl) ∨ (1 = 1 ∧ ∀ kl, (fun z => left z && !z.sameKey (.string s)) kl = false)) := hidn (.inr ⟨rfl, fun z => by
        show (left z && !z.sameKey (.string s)) = false
        cases hz : left z with
        | false => rfl
        | true =>
          rw [h2] at hz
          rw [HON.out z hz]
          simp [Lit.sameKey]⟩)
      clear hkey hlk hv hat hrg4 hlt4 hg4 hs4 ey h2
      go_wp2_with fail
      exact ⟨⟨_, _, 1, rfl, by omega, HG4, HL4, HP4, HB4⟩, by simp [intOf]⟩

end Go.Proofs.YtbobhekbfaghpaaGreat
