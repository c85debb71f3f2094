/- block.Decode of bytes that may be a footer's. -/
import Derived.Test.YtfgfkifdokeefaaDoorFtE
import Derived.Laws.CopyOwn
namespace Go.Proofs.YtfgfkifdokeefaaDoor
open Go.RowKit Go.Joins
open Cd (rdy_unit)
set_option linter.unusedVariables false

theorem ft_cTake {o : Oper} {a : Act} {w : World} {ts : Array TypeId} {x0 : Nat} {v0 : Value} (ho : o.op = Op.call { callee := Callee.value (Operand.func 16), args := #[.tmp x0], argTypes := ts }) (hx0 : a.eval (.tmp x0) = v0) : (execOp a.eval o).run Tryd.prog w = .ok (.enter 16 #[v0]) w := by
  simp [go_sem, execOp, ho, resolve, invoke]
  simpa [Act.eval] using hx0

theorem ft_st {o : Oper} {a : Act} {w : World} {x y : Operand} {g : Nat} {old cs : Array Value} (ho : o.op = Op.store 24 x y) (hx : a.eval x = .pointer (some ⟨g, 0, none⟩)) (hy : a.eval y = .agg cs) (hg : w.heap[g]? = some (.cells old 24 (0, 0))) (h8 : cs.size = 8) (ho8 : old.size = 8) (h1 : cs.all (·.oneCell') = true) :
    (execOp a.eval o).run Tryd.prog w = .ok .skip (w.setRow g cs) := by
  have hi : (Tryd.prog.info? 24).map (·.size) = some cs.size := by rw [h8]; kernel_rfl
  have hr := run_storeVar_row (P := Tryd.prog) w g 24 24 old cs hg hi (by omega) h1
  unfold execOp
  simp only [ho, hx, hy, Instr.storeAt, Instr.sureAddr, Sem.run_bind, Sem.run_pure, Result.andThen_ok, hr]

theorem ft_setRow_other (w : World) (g k : Nat) (cs : Array Value) (h : k ≠ g) : (w.setRow g cs).heap[k]? = w.heap[k]? := by
  simp [World.setRow, Array.getElem?_modify, Ne.symm h]

theorem ft_al {o : Oper} {a : Act} {w : World} (ho : o.op = Op.alloc 24) : (execOp a.eval o).run Tryd.prog w = .ok (.value (.pointer (some ⟨w.heap.size, 0, none⟩))) (w.alloc (.cells #[.int .i64 0, .int .i64 0, .int .i64 0, .int .i64 0, .int .i64 0, .int .i64 0, .int .i64 0, .slice none 0 0] 24)) := by
  unfold execOp
  rw [ho]
  kernel_rfl

theorem ft_bld {o : Oper} {a : Act} {w : World} {x0 x1 x2 x3 x4 x5 x6 x7 : Operand} {y0 y1 y2 y3 y4 y5 y6 : Int} {pa : Option Addr} {pl pc : Nat} (ho : o.op = Op.build 24 #[(0, x0), (1, x1), (2, x2), (3, x3), (4, x4), (5, x5), (6, x6), (7, x7)]) (h0 : a.eval x0 = .int .i64 y0) (h1 : a.eval x1 = .int .i64 y1) (h2 : a.eval x2 = .int .i64 y2) (h3 : a.eval x3 = .int .i64 y3) (h4 : a.eval x4 = .int .i64 y4) (h5 : a.eval x5 = .int .i64 y5) (h6 : a.eval x6 = .int .i64 y6) (h7 : a.eval x7 = .slice pa pl pc) :
    (execOp a.eval o).run Tryd.prog w = .ok (.value (.agg #[.int .i64 y0, .int .i64 y1, .int .i64 y2, .int .i64 y3, .int .i64 y4, .int .i64 y5, .int .i64 y6, .slice pa pl pc])) w := by
  have h : (Instr.build 24 #[(0, .int .i64 y0), (1, .int .i64 y1), (2, .int .i64 y2), (3, .int .i64 y3), (4, .int .i64 y4), (5, .int .i64 y5), (6, .int .i64 y6), (7, .slice pa pl pc)]).run Tryd.prog w = .ok (.agg #[.int .i64 y0, .int .i64 y1, .int .i64 y2, .int .i64 y3, .int .i64 y4, .int .i64 y5, .int .i64 y6, .slice pa pl pc]) w := by kernel_rfl
  simp [execOp, ho, h0, h1, h2, h3, h4, h5, h6, h7, h, Result.andThen]

def DecAny (w : World) (zs : List Nat) (e : Ending) (w' : World) : Prop := (ftCan zs = true → DecYes w zs e w') ∧ (ftCan zs = false → DecNo w e w')

def ftAll (a : Act) (l : List (Nat × Value)) : Act := l.foldl (fun a p => a.put (some p.1) p.2) a

theorem ft_cut {P : Program} {id : Nat} {ops : Array Oper} {Q : Exit → Act → World → Prop} {a : Act} {w : World} {d : Bool} (I : List (Nat × Value) → World → Prop)
    (h1 : (Code.region id ops d).wp P (fun e a' w' => e = .normal ∧ ∃ l, I l w' ∧ a' = ftAll a l) a w) (h2 : ∀ l w', I l w' → Q .normal (ftAll a l) w') : (Code.region id ops d).wp P Q a w :=
  Code.wp_mono (fun e a' w' h => by obtain ⟨rfl, l, hI, rfl⟩ := h; exact h2 l w' hI) h1

theorem ft_oth {w w' : World} {base e size n : Nat} {v : Value} {xs : List Value} (h : w.ownsRow base e size v n xs) (hb : ∀ g, v.ownBlock = some g → w'.heap[g]? = w.heap[g]?) : w'.ownsRow base e size v n xs := by
  refine ⟨h.1, ?_⟩
  rcases h.2 with hn | ⟨g, cap, cur, rfl, hbb, hgg, rest⟩
  · exact .inl hn
  · exact .inr ⟨g, cap, cur, rfl, hbb, by rw [hb g rfl]; exact hgg, rest⟩

set_option maxRecDepth 100000 in
set_option maxHeartbeats 8000000 in
theorem dec_any (w : World) (b off len cap : Nat) (zs : List Nat) (hB : Bs w (some ⟨b, off, none⟩) len zs) (hc : len ≤ cap) (h57 : 57 ≤ len) (hN : len = 57 + 8 * ftN zs) : Calls Tryd.prog 6 #[.slice (some ⟨b, off, none⟩) len cap] w (DecAny w zs) := by
  obtain ⟨L, rfl⟩ : ∃ L, len = 57 + L := ⟨len - 57, by omega⟩
  have hm := hB.2.1
  unfold maxLen at hm
  have h1 : ¬ (57 + (L : Int)) < 57 := by omega
  have hcc := hB.2.2.2.2 _ rfl
  have c56 := hcc 56 (by omega)
  rw [add_none] at c56
  have hbw := block_lt_of_cell c56
  have hz : ftN zs < 256 := by
    unfold ftN
    rw [List.getD_eq_getElem?_getD, List.getElem?_eq_getElem (by rw [hB.1]; omega)]
    exact hB.2.2.1 _ (List.getElem_mem _)
  obtain ⟨z, hzz⟩ : ∃ z, z = ftN zs := ⟨_, rfl⟩
  have c56z : w.cell? ⟨b, off + 56, none⟩ = some (.int .u8 (z : Int)) := by rw [hzz]; exact c56
  rw [← hzz] at hz hN
  have hw1 : IntKind.i64.wrap (z : Int) = (z : Int) := by rw [IntKind.wrap_i64]; omega
  have h56l : (56 : Int) < (57 + (L : Int)) := by omega
  have h56n : 56 < 57 + L := by omega
  have hne2 : ((57 + (L : Int)) != 57 + (z : Int) * 8) = false := by simp; omega
  have hcap : (57 + (L : Int)) ≤ (cap : Int) := by omega
  have h56c : (56 : Int) ≤ (cap : Int) := by omega
  have h57c : (57 : Int) ≤ (57 + (L : Int)) := by omega
  obtain ⟨wA, hwA⟩ : ∃ wA, wA = w.alloc (.cells #[.int .i64 0, .int .i64 0, .int .i64 0, .int .i64 0, .int .i64 0, .int .i64 0, .int .i64 0, .slice none 0 0] 24) := ⟨_, rfl⟩
  have bA : Below w.heap.size w wA := by rw [hwA]; exact ft_below1 w _
  have c56' : (w.alloc (.cells #[.int .i64 0, .int .i64 0, .int .i64 0, .int .i64 0, .int .i64 0, .int .i64 0, .int .i64 0, .slice none 0 0] 24)).cell? ⟨b, off + 56, none⟩ = some (.int .u8 (z : Int)) := ((ft_below1 w _).cell (p := ⟨b, off + 56, none⟩) hbw).trans c56z
  have qA : wA.heap[w.heap.size]? = some (.cells #[.int .i64 0, .int .i64 0, .int .i64 0, .int .i64 0, .int .i64 0, .int .i64 0, .int .i64 0, .slice none 0 0] 24 (0, 0)) := by rw [hwA]; exact heap_alloc_new w _
  have HT1 := hidn (takeWords_any wA (some ⟨b, off, none⟩) 56 56 (zs.take 56) ((bsTake hB 56 (by omega)).below bA) 7 rfl (by decide) (Nat.le_refl _))
  rw [mNs7] at HT1
  have HBs := hidn hB
  have HZZ := hidn hzz
  have HNN := hidn hN
  have HWA := hidn hwA
  have HQA := hidn qA
  have HBA := hidn bA
  clear c56 c56z hcc hbw hB hzz hN hwA qA bA
  go_enter Tryd.func6, Tryd.ntmps6
  go_wp2_with fail
  rw [← HWA.out]
  refine HT1.out.mono ?_
  rintro e w1 ⟨v1, rfl, o1, b1⟩
  obtain ⟨y0, hy0⟩ : ∃ y, y = mN zs 0 := ⟨_, rfl⟩
  obtain ⟨y1, hy1⟩ : ∃ y, y = mN zs 1 := ⟨_, rfl⟩
  obtain ⟨y2, hy2⟩ : ∃ y, y = mN zs 2 := ⟨_, rfl⟩
  obtain ⟨y3, hy3⟩ : ∃ y, y = mN zs 3 := ⟨_, rfl⟩
  obtain ⟨y4, hy4⟩ : ∃ y, y = mN zs 4 := ⟨_, rfl⟩
  obtain ⟨y5, hy5⟩ : ∃ y, y = mN zs 5 := ⟨_, rfl⟩
  obtain ⟨y6, hy6⟩ : ∃ y, y = mN zs 6 := ⟨_, rfl⟩
  have HY : Hid (y0 = mN zs 0 ∧ y1 = mN zs 1 ∧ y2 = mN zs 2 ∧ y3 = mN zs 3 ∧ y4 = mN zs 4 ∧ y5 = mN zs 5 ∧ y6 = mN zs 6) := hidn ⟨hy0, hy1, hy2, hy3, hy4, hy5, hy6⟩
  rw [← hy0, ← hy1, ← hy2, ← hy3, ← hy4, ← hy5, ← hy6] at o1
  obtain ⟨g1, k1, rfl⟩ : ∃ g1 k1, v1 = .slice (some ⟨g1, 0, none⟩) 7 k1 := by
    rcases o1.2 with ⟨_, h2⟩ | ⟨g, cp, cur, h1, _⟩
    · cases h2
    · exact ⟨_, _, h1⟩
  have lg := (o1.lt g1 rfl).2
  have r0 := o1.cells (g := g1) rfl 0 (.int .i64 y0) rfl
  have r1 := o1.cells (g := g1) rfl 1 (.int .i64 y1) rfl
  have r2 := o1.cells (g := g1) rfl 2 (.int .i64 y2) rfl
  have r3 := o1.cells (g := g1) rfl 3 (.int .i64 y3) rfl
  have r4 := o1.cells (g := g1) rfl 4 (.int .i64 y4) rfl
  have r5 := o1.cells (g := g1) rfl 5 (.int .i64 y5) rfl
  have r6 := o1.cells (g := g1) rfl 6 (.int .i64 y6) rfl
  rw [add_none] at r0 r1 r2 r3 r4 r5 r6
  have hd1 : Below w1.heap.size w1 w1.drew := (Below.refl _ _).drew
  have HB1 := hidn (HBA.out.trans (b1.mono HBA.out.size))
  have HQ1 := hidn ((b1.block w.heap.size (Array.getElem?_eq_some_iff.1 HQA.out).1).trans HQA.out)
  clear hy0 hy1 hy2 hy3 hy4 hy5 hy6 o1 b1 HT1 HWA HQA HBA c56'
  go_wp2_with fail
  obtain ⟨ro, hro⟩ : ∃ ro, ro = (if cap = 57 then off else off + 57) := ⟨_, rfl⟩
  have HLz : Hid (L = 8 * z) := hidn (by have := HNN.out; omega)
  have hlen57 : 57 + L - 57 = L := by omega
  have HRs := hidn (ft_rest HBs.out 57 h57 cap hc)
  rw [← hro, hlen57] at HRs
  have HRO := hidn hro
  clear hro
  obtain ⟨wd, hwd⟩ : ∃ wd, wd = w1.drew := ⟨_, rfl⟩
  refine ft_cut (fun l w' => ∃ (h : Nat) (va : Option Addr) (vc : Nat), l = [(24, .slice (some ⟨g1, 0, none⟩) 7 k1), (25, .pointer (some ⟨g1, 0, none⟩)), (26, .int .i64 y0), (27, .slice (some ⟨g1, 0, none⟩) 7 k1), (28, .pointer (some ⟨g1, 1, none⟩)), (29, .int .i64 y1), (30, .slice (some ⟨g1, 0, none⟩) 7 k1), (31, .pointer (some ⟨g1, 2, none⟩)), (32, .int .i64 y2), (33, .slice (some ⟨g1, 0, none⟩) 7 k1), (34, .pointer (some ⟨g1, 3, none⟩)), (35, .int .i64 y3), (36, .slice (some ⟨g1, 0, none⟩) 7 k1), (37, .pointer (some ⟨g1, 4, none⟩)), (38, .int .i64 y4), (39, .slice (some ⟨g1, 0, none⟩) 7 k1), (40, .pointer (some ⟨g1, 5, none⟩)), (41, .int .i64 y5), (42, .slice (some ⟨g1, 0, none⟩) 7 k1), (43, .pointer (some ⟨g1, 6, none⟩)), (44, .int .i64 y6), (45, .slice (some ⟨b, off, none⟩) (57 + L) cap), (46, .slice (some ⟨b, ro, none⟩) L (cap - 57)), (47, .slice va z vc), (48, .agg #[.int .i64 y0, .int .i64 y1, .int .i64 y2, .int .i64 y3, .int .i64 y4, .int .i64 y5, .int .i64 y6, .slice va z vc]), (5, .pointer (some ⟨h, 0, none⟩))] ∧ (∃ B, w1.heap.size ≤ B ∧ w'.ownsRow B 3 1 (.slice va z vc) z (vi (mNs (zs.drop 57) z))) ∧ w1.heap.size ≤ h ∧ w'.heap[h]? = some (.cells #[.int .i64 y0, .int .i64 y1, .int .i64 y2, .int .i64 y3, .int .i64 y4, .int .i64 y5, .int .i64 y6, .slice va z vc] 24 (0, 0)) ∧ Below w1.heap.size w1 w') ?_ ?_
  · skip
    refine wp_region_noPanic ?_
    refine wp_region_held_drew (S := fun W => Below w1.heap.size w1 W) (by kernel_rfl) (hd1) (fun hHeld => ?_)
    rw [← hwd] at hHeld hd1 ⊢
    clear hwd
    refine drawn_take (i := 0) (v := .slice (some ⟨g1, 0, none⟩) 7 k1) (some 24) rfl rfl (by kernel_rfl) (by kernel_rfl) (by kernel_rfl) (fun _ _ _ h => h) (Or.inl ⟨by kernel_rfl, fun wq hw => by go_simp⟩) hHeld ?_
    simp only [Act.put, List.setIfInBounds_toArray, List.set_cons_succ, List.set_cons_zero]
    refine drawn_take (i := 1) (v := .pointer (some ⟨g1, 0, none⟩)) (some 25) rfl rfl (by kernel_rfl) (by kernel_rfl) (by kernel_rfl) (fun _ _ _ h => h) (Or.inl ⟨by kernel_rfl, fun wq hw => by go_simp⟩) hHeld ?_
    simp only [Act.put, List.setIfInBounds_toArray, List.set_cons_succ, List.set_cons_zero]
    refine drawn_take (i := 2) (v := .int .i64 y0) (some 26) rfl rfl (by kernel_rfl) (by kernel_rfl) (by kernel_rfl) (fun _ _ _ h => h) (Or.inl ⟨by kernel_rfl, fun wq hw => by have q := (hw.cell (p := ⟨g1, 0 + 0, none⟩) lg).trans r0; go_simp⟩) hHeld ?_
    simp only [Act.put, List.setIfInBounds_toArray, List.set_cons_succ, List.set_cons_zero]
    refine drawn_take (i := 3) (v := .slice (some ⟨g1, 0, none⟩) 7 k1) (some 27) rfl rfl (by kernel_rfl) (by kernel_rfl) (by kernel_rfl) (fun _ _ _ h => h) (Or.inl ⟨by kernel_rfl, fun wq hw => by go_simp⟩) hHeld ?_
    simp only [Act.put, List.setIfInBounds_toArray, List.set_cons_succ, List.set_cons_zero]
    refine drawn_take (i := 4) (v := .pointer (some ⟨g1, 1, none⟩)) (some 28) rfl rfl (by kernel_rfl) (by kernel_rfl) (by kernel_rfl) (fun _ _ _ h => h) (Or.inl ⟨by kernel_rfl, fun wq hw => by go_simp⟩) hHeld ?_
    simp only [Act.put, List.setIfInBounds_toArray, List.set_cons_succ, List.set_cons_zero]
    refine drawn_take (i := 5) (v := .int .i64 y1) (some 29) rfl rfl (by kernel_rfl) (by kernel_rfl) (by kernel_rfl) (fun _ _ _ h => h) (Or.inl ⟨by kernel_rfl, fun wq hw => by have q := (hw.cell (p := ⟨g1, 0 + 1, none⟩) lg).trans r1; go_simp⟩) hHeld ?_
    simp only [Act.put, List.setIfInBounds_toArray, List.set_cons_succ, List.set_cons_zero]
    refine drawn_take (i := 6) (v := .slice (some ⟨g1, 0, none⟩) 7 k1) (some 30) rfl rfl (by kernel_rfl) (by kernel_rfl) (by kernel_rfl) (fun _ _ _ h => h) (Or.inl ⟨by kernel_rfl, fun wq hw => by go_simp⟩) hHeld ?_
    simp only [Act.put, List.setIfInBounds_toArray, List.set_cons_succ, List.set_cons_zero]
    refine drawn_take (i := 7) (v := .pointer (some ⟨g1, 2, none⟩)) (some 31) rfl rfl (by kernel_rfl) (by kernel_rfl) (by kernel_rfl) (fun _ _ _ h => h) (Or.inl ⟨by kernel_rfl, fun wq hw => by go_simp⟩) hHeld ?_
    simp only [Act.put, List.setIfInBounds_toArray, List.set_cons_succ, List.set_cons_zero]
    refine drawn_take (i := 8) (v := .int .i64 y2) (some 32) rfl rfl (by kernel_rfl) (by kernel_rfl) (by kernel_rfl) (fun _ _ _ h => h) (Or.inl ⟨by kernel_rfl, fun wq hw => by have q := (hw.cell (p := ⟨g1, 0 + 2, none⟩) lg).trans r2; go_simp⟩) hHeld ?_
    simp only [Act.put, List.setIfInBounds_toArray, List.set_cons_succ, List.set_cons_zero]
    refine drawn_take (i := 9) (v := .slice (some ⟨g1, 0, none⟩) 7 k1) (some 33) rfl rfl (by kernel_rfl) (by kernel_rfl) (by kernel_rfl) (fun _ _ _ h => h) (Or.inl ⟨by kernel_rfl, fun wq hw => by go_simp⟩) hHeld ?_
    simp only [Act.put, List.setIfInBounds_toArray, List.set_cons_succ, List.set_cons_zero]
    refine drawn_take (i := 10) (v := .pointer (some ⟨g1, 3, none⟩)) (some 34) rfl rfl (by kernel_rfl) (by kernel_rfl) (by kernel_rfl) (fun _ _ _ h => h) (Or.inl ⟨by kernel_rfl, fun wq hw => by go_simp⟩) hHeld ?_
    simp only [Act.put, List.setIfInBounds_toArray, List.set_cons_succ, List.set_cons_zero]
    refine drawn_take (i := 11) (v := .int .i64 y3) (some 35) rfl rfl (by kernel_rfl) (by kernel_rfl) (by kernel_rfl) (fun _ _ _ h => h) (Or.inl ⟨by kernel_rfl, fun wq hw => by have q := (hw.cell (p := ⟨g1, 0 + 3, none⟩) lg).trans r3; go_simp⟩) hHeld ?_
    simp only [Act.put, List.setIfInBounds_toArray, List.set_cons_succ, List.set_cons_zero]
    refine drawn_take (i := 12) (v := .slice (some ⟨g1, 0, none⟩) 7 k1) (some 36) rfl rfl (by kernel_rfl) (by kernel_rfl) (by kernel_rfl) (fun _ _ _ h => h) (Or.inl ⟨by kernel_rfl, fun wq hw => by go_simp⟩) hHeld ?_
    simp only [Act.put, List.setIfInBounds_toArray, List.set_cons_succ, List.set_cons_zero]
    refine drawn_take (i := 13) (v := .pointer (some ⟨g1, 4, none⟩)) (some 37) rfl rfl (by kernel_rfl) (by kernel_rfl) (by kernel_rfl) (fun _ _ _ h => h) (Or.inl ⟨by kernel_rfl, fun wq hw => by go_simp⟩) hHeld ?_
    simp only [Act.put, List.setIfInBounds_toArray, List.set_cons_succ, List.set_cons_zero]
    refine drawn_take (i := 14) (v := .int .i64 y4) (some 38) rfl rfl (by kernel_rfl) (by kernel_rfl) (by kernel_rfl) (fun _ _ _ h => h) (Or.inl ⟨by kernel_rfl, fun wq hw => by have q := (hw.cell (p := ⟨g1, 0 + 4, none⟩) lg).trans r4; go_simp⟩) hHeld ?_
    simp only [Act.put, List.setIfInBounds_toArray, List.set_cons_succ, List.set_cons_zero]
    refine drawn_take (i := 15) (v := .slice (some ⟨g1, 0, none⟩) 7 k1) (some 39) rfl rfl (by kernel_rfl) (by kernel_rfl) (by kernel_rfl) (fun _ _ _ h => h) (Or.inl ⟨by kernel_rfl, fun wq hw => by go_simp⟩) hHeld ?_
    simp only [Act.put, List.setIfInBounds_toArray, List.set_cons_succ, List.set_cons_zero]
    refine drawn_take (i := 16) (v := .pointer (some ⟨g1, 5, none⟩)) (some 40) rfl rfl (by kernel_rfl) (by kernel_rfl) (by kernel_rfl) (fun _ _ _ h => h) (Or.inl ⟨by kernel_rfl, fun wq hw => by go_simp⟩) hHeld ?_
    simp only [Act.put, List.setIfInBounds_toArray, List.set_cons_succ, List.set_cons_zero]
    refine drawn_take (i := 17) (v := .int .i64 y5) (some 41) rfl rfl (by kernel_rfl) (by kernel_rfl) (by kernel_rfl) (fun _ _ _ h => h) (Or.inl ⟨by kernel_rfl, fun wq hw => by have q := (hw.cell (p := ⟨g1, 0 + 5, none⟩) lg).trans r5; go_simp⟩) hHeld ?_
    simp only [Act.put, List.setIfInBounds_toArray, List.set_cons_succ, List.set_cons_zero]
    refine drawn_take (i := 18) (v := .slice (some ⟨g1, 0, none⟩) 7 k1) (some 42) rfl rfl (by kernel_rfl) (by kernel_rfl) (by kernel_rfl) (fun _ _ _ h => h) (Or.inl ⟨by kernel_rfl, fun wq hw => by go_simp⟩) hHeld ?_
    simp only [Act.put, List.setIfInBounds_toArray, List.set_cons_succ, List.set_cons_zero]
    refine drawn_take (i := 19) (v := .pointer (some ⟨g1, 6, none⟩)) (some 43) rfl rfl (by kernel_rfl) (by kernel_rfl) (by kernel_rfl) (fun _ _ _ h => h) (Or.inl ⟨by kernel_rfl, fun wq hw => by go_simp⟩) hHeld ?_
    simp only [Act.put, List.setIfInBounds_toArray, List.set_cons_succ, List.set_cons_zero]
    refine drawn_take (i := 20) (v := .int .i64 y6) (some 44) rfl rfl (by kernel_rfl) (by kernel_rfl) (by kernel_rfl) (fun _ _ _ h => h) (Or.inl ⟨by kernel_rfl, fun wq hw => by have q := (hw.cell (p := ⟨g1, 0 + 6, none⟩) lg).trans r6; go_simp⟩) hHeld ?_
    simp only [Act.put, List.setIfInBounds_toArray, List.set_cons_succ, List.set_cons_zero]
    refine drawn_take (i := 21) (v := .slice (some ⟨b, off, none⟩) (57 + L) cap) (some 45) rfl rfl (by kernel_rfl) (by kernel_rfl) (by kernel_rfl) (fun _ _ _ h => h) (Or.inl ⟨by kernel_rfl, fun wq hw => by go_simp⟩) hHeld ?_
    simp only [Act.put, List.setIfInBounds_toArray, List.set_cons_succ, List.set_cons_zero]
    refine drawn_take (i := 22) (v := .slice (some ⟨b, ro, none⟩) L (cap - 57)) (some 46) rfl rfl (by kernel_rfl) (by kernel_rfl) (by kernel_rfl) (fun _ _ _ h => h) (Or.inl ⟨by kernel_rfl, fun wq hw => by by_cases hcq : cap = 57 <;> first | (rw [HRO.out, if_pos hcq]; go_simp; done) | (rw [HRO.out, if_neg hcq]; go_simp; done)⟩) hHeld ?_
    simp only [Act.put, List.setIfInBounds_toArray, List.set_cons_succ, List.set_cons_zero]
    refine wpAnyH_ready (rs := [23, 25]) (by kernel_rfl) (by simp) ?_
    have HTW := hidn (takeWords_any wd (some ⟨b, ro, none⟩) L (cap - 57) (zs.drop 57) (HRs.out.below (HB1.out.trans (hHeld.mono HB1.out.size))) z HLz.out (by omega) (by omega))
    refine rdy_call (i := 23) rfl rfl (some 47) rfl 16 #[.slice (some ⟨b, ro, none⟩) L (cap - 57)] (ft_cTake (x0 := 46) (ts := #[25]) rfl (by kernel_rfl)) (fun r w' => ∃ va vc, r = .slice va z vc ∧ w'.ownsRow wd.heap.size 3 1 (.slice va z vc) z (vi (mNs (zs.drop 57) z)) ∧ Below wd.heap.size wd w') (HTW.out.mono fun e w' ⟨v, hv, hown, hbl⟩ => by obtain ⟨va, vc, rfl, _⟩ := ils_own hown (mNs_length _ _) (by omega); exact ⟨_, hv, va, vc, rfl, hown, hbl⟩) (fun r w9 hR => ?_) ?_
    · obtain ⟨va, vc, rfl, ho9, b9⟩ := hR
      have hS9 : Below w1.heap.size w1 w9 := hHeld.trans (b9.mono hHeld.size)
      refine ⟨hS9, fun hHeld => ?_⟩
      simp only [Act.put, List.setIfInBounds_toArray, List.set_cons_succ, List.set_cons_zero]
      refine drawn_take (i := 24) (v := .agg #[.int .i64 y0, .int .i64 y1, .int .i64 y2, .int .i64 y3, .int .i64 y4, .int .i64 y5, .int .i64 y6, .slice va z vc]) (some 48) rfl rfl (by kernel_rfl) (by kernel_rfl) (by kernel_rfl) (fun _ _ _ h => h) (Or.inl ⟨by kernel_rfl, fun wq hw => ft_bld (x0 := .tmp 26) (x1 := .tmp 29) (x2 := .tmp 32) (x3 := .tmp 35) (x4 := .tmp 38) (x5 := .tmp 41) (x6 := .tmp 44) (x7 := .tmp 47) rfl (by kernel_rfl) (by kernel_rfl) (by kernel_rfl) (by kernel_rfl) (by kernel_rfl) (by kernel_rfl) (by kernel_rfl) (by kernel_rfl)⟩) hHeld ?_
      simp only [Act.put, List.setIfInBounds_toArray, List.set_cons_succ, List.set_cons_zero]
      refine wpAnyH_ready (rs := [25]) (by kernel_rfl) (by simp) ?_
      refine rdy_val (i := 25) rfl rfl (some 5) rfl (.pointer (some ⟨w9.heap.size, 0, none⟩)) (w9.alloc (.cells #[.int .i64 0, .int .i64 0, .int .i64 0, .int .i64 0, .int .i64 0, .int .i64 0, .int .i64 0, .slice none 0 0] 24)) (ft_al rfl) (hS9.alloc hS9.size _) (fun hHeld => ?_) rdy_nil
      simp only [Act.put, List.setIfInBounds_toArray, List.set_cons_succ, List.set_cons_zero]
      have hrow := heap_alloc_new w9 (.cells #[.int .i64 0, .int .i64 0, .int .i64 0, .int .i64 0, .int .i64 0, .int .i64 0, .int .i64 0, .slice none 0 0] 24)
      have hS10 : Below w1.heap.size w1 (w9.alloc (.cells #[.int .i64 0, .int .i64 0, .int .i64 0, .int .i64 0, .int .i64 0, .int .i64 0, .int .i64 0, .slice none 0 0] 24)) := hS9.alloc hS9.size _
      refine wpAnyH_ready (rs := [26]) (by kernel_rfl) (by simp) ?_
      refine rdy_unit (i := 26) rfl rfl none rfl ((w9.alloc (.cells #[.int .i64 0, .int .i64 0, .int .i64 0, .int .i64 0, .int .i64 0, .int .i64 0, .int .i64 0, .slice none 0 0] 24)).setRow w9.heap.size #[.int .i64 y0, .int .i64 y1, .int .i64 y2, .int .i64 y3, .int .i64 y4, .int .i64 y5, .int .i64 y6, .slice va z vc]) (ft_st (x := .tmp 5) (y := .tmp 48) rfl (by kernel_rfl) (by kernel_rfl) hrow rfl rfl (by kernel_rfl)) (below_setRow hS10 hS9.size _) (fun hHeld => ?_) rdy_nil
      simp only [Act.put]
      refine wpAnyH_done (by kernel_rfl) ?_ _
      refine NoPanic.normal ?_
      clear hHeld
      refine ⟨rfl, _, ⟨w9.heap.size, va, vc, rfl, ⟨wd.heap.size, hd1.size, ft_oth ho9 (fun g hg => ?_)⟩, hS9.size, setRow_heap _ _ _ _ _ _ hrow, below_setRow hS10 hS9.size _⟩, by kernel_rfl⟩
      have hgl := (ho9.lt g hg).2
      rw [ft_setRow_other _ _ _ _ (by omega), Below.heap_alloc _ _ _ hgl]
    refine rdy_val (i := 25) rfl rfl (some 5) rfl (.pointer (some ⟨wd.heap.size, 0, none⟩)) (wd.alloc (.cells #[.int .i64 0, .int .i64 0, .int .i64 0, .int .i64 0, .int .i64 0, .int .i64 0, .int .i64 0, .slice none 0 0] 24)) (ft_al rfl) (hHeld.alloc hHeld.size _) (fun hHeld2 => ?_) rdy_nil
    simp only [Act.put, List.setIfInBounds_toArray, List.set_cons_succ, List.set_cons_zero]
    have hrow := heap_alloc_new wd (.cells #[.int .i64 0, .int .i64 0, .int .i64 0, .int .i64 0, .int .i64 0, .int .i64 0, .int .i64 0, .slice none 0 0] 24)
    obtain ⟨hh, hhh⟩ : ∃ hh, hh = wd.heap.size := ⟨_, rfl⟩
    obtain ⟨wB, hwB⟩ : ∃ wB, wB = wd.alloc (.cells #[.int .i64 0, .int .i64 0, .int .i64 0, .int .i64 0, .int .i64 0, .int .i64 0, .int .i64 0, .slice none 0 0] 24) := ⟨_, rfl⟩
    have hsB : wB.heap.size = hh + 1 := by rw [hwB, World.size_alloc, hhh]
    have hh1 : w1.heap.size ≤ hh := by rw [hhh]; exact hHeld.size
    rw [← hwB] at hHeld2
    rw [← hhh, ← hwB] at hrow
    rw [← hhh, ← hwB]
    clear hwB hhh
    refine wpAnyH_ready (rs := [23]) (by kernel_rfl) (by simp) ?_
    have HTW := hidn (takeWords_any wB (some ⟨b, ro, none⟩) L (cap - 57) (zs.drop 57) (HRs.out.below (HB1.out.trans (hHeld2.mono HB1.out.size))) z HLz.out (by omega) (by omega))
    refine rdy_call (i := 23) rfl rfl (some 47) rfl 16 #[.slice (some ⟨b, ro, none⟩) L (cap - 57)] (ft_cTake (x0 := 46) (ts := #[25]) rfl (by kernel_rfl)) (fun r w' => ∃ va vc, r = .slice va z vc ∧ w'.ownsRow wB.heap.size 3 1 (.slice va z vc) z (vi (mNs (zs.drop 57) z)) ∧ Below wB.heap.size wB w') (HTW.out.mono fun e w' ⟨v, hv, hown, hbl⟩ => by obtain ⟨va, vc, rfl, _⟩ := ils_own hown (mNs_length _ _) (by omega); exact ⟨_, hv, va, vc, rfl, hown, hbl⟩) (fun r w9 hR => ?_) rdy_nil
    obtain ⟨va, vc, rfl, ho9, b9⟩ := hR
    have hS9 : Below w1.heap.size w1 w9 := hHeld2.trans (b9.mono hHeld2.size)
    refine ⟨hS9, fun hHeld => ?_⟩
    simp only [Act.put, List.setIfInBounds_toArray, List.set_cons_succ, List.set_cons_zero]
    refine drawn_take (i := 24) (v := .agg #[.int .i64 y0, .int .i64 y1, .int .i64 y2, .int .i64 y3, .int .i64 y4, .int .i64 y5, .int .i64 y6, .slice va z vc]) (some 48) rfl rfl (by kernel_rfl) (by kernel_rfl) (by kernel_rfl) (fun _ _ _ h => h) (Or.inl ⟨by kernel_rfl, fun wq hw => ft_bld (x0 := .tmp 26) (x1 := .tmp 29) (x2 := .tmp 32) (x3 := .tmp 35) (x4 := .tmp 38) (x5 := .tmp 41) (x6 := .tmp 44) (x7 := .tmp 47) rfl (by kernel_rfl) (by kernel_rfl) (by kernel_rfl) (by kernel_rfl) (by kernel_rfl) (by kernel_rfl) (by kernel_rfl) (by kernel_rfl)⟩) hHeld ?_
    simp only [Act.put, List.setIfInBounds_toArray, List.set_cons_succ, List.set_cons_zero]
    have hrow9 := (b9.block hh (by omega)).trans hrow
    refine wpAnyH_ready (rs := [26]) (by kernel_rfl) (by simp) ?_
    refine rdy_unit (i := 26) rfl rfl none rfl (w9.setRow hh #[.int .i64 y0, .int .i64 y1, .int .i64 y2, .int .i64 y3, .int .i64 y4, .int .i64 y5, .int .i64 y6, .slice va z vc]) (ft_st (x := .tmp 5) (y := .tmp 48) rfl (by kernel_rfl) (by kernel_rfl) hrow9 rfl rfl (by kernel_rfl)) (below_setRow hS9 hh1 _) (fun hHeld => ?_) rdy_nil
    simp only [Act.put]
    refine wpAnyH_done (by kernel_rfl) ?_ _
    refine NoPanic.normal ?_
    clear hHeld
    refine ⟨rfl, _, ⟨hh, va, vc, rfl, ⟨wB.heap.size, by omega, ft_oth ho9 (fun g hg => ?_)⟩, hh1, setRow_heap _ _ _ _ _ _ hrow9, below_setRow hS9 hh1 _⟩, by kernel_rfl⟩
    have hgl := (ho9.lt g hg).1
    rw [ft_setRow_other _ _ _ _ (by omega)]
  · rintro l w' ⟨h, va, vc, rfl, ⟨B, hB1, ho⟩, hh, hrow, hbl⟩
    obtain ⟨a9, c9, e9, hI⟩ := ils_own ho (mNs_length _ _) (by omega)
    cases e9
    have hw01 : w.heap.size < w1.heap.size := (Array.getElem?_eq_some_iff.1 HQ1.out).1
    have hq := (hbl.block w.heap.size hw01).trans HQ1.out
    have hBW : Below w.heap.size w w' := HB1.out.trans (hbl.mono (Nat.le_of_lt hw01))
    have HCAN := hidn (bCan_any w' y0 y1 y2 y3 y4 y5 y6 va z vc (mNs (zs.drop 57) z) hI)
    have HCE : Hid (bCan y0 y1 y2 y3 y4 y5 y6 (mNs (zs.drop 57) z) = ftCan zs) := hidn (by
      obtain ⟨a0, a1, a2, a3, a4, a5, a6⟩ := HY.out
      rw [a0, a1, a2, a3, a4, a5, a6, HZZ.out]
      rfl)
    have HROW := hidn hrow
    have HQ := hidn hq
    have HBW := hidn hBW
    have HO := hidn ho
    have HW01 := hidn hw01
    have HBB := hidn hB1
    clear hrow hq hBW ho hI hbl hh hB1 hw01 hwd r0 r1 r2 r3 r4 r5 r6 lg hd1
    simp only [ftAll, List.foldl, Act.put, List.setIfInBounds_toArray, List.set_cons_succ, List.set_cons_zero]
    simp only [Exit.then]
    go_at_K
    repeat (first
      | (with_reducible refine wpList_load_row (by rfl) 24 (.tmp 5) (by rfl) h (by kernel_rfl) 24 #[.int .i64 y0, .int .i64 y1, .int .i64 y2, .int .i64 y3, .int .i64 y4, .int .i64 y5, .int .i64 y6, .slice va z vc] (0, 0) _ HROW.out Tryd.underlying24 rfl (by kernel_rfl) ?_)
      | go_values | go_skip | go_guarded | go_step | go_upon)
    refine HCAN.out.mono ?_
    rintro e w2 ⟨rfl, b2⟩
    rw [HCE.out]
    have HROW2 := hidn ((b2.block h (Array.getElem?_eq_some_iff.1 HROW.out).1).trans HROW.out)
    have HQ2 := hidn ((b2.block w.heap.size (Array.getElem?_eq_some_iff.1 HQ.out).1).trans HQ.out)
    have HBW2 := hidn (HBW.out.trans (b2.mono HBW.out.size))
    have HO2 := hidn (ft_below (B := 0) HO.out b2)
    obtain ⟨fc, hfc⟩ : ∃ fc, fc = ftCan zs := ⟨_, rfl⟩
    rw [← hfc]
    have HFC := hidn hfc
    clear hfc b2 HROW HQ HBW HO HCAN HCE
    cases fc with
    | false =>
      simp only []
      go_at_K
      repeat (first
        | (with_reducible refine wpList_store_row (by rfl) 24 (.tmp 2) (.tmp 52) (by rfl) w.heap.size #[.int .i64 0, .int .i64 0, .int .i64 0, .int .i64 0, .int .i64 0, .int .i64 0, .int .i64 0, .slice none 0 0] (by kernel_rfl) (by kernel_rfl) 24 #[.int .i64 0, .int .i64 0, .int .i64 0, .int .i64 0, .int .i64 0, .int .i64 0, .int .i64 0, .slice none 0 0] HQ2.out (by kernel_rfl) (by kernel_rfl) (by kernel_rfl) ?_)
        | go_values | go_skip | go_guarded | go_step | go_upon)
      exact bodyPost_ret (v := .tuple #[.agg #[.int .i64 0, .int .i64 0, .int .i64 0, .int .i64 0, .int .i64 0, .int .i64 0, .int .i64 0, .slice none 0 0], .int .i64 5]) (bk_rowtmp rfl _ _ w.heap.size 24 #[.int .i64 0, .int .i64 0, .int .i64 0, .int .i64 0, .int .i64 0, .int .i64 0, .int .i64 0, .slice none 0 0] (0, 0) _ rfl (setRow_heap _ _ _ _ _ _ HQ2.out) Tryd.underlying24 rfl (by kernel_rfl) _ rfl) rfl ⟨(fun e => by rw [← HFC.out] at e; cases e), fun _ => ⟨rfl, below_setRow HBW2.out (Nat.le_refl _) _⟩⟩
    | true =>
      simp only []
      go_at_K
      repeat (first
        | (with_reducible refine wpList_load_row (by rfl) 24 (.tmp 5) (by rfl) h (by kernel_rfl) 24 #[.int .i64 y0, .int .i64 y1, .int .i64 y2, .int .i64 y3, .int .i64 y4, .int .i64 y5, .int .i64 y6, .slice va z vc] (0, 0) _ HROW2.out Tryd.underlying24 rfl (by kernel_rfl) ?_)
        | (with_reducible refine wpList_store_row (by rfl) 24 (.tmp 2) (.tmp 53) (by rfl) w.heap.size #[.int .i64 y0, .int .i64 y1, .int .i64 y2, .int .i64 y3, .int .i64 y4, .int .i64 y5, .int .i64 y6, .slice va z vc] (by kernel_rfl) (by kernel_rfl) 24 #[.int .i64 0, .int .i64 0, .int .i64 0, .int .i64 0, .int .i64 0, .int .i64 0, .int .i64 0, .slice none 0 0] HQ2.out (by kernel_rfl) (by kernel_rfl) (by kernel_rfl) ?_)
        | go_values | go_skip | go_guarded | go_step | go_upon)
      have hOf := ft_oth (w' := w2.setRow w.heap.size #[.int .i64 y0, .int .i64 y1, .int .i64 y2, .int .i64 y3, .int .i64 y4, .int .i64 y5, .int .i64 y6, .slice va z vc]) HO2.out (fun g hg => ft_setRow_other _ _ _ _ (by have := (HO2.out.lt g hg).1; have := HBB.out; have := HW01.out; omega))
      obtain ⟨a9, c9, e9, hIf⟩ := ils_own hOf (mNs_length _ _) (by omega)
      cases e9
      exact bodyPost_ret (v := .tuple #[.agg #[.int .i64 y0, .int .i64 y1, .int .i64 y2, .int .i64 y3, .int .i64 y4, .int .i64 y5, .int .i64 y6, .slice va z vc], .int .i64 0]) (bk_rowtmp rfl _ _ w.heap.size 24 #[.int .i64 y0, .int .i64 y1, .int .i64 y2, .int .i64 y3, .int .i64 y4, .int .i64 y5, .int .i64 y6, .slice va z vc] (0, 0) _ rfl (setRow_heap _ _ _ _ _ _ HQ2.out) Tryd.underlying24 rfl (by kernel_rfl) _ rfl) rfl ⟨fun _ => by
        obtain ⟨a0, a1, a2, a3, a4, a5, a6⟩ := HY.out
        unfold DecYes
        rw [← a0, ← a1, ← a2, ← a3, ← a4, ← a5, ← a6, ← HZZ.out]
        exact ⟨va, vc, rfl, hIf, below_setRow HBW2.out (Nat.le_refl _) _⟩, fun e => by rw [← HFC.out] at e; cases e⟩
end Go.Proofs.YtfgfkifdokeefaaDoor
