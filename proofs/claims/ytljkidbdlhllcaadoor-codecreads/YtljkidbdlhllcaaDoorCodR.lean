/- The reader of bits: what it holds; goOn, take, takeInt. -/
import Derived.Test.YtljkidbdlhllcaaDoorTiMath
namespace Go.Proofs.YtljkidbdlhllcaaDoor
open Go.RowKit Go.Joins
set_option linter.unusedVariables false
set_option linter.unusedSimpArgs false

/-- A reader in memory: its block r, the bytes it goes through, its place, whether it is broken. -/
def RI (w : World) (r : Nat) (S : Option Addr × Nat) (zs : List Nat) (q : Nat) (bad : Bool) : Prop :=
  w.heap[r]? = some (.cells #[.slice S.1 zs.length S.2, .int .i64 ((8 * zs.length : Nat) : Int), .int .i64 (q : Int), .bool bad] 59 (0, 0)) ∧ Bs w S.1 zs.length zs ∧ q ≤ 8 * zs.length ∧ zs.length ≤ 1000000000 ∧ (∀ x, S.1 = some x → x.block ≠ r)
theorem can_full {zs : List Nat} : canB zs ((8 * zs.length : Nat) : Int) = true := by
  rw [canB_iff]
  exact ⟨by omega, by rw [Int.toNat_natCast]; unfold nb; omega, fun i h1 h2 => by rw [Int.toNat_natCast] at h2; omega⟩
theorem RI.below {S : Option Addr × Nat} {w w' : World} {r : Nat} {zs : List Nat} {q : Nat} {bad : Bool} (h : RI w r S zs q bad) (hb : Below w.heap.size w w') : RI w' r S zs q bad := by
  obtain ⟨h1, h2, h3⟩ := h
  exact ⟨(hb.block r (Array.getElem?_eq_some_iff.1 h1).1).trans h1, h2.below hb, h3⟩
/-- All blocks but the reader's are as they were. -/
def Kr (r : Nat) (w w' : World) : Prop := w'.os = w.os ∧ w'.tape = w.tape ∧ w'.output = w.output ∧ w.heap.size ≤ w'.heap.size ∧ ∀ k, k < w.heap.size → k ≠ r → w'.heap[k]? = w.heap[k]?
theorem Kr.refl (r : Nat) (w : World) : Kr r w w := ⟨rfl, rfl, rfl, Nat.le_refl _, fun _ _ _ => rfl⟩
theorem Kr.trans {r : Nat} {a b c : World} (h : Kr r a b) (k : Kr r b c) : Kr r a c :=
  ⟨k.1.trans h.1, k.2.1.trans h.2.1, k.2.2.1.trans h.2.2.1, Nat.le_trans h.2.2.2.1 k.2.2.2.1, fun i hi hn => (k.2.2.2.2 i (Nat.lt_of_lt_of_le hi h.2.2.2.1) hn).trans (h.2.2.2.2 i hi hn)⟩
theorem Kr.of_below {r : Nat} {w w' : World} (h : Below w.heap.size w w') : Kr r w w' := ⟨h.os, h.tape, h.output, h.size, fun i hi _ => h.block i hi⟩
theorem Kr.setCell {r : Nat} {a w : World} (h : Kr r a w) (o : Nat) (u : Value) : Kr r a (w.setCell ⟨r, o, none⟩ u) :=
  h.trans ⟨rfl, rfl, rfl, by simp [World.setCell], fun k _ hk => Below.heap_setCell _ _ _ _ hk⟩
theorem Kr.below {r n : Nat} {w w' : World} (h : Kr r w w') (hn : n ≤ w.heap.size) (hr : n ≤ r) : Below n w w' :=
  ⟨h.1, h.2.1, h.2.2.1, h.2.2.2.1, fun i hi => h.2.2.2.2 i (by omega) (by omega)⟩
theorem RI.set {w : World} {r : Nat} {zs : List Nat} {q q' : Nat} {bad : Bool} {a : Option Addr} {cap : Nat} (h1 : w.heap[r]? = some (.cells #[.slice a zs.length cap, .int .i64 ((8 * zs.length : Nat) : Int), .int .i64 (q : Int), .bool bad] 59 (0, 0)))
    (h2 : Bs w a zs.length zs) (h3 : q' ≤ 8 * zs.length) (h4 : zs.length ≤ 1000000000) (h5 : ∀ x, a = some x → x.block ≠ r) : RI (w.setCell ⟨r, 2, none⟩ (.int .i64 (q' : Int))) r (a, cap) zs q' bad :=
  ⟨block_setCell h1 _, bs_setCell h2 h5 _, h3, h4, h5⟩
theorem RI.break {w : World} {r : Nat} {zs : List Nat} {q : Nat} {bad : Bool} {a : Option Addr} {cap : Nat} (h1 : w.heap[r]? = some (.cells #[.slice a zs.length cap, .int .i64 ((8 * zs.length : Nat) : Int), .int .i64 (q : Int), .bool bad] 59 (0, 0)))
    (h2 : Bs w a zs.length zs) (h3 : q ≤ 8 * zs.length) (h4 : zs.length ≤ 1000000000) (h5 : ∀ x, a = some x → x.block ≠ r) : RI (w.setCell ⟨r, 3, none⟩ (.bool true)) r (a, cap) zs q true :=
  ⟨block_setCell h1 _, bs_setCell h2 h5 _, h3, h4, h5⟩

set_option maxHeartbeats 2000000 in
set_option maxRecDepth 100000 in
theorem goOn_ok {S : Option Addr × Nat} (r q' : Nat) (zs : List Nat) (q : Nat) (bad : Bool) (w : World) (h : RI w r S zs q bad) (hq : q' ≤ 8 * zs.length) :
    Calls Tryd.prog 53 #[.pointer (some ⟨r, 0, none⟩), .int .i64 (q' : Int), .int .i64 0] w fun e w' => e = .returned (.tuple #[]) ∧ RI w' r S zs q' bad ∧ Kr r w w' := by
  obtain ⟨a, cap⟩ := S
  obtain ⟨h1, h2, h3, h4, h5⟩ := h
  simp only at h1 h2 h5
  have c2 : w.cell? ⟨r, 2, none⟩ = some (.int .i64 (q : Int)) := cell_of_row _ _ _ _ _ _ h1
  have f2 : w.frozen? ⟨r, 2, none⟩ = false := unfrozen_of_block h1 _
  have HR := hidn (RI.set h1 h2 hq h4 h5)
  clear h1 h2
  go_enter Tryd.func53, Tryd.ntmps53
  go_wp2
  go_end0
  exact ⟨rfl, HR.out, (Kr.refl r w).setCell 2 _⟩

set_option maxHeartbeats 2000000 in
set_option maxRecDepth 100000 in
theorem goOn_bad {S : Option Addr × Nat} (r : Nat) (q' e : Int) (zs : List Nat) (q : Nat) (bad : Bool) (w : World) (h : RI w r S zs q bad) (he : e ≠ 0) :
    Calls Tryd.prog 53 #[.pointer (some ⟨r, 0, none⟩), .int .i64 q', .int .i64 e] w fun e w' => e = .returned (.tuple #[]) ∧ RI w' r S zs q true ∧ Kr r w w' := by
  obtain ⟨a, cap⟩ := S
  obtain ⟨h1, h2, h3, h4, h5⟩ := h
  simp only at h1 h2 h5
  have c2 : w.cell? ⟨r, 3, none⟩ = some (.bool bad) := cell_of_row _ _ _ _ _ _ h1
  have f2 : w.frozen? ⟨r, 3, none⟩ = false := unfrozen_of_block h1 _
  have hne : (e != 0) = true := by rw [bne_iff_ne]; exact he
  have HR := hidn (RI.break h1 h2 h3 h4 h5)
  clear h1 h2 he
  go_enter Tryd.func53, Tryd.ntmps53
  go_wp2
  exact bodyPost_ret (v := .tuple #[]) (by simp [results, Tryd.results53, go_sem]) rfl ⟨rfl, HR.out, (Kr.refl r w).setCell 3 _⟩

theorem rd_take {o : Oper} {a : Act} {w : World} {ts : Array TypeId} {x0 x1 x2 : Nat} {v0 v1 v2 : Value} (ho : o.op = Op.call { callee := Callee.value (Operand.func 52), args := #[.tmp x0, .tmp x1, .tmp x2], argTypes := ts }) (hx0 : a.eval (.tmp x0) = v0) (hx1 : a.eval (.tmp x1) = v1) (hx2 : a.eval (.tmp x2) = v2) : (execOp a.eval o).run Tryd.prog w = .ok (.enter 52 #[v0, v1, v2]) w := by
  simp [go_sem, execOp, ho, resolve, invoke]
  exact ⟨by simpa [Act.eval] using hx0, by simpa [Act.eval] using hx1, by simpa [Act.eval] using hx2⟩
theorem rd_takeInt {o : Oper} {a : Act} {w : World} {ts : Array TypeId} {x0 x1 : Nat} {v0 v1 : Value} (ho : o.op = Op.call { callee := Callee.value (Operand.func 54), args := #[.tmp x0, .tmp x1], argTypes := ts }) (hx0 : a.eval (.tmp x0) = v0) (hx1 : a.eval (.tmp x1) = v1) : (execOp a.eval o).run Tryd.prog w = .ok (.enter 54 #[v0, v1]) w := by
  simp [go_sem, execOp, ho, resolve, invoke]
  exact ⟨by simpa [Act.eval] using hx0, by simpa [Act.eval] using hx1⟩
set_option maxHeartbeats 2000000 in
set_option maxRecDepth 100000 in
theorem rtake_ok {S : Option Addr × Nat} (r c : Nat) (zs : List Nat) (q : Nat) (bad : Bool) (w : World) (h : RI w r S zs q bad) (hc : c ≤ 64) (hq : q + c ≤ 8 * zs.length) :
    Calls Tryd.prog 43 #[.pointer (some ⟨r, 0, none⟩), .int .i64 (c : Int)] w fun e w' => e = .returned (.int .u64 (numOf (win zs q c) : Nat)) ∧ RI w' r S zs (q + c) bad ∧ Kr r w w' := by
  have h' := h
  obtain ⟨a, cap⟩ := S
  obtain ⟨h1, h2, h3, h4, h5⟩ := h
  simp only at h1 h2 h5
  obtain ⟨N, hN⟩ : ∃ N, N = 8 * zs.length := ⟨_, rfl⟩
  have hcan : canB zs (N : Nat) = true := by rw [hN]; exact can_full
  rw [← hN] at h1 hq h3
  have hb8 : N ≤ 8000000000 := by omega
  have HN := hidn hN
  have HC := hidn hcan
  clear hN h5 hcan
  have hr1 : r < w.heap.size := (Array.getElem?_eq_some_iff.1 h1).1
  have hd1 : w.drew.heap[r]? = some (.cells #[.slice a zs.length cap, .int .i64 (N : Int), .int .i64 (q : Int), .bool bad] 59 (0, 0)) := h1
  have hBd : Bs w.drew a zs.length zs := h2
  have hbd : Below w.heap.size w w.drew := (Below.refl _ _).drew
  have hszd : w.drew.heap.size = w.heap.size := rfl
  clear h1 h2
  go_enter Tryd.func43, Tryd.ntmps43
  go_wp2_with fail
  generalize hWd : w.drew = wd at *
  refine wp_region_noPanic ?_
  refine wp_region_held_drew (S := fun w' => w'.heap[r]? = some (.cells #[.slice a zs.length cap, .int .i64 (N : Int), .int .i64 (q : Int), .bool bad] 59 (0, 0))) (by kernel_rfl) (by rw [hWd]; exact hd1) (fun hHeld => ?_)
  rw [hWd] at hHeld ⊢
  refine drawn_take (i := 0) (v := .pointer (some ⟨r, 0, none⟩)) (some 8) rfl rfl (by kernel_rfl) (by kernel_rfl) (by kernel_rfl) (fun _ _ _ h => h) (Or.inl ⟨by kernel_rfl, fun wq hw => by go_simp⟩) hHeld ?_
  simp only [Act.put, List.setIfInBounds_toArray, List.set_cons_succ, List.set_cons_zero]
  refine drawn_take (i := 1) (v := .pointer (some ⟨r, 0, none⟩)) (some 9) rfl rfl (by kernel_rfl) (by kernel_rfl) (by kernel_rfl) (fun _ _ _ h => h) (Or.inl ⟨by kernel_rfl, fun wq hw => by go_simp⟩) hHeld ?_
  simp only [Act.put, List.setIfInBounds_toArray, List.set_cons_succ, List.set_cons_zero]
  refine drawn_take (i := 2) (v := .pointer (some ⟨r, 0, none⟩)) (some 10) rfl rfl (by kernel_rfl) (by kernel_rfl) (by kernel_rfl) (fun _ _ _ h => h) (Or.inl ⟨by kernel_rfl, fun wq hw => by go_simp⟩) hHeld ?_
  simp only [Act.put, List.setIfInBounds_toArray, List.set_cons_succ, List.set_cons_zero]
  refine drawn_take (i := 3) (v := .agg #[.slice a zs.length cap, .int .i64 (N : Int)]) (some 11) rfl rfl (by kernel_rfl) (by kernel_rfl) (by kernel_rfl) (fun _ _ _ h => h) (Or.inl ⟨by kernel_rfl, fun wq hw => by have q0 : wq.cell? ⟨r, 0, none⟩ = some (.slice a zs.length cap) := cell_of_row _ _ _ _ _ _ hw; have q1 : wq.cell? ⟨r, 1, none⟩ = some (.int .i64 (N : Int)) := cell_of_row _ _ _ _ _ _ hw; go_simp⟩) hHeld ?_
  simp only [Act.put, List.setIfInBounds_toArray, List.set_cons_succ, List.set_cons_zero]
  refine drawn_take (i := 4) (v := .pointer (some ⟨r, 0, none⟩)) (some 12) rfl rfl (by kernel_rfl) (by kernel_rfl) (by kernel_rfl) (fun _ _ _ h => h) (Or.inl ⟨by kernel_rfl, fun wq hw => by go_simp⟩) hHeld ?_
  simp only [Act.put, List.setIfInBounds_toArray, List.set_cons_succ, List.set_cons_zero]
  refine drawn_take (i := 5) (v := .pointer (some ⟨r, 0, none⟩)) (some 13) rfl rfl (by kernel_rfl) (by kernel_rfl) (by kernel_rfl) (fun _ _ _ h => h) (Or.inl ⟨by kernel_rfl, fun wq hw => by go_simp⟩) hHeld ?_
  simp only [Act.put, List.setIfInBounds_toArray, List.set_cons_succ, List.set_cons_zero]
  refine drawn_take (i := 6) (v := .pointer (some ⟨r, 2, none⟩)) (some 14) rfl rfl (by kernel_rfl) (by kernel_rfl) (by kernel_rfl) (fun _ _ _ h => h) (Or.inl ⟨by kernel_rfl, fun wq hw => by go_simp⟩) hHeld ?_
  simp only [Act.put, List.setIfInBounds_toArray, List.set_cons_succ, List.set_cons_zero]
  refine drawn_take (i := 7) (v := .int .i64 (q : Int)) (some 15) rfl rfl (by kernel_rfl) (by kernel_rfl) (by kernel_rfl) (fun _ _ _ h => h) (Or.inl ⟨by kernel_rfl, fun wq hw => by have q0 : wq.cell? ⟨r, 2, none⟩ = some (.int .i64 (q : Int)) := cell_of_row _ _ _ _ _ _ hw; go_simp⟩) hHeld ?_
  simp only [Act.put, List.setIfInBounds_toArray, List.set_cons_succ, List.set_cons_zero]
  refine drawn_take (i := 8) (v := .int .i64 (c : Int)) (some 16) rfl rfl (by kernel_rfl) (by kernel_rfl) (by kernel_rfl) (fun _ _ _ h => h) (Or.inl ⟨by kernel_rfl, fun wq hw => by go_simp⟩) hHeld ?_
  simp only [Act.put, List.setIfInBounds_toArray, List.set_cons_succ, List.set_cons_zero]
  refine wpAnyH_ready (rs := [9]) (by kernel_rfl) (by simp) ?_
  refine rdy_call (i := 9) rfl rfl (some 17) rfl 52 #[.agg #[.slice a zs.length cap, .int .i64 (N : Int)], .int .i64 (q : Int), .int .i64 (c : Int)] (rd_take (x0 := 11) (x1 := 15) (x2 := 16) (ts := #[45, 3, 3]) (by kernel_rfl) (by kernel_rfl) (by kernel_rfl) (by kernel_rfl)) (fun x w' => x = .tuple #[.int .u64 (numOf (win zs q c) : Nat), .int .i64 0] ∧ Below wd.heap.size wd w') ((take_ok a zs.length cap N q c zs _ hBd (by omega) (by omega) HC.out hc hq).mono fun e w' h => ⟨_, h.1, rfl, h.2⟩) (fun r w9 hR => ?_) rdy_nil
  obtain ⟨rfl, b1⟩ := hR
  have hd2 := (b1.block r (by rw [hszd]; exact hr1)).trans hd1
  refine ⟨hd2, fun hHeld => ?_⟩
  simp only [Act.put, List.setIfInBounds_toArray, List.set_cons_succ, List.set_cons_zero]
  have B1 : Below w.heap.size w w9 := hbd.trans (b1.mono (by omega))
  have hR1 := h'.below B1
  obtain ⟨nv, hnv⟩ : ∃ nv, nv = (numOf (win zs q c) : Nat) := ⟨_, rfl⟩
  rw [← hnv]
  have HNV := hidn hnv
  clear hnv
  refine drawn_take (i := 10) (v := .tuple #[.int .u64 (nv : Int), .int .i64 0]) (some 7) rfl rfl (by kernel_rfl) (by kernel_rfl) (by kernel_rfl) (fun _ _ _ h => h) (Or.inl ⟨by kernel_rfl, fun wq hw => by go_simp⟩) hHeld ?_
  simp only [Act.put, List.setIfInBounds_toArray, List.set_cons_succ, List.set_cons_zero]
  refine drawn_take (i := 11) (v := .int .u64 (nv : Int)) (some 18) rfl rfl (by kernel_rfl) (by kernel_rfl) (by kernel_rfl) (fun _ _ _ h => h) (Or.inl ⟨by kernel_rfl, fun wq hw => by go_simp⟩) hHeld ?_
  simp only [Act.put, List.setIfInBounds_toArray, List.set_cons_succ, List.set_cons_zero]
  refine drawn_take (i := 12) (v := .int .i64 0) (some 19) rfl rfl (by kernel_rfl) (by kernel_rfl) (by kernel_rfl) (fun _ _ _ h => h) (Or.inl ⟨by kernel_rfl, fun wq hw => by go_simp⟩) hHeld ?_
  simp only [Act.put, List.setIfInBounds_toArray, List.set_cons_succ, List.set_cons_zero]
  refine drawn_take (i := 13) (v := .int .u64 (nv : Int)) (some 5) rfl rfl (by kernel_rfl) (by kernel_rfl) (by kernel_rfl) (fun _ _ _ h => h) (Or.inl ⟨by kernel_rfl, fun wq hw => by go_simp⟩) hHeld ?_
  simp only [Act.put, List.setIfInBounds_toArray, List.set_cons_succ, List.set_cons_zero]
  refine drawn_take (i := 14) (v := .int .i64 0) (some 6) rfl rfl (by kernel_rfl) (by kernel_rfl) (by kernel_rfl) (fun _ _ _ h => h) (Or.inl ⟨by kernel_rfl, fun wq hw => by go_simp⟩) hHeld ?_
  simp only [Act.put, List.setIfInBounds_toArray, List.set_cons_succ, List.set_cons_zero]
  refine wpAnyH_done (by kernel_rfl) ?_ _
  refine NoPanic.normal ?_
  clear hHeld
  have d2 : w9.cell? ⟨r, 2, none⟩ = some (.int .i64 (q : Int)) := cell_of_row _ _ _ _ _ _ hd2
  clear hd1 hBd hd2
  go_wp2_with fail
  refine (goOn_ok r (q + c) zs q bad _ hR1 (by rw [← HN.out]; exact hq)).mono ?_
  rintro e w2 ⟨rfl, hr2, hk2⟩
  have HF := hidn (And.intro hr2 ((Kr.of_below B1).trans hk2))
  clear hr2 hk2
  go_wp2_with fail
  go_ret
  rw [HNV.out]
  exact ⟨rfl, HF.out⟩

set_option maxHeartbeats 2000000 in
set_option maxRecDepth 100000 in
theorem rtake_no {S : Option Addr × Nat} (r c : Nat) (zs : List Nat) (q : Nat) (bad : Bool) (w : World) (h : RI w r S zs q bad) (hc : c ≤ 64) (hq : 8 * zs.length < q + c) :
    Calls Tryd.prog 43 #[.pointer (some ⟨r, 0, none⟩), .int .i64 (c : Int)] w fun e w' => e = .returned (.int .u64 0) ∧ RI w' r S zs q true ∧ Kr r w w' := by
  have h' := h
  obtain ⟨a, cap⟩ := S
  obtain ⟨h1, h2, h3, h4, h5⟩ := h
  simp only at h1 h2 h5
  obtain ⟨N, hN⟩ : ∃ N, N = 8 * zs.length := ⟨_, rfl⟩
  have hcan : canB zs (N : Nat) = true := by rw [hN]; exact can_full
  rw [← hN] at h1 hq h3
  have hb8 : N ≤ 8000000000 := by omega
  have HN := hidn hN
  have HC := hidn hcan
  clear hN h5 hcan
  have hr1 : r < w.heap.size := (Array.getElem?_eq_some_iff.1 h1).1
  have hd1 : w.drew.heap[r]? = some (.cells #[.slice a zs.length cap, .int .i64 (N : Int), .int .i64 (q : Int), .bool bad] 59 (0, 0)) := h1
  have hBd : Bs w.drew a zs.length zs := h2
  have hbd : Below w.heap.size w w.drew := (Below.refl _ _).drew
  have hszd : w.drew.heap.size = w.heap.size := rfl
  clear h1 h2
  go_enter Tryd.func43, Tryd.ntmps43
  go_wp2_with fail
  generalize hWd : w.drew = wd at *
  refine wp_region_noPanic ?_
  refine wp_region_held_drew (S := fun w' => w'.heap[r]? = some (.cells #[.slice a zs.length cap, .int .i64 (N : Int), .int .i64 (q : Int), .bool bad] 59 (0, 0))) (by kernel_rfl) (by rw [hWd]; exact hd1) (fun hHeld => ?_)
  rw [hWd] at hHeld ⊢
  refine drawn_take (i := 0) (v := .pointer (some ⟨r, 0, none⟩)) (some 8) rfl rfl (by kernel_rfl) (by kernel_rfl) (by kernel_rfl) (fun _ _ _ h => h) (Or.inl ⟨by kernel_rfl, fun wq hw => by go_simp⟩) hHeld ?_
  simp only [Act.put, List.setIfInBounds_toArray, List.set_cons_succ, List.set_cons_zero]
  refine drawn_take (i := 1) (v := .pointer (some ⟨r, 0, none⟩)) (some 9) rfl rfl (by kernel_rfl) (by kernel_rfl) (by kernel_rfl) (fun _ _ _ h => h) (Or.inl ⟨by kernel_rfl, fun wq hw => by go_simp⟩) hHeld ?_
  simp only [Act.put, List.setIfInBounds_toArray, List.set_cons_succ, List.set_cons_zero]
  refine drawn_take (i := 2) (v := .pointer (some ⟨r, 0, none⟩)) (some 10) rfl rfl (by kernel_rfl) (by kernel_rfl) (by kernel_rfl) (fun _ _ _ h => h) (Or.inl ⟨by kernel_rfl, fun wq hw => by go_simp⟩) hHeld ?_
  simp only [Act.put, List.setIfInBounds_toArray, List.set_cons_succ, List.set_cons_zero]
  refine drawn_take (i := 3) (v := .agg #[.slice a zs.length cap, .int .i64 (N : Int)]) (some 11) rfl rfl (by kernel_rfl) (by kernel_rfl) (by kernel_rfl) (fun _ _ _ h => h) (Or.inl ⟨by kernel_rfl, fun wq hw => by have q0 : wq.cell? ⟨r, 0, none⟩ = some (.slice a zs.length cap) := cell_of_row _ _ _ _ _ _ hw; have q1 : wq.cell? ⟨r, 1, none⟩ = some (.int .i64 (N : Int)) := cell_of_row _ _ _ _ _ _ hw; go_simp⟩) hHeld ?_
  simp only [Act.put, List.setIfInBounds_toArray, List.set_cons_succ, List.set_cons_zero]
  refine drawn_take (i := 4) (v := .pointer (some ⟨r, 0, none⟩)) (some 12) rfl rfl (by kernel_rfl) (by kernel_rfl) (by kernel_rfl) (fun _ _ _ h => h) (Or.inl ⟨by kernel_rfl, fun wq hw => by go_simp⟩) hHeld ?_
  simp only [Act.put, List.setIfInBounds_toArray, List.set_cons_succ, List.set_cons_zero]
  refine drawn_take (i := 5) (v := .pointer (some ⟨r, 0, none⟩)) (some 13) rfl rfl (by kernel_rfl) (by kernel_rfl) (by kernel_rfl) (fun _ _ _ h => h) (Or.inl ⟨by kernel_rfl, fun wq hw => by go_simp⟩) hHeld ?_
  simp only [Act.put, List.setIfInBounds_toArray, List.set_cons_succ, List.set_cons_zero]
  refine drawn_take (i := 6) (v := .pointer (some ⟨r, 2, none⟩)) (some 14) rfl rfl (by kernel_rfl) (by kernel_rfl) (by kernel_rfl) (fun _ _ _ h => h) (Or.inl ⟨by kernel_rfl, fun wq hw => by go_simp⟩) hHeld ?_
  simp only [Act.put, List.setIfInBounds_toArray, List.set_cons_succ, List.set_cons_zero]
  refine drawn_take (i := 7) (v := .int .i64 (q : Int)) (some 15) rfl rfl (by kernel_rfl) (by kernel_rfl) (by kernel_rfl) (fun _ _ _ h => h) (Or.inl ⟨by kernel_rfl, fun wq hw => by have q0 : wq.cell? ⟨r, 2, none⟩ = some (.int .i64 (q : Int)) := cell_of_row _ _ _ _ _ _ hw; go_simp⟩) hHeld ?_
  simp only [Act.put, List.setIfInBounds_toArray, List.set_cons_succ, List.set_cons_zero]
  refine drawn_take (i := 8) (v := .int .i64 (c : Int)) (some 16) rfl rfl (by kernel_rfl) (by kernel_rfl) (by kernel_rfl) (fun _ _ _ h => h) (Or.inl ⟨by kernel_rfl, fun wq hw => by go_simp⟩) hHeld ?_
  simp only [Act.put, List.setIfInBounds_toArray, List.set_cons_succ, List.set_cons_zero]
  refine wpAnyH_ready (rs := [9]) (by kernel_rfl) (by simp) ?_
  refine rdy_call (i := 9) rfl rfl (some 17) rfl 52 #[.agg #[.slice a zs.length cap, .int .i64 (N : Int)], .int .i64 (q : Int), .int .i64 (c : Int)] (rd_take (x0 := 11) (x1 := 15) (x2 := 16) (ts := #[45, 3, 3]) (by kernel_rfl) (by kernel_rfl) (by kernel_rfl) (by kernel_rfl)) (fun x w' => x = .tuple #[.int .u64 0, .int .i64 3] ∧ Below wd.heap.size wd w') ((take_short a zs.length cap N q c zs _ hBd (by omega) HC.out hc h3 hq).mono fun e w' h => ⟨_, h.1, rfl, h.2⟩) (fun r w9 hR => ?_) rdy_nil
  obtain ⟨rfl, b1⟩ := hR
  have hd2 := (b1.block r (by rw [hszd]; exact hr1)).trans hd1
  refine ⟨hd2, fun hHeld => ?_⟩
  simp only [Act.put, List.setIfInBounds_toArray, List.set_cons_succ, List.set_cons_zero]
  have B1 : Below w.heap.size w w9 := hbd.trans (b1.mono (by omega))
  have hR1 := h'.below B1
  refine drawn_take (i := 10) (v := .tuple #[.int .u64 0, .int .i64 3]) (some 7) rfl rfl (by kernel_rfl) (by kernel_rfl) (by kernel_rfl) (fun _ _ _ h => h) (Or.inl ⟨by kernel_rfl, fun wq hw => by go_simp⟩) hHeld ?_
  simp only [Act.put, List.setIfInBounds_toArray, List.set_cons_succ, List.set_cons_zero]
  refine drawn_take (i := 11) (v := .int .u64 0) (some 18) rfl rfl (by kernel_rfl) (by kernel_rfl) (by kernel_rfl) (fun _ _ _ h => h) (Or.inl ⟨by kernel_rfl, fun wq hw => by go_simp⟩) hHeld ?_
  simp only [Act.put, List.setIfInBounds_toArray, List.set_cons_succ, List.set_cons_zero]
  refine drawn_take (i := 12) (v := .int .i64 3) (some 19) rfl rfl (by kernel_rfl) (by kernel_rfl) (by kernel_rfl) (fun _ _ _ h => h) (Or.inl ⟨by kernel_rfl, fun wq hw => by go_simp⟩) hHeld ?_
  simp only [Act.put, List.setIfInBounds_toArray, List.set_cons_succ, List.set_cons_zero]
  refine drawn_take (i := 13) (v := .int .u64 0) (some 5) rfl rfl (by kernel_rfl) (by kernel_rfl) (by kernel_rfl) (fun _ _ _ h => h) (Or.inl ⟨by kernel_rfl, fun wq hw => by go_simp⟩) hHeld ?_
  simp only [Act.put, List.setIfInBounds_toArray, List.set_cons_succ, List.set_cons_zero]
  refine drawn_take (i := 14) (v := .int .i64 3) (some 6) rfl rfl (by kernel_rfl) (by kernel_rfl) (by kernel_rfl) (fun _ _ _ h => h) (Or.inl ⟨by kernel_rfl, fun wq hw => by go_simp⟩) hHeld ?_
  simp only [Act.put, List.setIfInBounds_toArray, List.set_cons_succ, List.set_cons_zero]
  refine wpAnyH_done (by kernel_rfl) ?_ _
  refine NoPanic.normal ?_
  clear hHeld
  have d2 : w9.cell? ⟨r, 2, none⟩ = some (.int .i64 (q : Int)) := cell_of_row _ _ _ _ _ _ hd2
  clear hd1 hBd hd2
  go_wp2_with fail
  refine (goOn_bad r _ 3 zs q bad _ hR1 (by decide)).mono ?_
  rintro e w2 ⟨rfl, hr2, hk2⟩
  have HF := hidn (And.intro hr2 ((Kr.of_below B1).trans hk2))
  clear hr2 hk2
  go_wp2_with fail
  go_ret
  exact ⟨rfl, HF.out⟩

set_option maxHeartbeats 2000000 in
set_option maxRecDepth 100000 in
theorem rtakeInt_any {S : Option Addr × Nat} (r : Nat) (zs : List Nat) (q : Nat) (bad : Bool) (w : World) (h : RI w r S zs q bad) (hT : BitsTab w) :
    Calls Tryd.prog 44 #[.pointer (some ⟨r, 0, none⟩)] w fun e w' => ∃ (v to er : Int), e = .returned (.int .i64 v) ∧ TI zs ((8 * zs.length : Nat) : Int) (q : Int) v to er ∧
      ((er = 0 ∧ RI w' r S zs (q + intLen v) bad) ∨ (er ≠ 0 ∧ RI w' r S zs q true)) ∧ Kr r w w' := by
  have h' := h
  obtain ⟨a, cap⟩ := S
  obtain ⟨h1, h2, h3, h4, h5⟩ := h
  simp only at h1 h2 h5
  obtain ⟨N, hN⟩ : ∃ N, N = 8 * zs.length := ⟨_, rfl⟩
  rw [← hN] at h1 h3 ⊢
  have hb8 : N ≤ 8000000000 := by omega
  have HN := hidn hN
  clear hN h5
  have hr1 : r < w.heap.size := (Array.getElem?_eq_some_iff.1 h1).1
  have hd1 : w.drew.heap[r]? = some (.cells #[.slice a zs.length cap, .int .i64 (N : Int), .int .i64 (q : Int), .bool bad] 59 (0, 0)) := h1
  have hBd : Bs w.drew a zs.length zs := h2
  have hbd : Below w.heap.size w w.drew := (Below.refl _ _).drew
  have hszd : w.drew.heap.size = w.heap.size := rfl
  have hTd : BitsTab w.drew := hT.below hbd
  clear h1 h2
  go_enter Tryd.func44, Tryd.ntmps44
  go_wp2_with fail
  generalize hWd : w.drew = wd at *
  refine wp_region_noPanic ?_
  refine wp_region_held_drew (S := fun w' => w'.heap[r]? = some (.cells #[.slice a zs.length cap, .int .i64 (N : Int), .int .i64 (q : Int), .bool bad] 59 (0, 0))) (by kernel_rfl) (by rw [hWd]; exact hd1) (fun hHeld => ?_)
  rw [hWd] at hHeld ⊢
  refine drawn_take (i := 0) (v := .pointer (some ⟨r, 0, none⟩)) (some 7) rfl rfl (by kernel_rfl) (by kernel_rfl) (by kernel_rfl) (fun _ _ _ h => h) (Or.inl ⟨by kernel_rfl, fun wq hw => by go_simp⟩) hHeld ?_
  simp only [Act.put, List.setIfInBounds_toArray, List.set_cons_succ, List.set_cons_zero]
  refine drawn_take (i := 1) (v := .pointer (some ⟨r, 0, none⟩)) (some 8) rfl rfl (by kernel_rfl) (by kernel_rfl) (by kernel_rfl) (fun _ _ _ h => h) (Or.inl ⟨by kernel_rfl, fun wq hw => by go_simp⟩) hHeld ?_
  simp only [Act.put, List.setIfInBounds_toArray, List.set_cons_succ, List.set_cons_zero]
  refine drawn_take (i := 2) (v := .pointer (some ⟨r, 0, none⟩)) (some 9) rfl rfl (by kernel_rfl) (by kernel_rfl) (by kernel_rfl) (fun _ _ _ h => h) (Or.inl ⟨by kernel_rfl, fun wq hw => by go_simp⟩) hHeld ?_
  simp only [Act.put, List.setIfInBounds_toArray, List.set_cons_succ, List.set_cons_zero]
  refine drawn_take (i := 3) (v := .agg #[.slice a zs.length cap, .int .i64 (N : Int)]) (some 10) rfl rfl (by kernel_rfl) (by kernel_rfl) (by kernel_rfl) (fun _ _ _ h => h) (Or.inl ⟨by kernel_rfl, fun wq hw => by have q0 : wq.cell? ⟨r, 0, none⟩ = some (.slice a zs.length cap) := cell_of_row _ _ _ _ _ _ hw; have q1 : wq.cell? ⟨r, 1, none⟩ = some (.int .i64 (N : Int)) := cell_of_row _ _ _ _ _ _ hw; go_simp⟩) hHeld ?_
  simp only [Act.put, List.setIfInBounds_toArray, List.set_cons_succ, List.set_cons_zero]
  refine drawn_take (i := 4) (v := .pointer (some ⟨r, 0, none⟩)) (some 11) rfl rfl (by kernel_rfl) (by kernel_rfl) (by kernel_rfl) (fun _ _ _ h => h) (Or.inl ⟨by kernel_rfl, fun wq hw => by go_simp⟩) hHeld ?_
  simp only [Act.put, List.setIfInBounds_toArray, List.set_cons_succ, List.set_cons_zero]
  refine drawn_take (i := 5) (v := .pointer (some ⟨r, 0, none⟩)) (some 12) rfl rfl (by kernel_rfl) (by kernel_rfl) (by kernel_rfl) (fun _ _ _ h => h) (Or.inl ⟨by kernel_rfl, fun wq hw => by go_simp⟩) hHeld ?_
  simp only [Act.put, List.setIfInBounds_toArray, List.set_cons_succ, List.set_cons_zero]
  refine drawn_take (i := 6) (v := .pointer (some ⟨r, 2, none⟩)) (some 13) rfl rfl (by kernel_rfl) (by kernel_rfl) (by kernel_rfl) (fun _ _ _ h => h) (Or.inl ⟨by kernel_rfl, fun wq hw => by go_simp⟩) hHeld ?_
  simp only [Act.put, List.setIfInBounds_toArray, List.set_cons_succ, List.set_cons_zero]
  refine drawn_take (i := 7) (v := .int .i64 (q : Int)) (some 14) rfl rfl (by kernel_rfl) (by kernel_rfl) (by kernel_rfl) (fun _ _ _ h => h) (Or.inl ⟨by kernel_rfl, fun wq hw => by have q0 : wq.cell? ⟨r, 2, none⟩ = some (.int .i64 (q : Int)) := cell_of_row _ _ _ _ _ _ hw; go_simp⟩) hHeld ?_
  simp only [Act.put, List.setIfInBounds_toArray, List.set_cons_succ, List.set_cons_zero]
  refine wpAnyH_ready (rs := [8]) (by kernel_rfl) (by simp) ?_
  refine rdy_call (i := 8) rfl rfl (some 15) rfl 54 #[.agg #[.slice a zs.length cap, .int .i64 (N : Int)], .int .i64 (q : Int)] (rd_takeInt (x0 := 10) (x1 := 14) (ts := #[45, 3]) (by kernel_rfl) (by kernel_rfl) (by kernel_rfl)) (fun x w' => ∃ v to er : Int, x = .tuple #[.int .i64 v, .int .i64 to, .int .i64 er] ∧ TI zs (N : Int) (q : Int) v to er ∧ Below wd.heap.size wd w') ((takeInt_any a zs.length cap N q zs _ hBd (by omega) (by omega) hTd).mono fun e w' h => by obtain ⟨v, to, er, h1, h2, h3⟩ := h; exact ⟨_, h1, v, to, er, rfl, h2, h3⟩) (fun r w9 hR => ?_) rdy_nil
  obtain ⟨v, to, er, rfl, hti, b1⟩ := hR
  have hd2 := (b1.block r (by rw [hszd]; exact hr1)).trans hd1
  refine ⟨hd2, fun hHeld => ?_⟩
  simp only [Act.put, List.setIfInBounds_toArray, List.set_cons_succ, List.set_cons_zero]
  have B1 : Below w.heap.size w w9 := hbd.trans (b1.mono (by omega))
  have hR1 := h'.below B1
  have HTI := hidn hti
  clear hti
  refine drawn_take (i := 9) (v := .tuple #[.int .i64 v, .int .i64 to, .int .i64 er]) (some 6) rfl rfl (by kernel_rfl) (by kernel_rfl) (by kernel_rfl) (fun _ _ _ h => h) (Or.inl ⟨by kernel_rfl, fun wq hw => by go_simp⟩) hHeld ?_
  simp only [Act.put, List.setIfInBounds_toArray, List.set_cons_succ, List.set_cons_zero]
  refine drawn_take (i := 10) (v := .int .i64 v) (some 16) rfl rfl (by kernel_rfl) (by kernel_rfl) (by kernel_rfl) (fun _ _ _ h => h) (Or.inl ⟨by kernel_rfl, fun wq hw => by go_simp⟩) hHeld ?_
  simp only [Act.put, List.setIfInBounds_toArray, List.set_cons_succ, List.set_cons_zero]
  refine drawn_take (i := 11) (v := .int .i64 to) (some 17) rfl rfl (by kernel_rfl) (by kernel_rfl) (by kernel_rfl) (fun _ _ _ h => h) (Or.inl ⟨by kernel_rfl, fun wq hw => by go_simp⟩) hHeld ?_
  simp only [Act.put, List.setIfInBounds_toArray, List.set_cons_succ, List.set_cons_zero]
  refine drawn_take (i := 12) (v := .int .i64 er) (some 18) rfl rfl (by kernel_rfl) (by kernel_rfl) (by kernel_rfl) (fun _ _ _ h => h) (Or.inl ⟨by kernel_rfl, fun wq hw => by go_simp⟩) hHeld ?_
  simp only [Act.put, List.setIfInBounds_toArray, List.set_cons_succ, List.set_cons_zero]
  refine drawn_take (i := 13) (v := .int .i64 v) (some 3) rfl rfl (by kernel_rfl) (by kernel_rfl) (by kernel_rfl) (fun _ _ _ h => h) (Or.inl ⟨by kernel_rfl, fun wq hw => by go_simp⟩) hHeld ?_
  simp only [Act.put, List.setIfInBounds_toArray, List.set_cons_succ, List.set_cons_zero]
  refine drawn_take (i := 14) (v := .int .i64 to) (some 4) rfl rfl (by kernel_rfl) (by kernel_rfl) (by kernel_rfl) (fun _ _ _ h => h) (Or.inl ⟨by kernel_rfl, fun wq hw => by go_simp⟩) hHeld ?_
  simp only [Act.put, List.setIfInBounds_toArray, List.set_cons_succ, List.set_cons_zero]
  refine drawn_take (i := 15) (v := .int .i64 er) (some 5) rfl rfl (by kernel_rfl) (by kernel_rfl) (by kernel_rfl) (fun _ _ _ h => h) (Or.inl ⟨by kernel_rfl, fun wq hw => by go_simp⟩) hHeld ?_
  simp only [Act.put, List.setIfInBounds_toArray, List.set_cons_succ, List.set_cons_zero]
  refine wpAnyH_done (by kernel_rfl) ?_ _
  refine NoPanic.normal ?_
  clear hHeld
  clear hd1 hBd hd2
  by_cases he : er = 0
  · subst he
    obtain ⟨t1, t2, t3⟩ := ti_at HTI.out
    have t4 := t3.1
    rw [intBits_length] at t4
    obtain ⟨tn, htn⟩ : ∃ tn, tn = q + intLen v := ⟨_, rfl⟩
    rw [← htn] at t1 t4
    subst t1
    have HTN := hidn htn
    clear htn t3
    go_wp2_with fail
    refine (goOn_ok r tn zs q bad _ hR1 (by rw [← HN.out]; exact t4)).mono ?_
    rintro e w2 ⟨rfl, hr2, hk2⟩
    rw [HTN.out] at hr2
    have HF := hidn (And.intro hr2 ((Kr.of_below B1).trans hk2))
    clear hr2 hk2
    go_wp2_with fail
    go_ret
    exact ⟨v, _, 0, rfl, HTI.out, .inl ⟨rfl, HF.out.1⟩, HF.out.2⟩
  · have HE := hidn he
    go_wp2_with fail
    refine (goOn_bad r to er zs q bad _ hR1 HE.out).mono ?_
    rintro e w2 ⟨rfl, hr2, hk2⟩
    have HF := hidn (And.intro hr2 ((Kr.of_below B1).trans hk2))
    clear hr2 hk2 he
    go_wp2_with fail
    go_ret
    exact ⟨v, to, er, rfl, HTI.out, .inr ⟨HE.out, HF.out.1⟩, HF.out.2⟩

end Go.Proofs.YtljkidbdlhllcaaDoor
