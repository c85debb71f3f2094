/- The reader of bits: what it holds; goOn, take, takeInt. -/
import Derived.Test.YtfgfkifdokeefaaGreatDoorTiMath
namespace Go.Proofs.YtfgfkifdokeefaaGreatDoor.Cd
open Go.RowKit Go.Joins
set_option linter.unusedVariables false
set_option linter.unusedSimpArgs false

/-- A reader in memory: its block r, the bytes it goes through, its place, whether it is broken. -/
def RI (w : World) (r : Nat) (S : Option Addr × Nat) (zs : List Nat) (q : Nat) (bad : Bool) : Prop :=
  w.heap[r]? = some (.cells #[.slice S.1 zs.length S.2, .int .i64 ((8 * zs.length : Nat) : Int), .int .i64 (q : Int), .bool bad] 284 (0, 0)) ∧ Bs w S.1 zs.length zs ∧ q ≤ 8 * zs.length ∧ zs.length ≤ 1000000000 ∧ (∀ x, S.1 = some x → x.block ≠ r)

theorem can_full {zs : List Nat} : canB zs ((8 * zs.length : Nat) : Int) = true := by
  rw [canB_iff]
  exact ⟨by omega, by rw [Int.toNat_natCast]; unfold nb; omega, fun i h1 h2 => by rw [Int.toNat_natCast] at h2; omega⟩

theorem RI.below {S : Option Addr × Nat} {w w' : World} {r : Nat} {zs : List Nat} {q : Nat} {bad : Bool} (h : RI w r S zs q bad) (hb : Below w.heap.size w w') : RI w' r S zs q bad := by
  obtain ⟨h1, h2, h3⟩ := h
  exact ⟨(hb.block r (Array.getElem?_eq_some_iff.1 h1).1).trans h1, h2.below hb, h3⟩

/-- All blocks but the reader's are as they were. -/
def Kr (r : Nat) (w w' : World) : Prop := w'.os = w.os ∧ w'.tape = w.tape ∧ w'.output = w.output ∧ w.heap.size ≤ w'.heap.size ∧ ∀ k, k < w.heap.size → k ≠ r → w'.heap[k]? = w.heap[k]?

theorem Kr.refl (r : Nat) (w : World) : Kr r w w := ⟨rfl, rfl, rfl, Nat.le_refl _, fun _ _ _ => rfl⟩

theorem Kr.trans {r : Nat} {a b c : World} (h : Kr r a b) (k : Kr r b c) : Kr r a c :=
  ⟨k.1.trans h.1, k.2.1.trans h.2.1, k.2.2.1.trans h.2.2.1, Nat.le_trans h.2.2.2.1 k.2.2.2.1, fun i hi hn => (k.2.2.2.2 i (Nat.lt_of_lt_of_le hi h.2.2.2.1) hn).trans (h.2.2.2.2 i hi hn)⟩

theorem Kr.of_below {r : Nat} {w w' : World} (h : Below w.heap.size w w') : Kr r w w' := ⟨h.os, h.tape, h.output, h.size, fun i hi _ => h.block i hi⟩

theorem Kr.setCell {r : Nat} {a w : World} (h : Kr r a w) (o : Nat) (u : Value) : Kr r a (w.setCell ⟨r, o, none⟩ u) :=
  h.trans ⟨rfl, rfl, rfl, by simp [World.setCell], fun k _ hk => Below.heap_setCell _ _ _ _ hk⟩

theorem Kr.below {r n : Nat} {w w' : World} (h : Kr r w w') (hn : n ≤ w.heap.size) (hr : n ≤ r) : Below n w w' :=
  ⟨h.1, h.2.1, h.2.2.1, h.2.2.2.1, fun i hi => h.2.2.2.2 i (by omega) (by omega)⟩

theorem RI.set {w : World} {r : Nat} {zs : List Nat} {q q' : Nat} {bad : Bool} {a : Option Addr} {cap : Nat} (h1 : w.heap[r]? = some (.cells #[.slice a zs.length cap, .int .i64 ((8 * zs.length : Nat) : Int), .int .i64 (q : Int), .bool bad] 284 (0, 0)))
    (h2 : Bs w a zs.length zs) (h3 : q' ≤ 8 * zs.length) (h4 : zs.length ≤ 1000000000) (h5 : ∀ x, a = some x → x.block ≠ r) : RI (w.setCell ⟨r, 2, none⟩ (.int .i64 (q' : Int))) r (a, cap) zs q' bad :=
  ⟨block_setCell h1 _, bs_setCell h2 h5 _, h3, h4, h5⟩

theorem RI.break {w : World} {r : Nat} {zs : List Nat} {q : Nat} {bad : Bool} {a : Option Addr} {cap : Nat} (h1 : w.heap[r]? = some (.cells #[.slice a zs.length cap, .int .i64 ((8 * zs.length : Nat) : Int), .int .i64 (q : Int), .bool bad] 284 (0, 0)))
    (h2 : Bs w a zs.length zs) (h3 : q ≤ 8 * zs.length) (h4 : zs.length ≤ 1000000000) (h5 : ∀ x, a = some x → x.block ≠ r) : RI (w.setCell ⟨r, 3, none⟩ (.bool true)) r (a, cap) zs q true :=
  ⟨block_setCell h1 _, bs_setCell h2 h5 _, h3, h4, h5⟩

set_option maxHeartbeats 2000000 in
set_option maxRecDepth 100000 in
theorem goOn_ok {S : Option Addr × Nat} (r q' : Nat) (zs : List Nat) (q : Nat) (bad : Bool) (w : World) (h : RI w r S zs q bad) (hq : q' ≤ 8 * zs.length) :
    Calls Tryz.prog 268 #[.pointer (some ⟨r, 0, none⟩), .int .i64 (q' : Int), .int .i64 0] w fun e w' => e = .returned (.tuple #[]) ∧ RI w' r S zs q' bad ∧ Kr r w w' := by
  obtain ⟨a, cap⟩ := S
  obtain ⟨h1, h2, h3, h4, h5⟩ := h
  simp only at h1 h2 h5
  have c2 : w.cell? ⟨r, 2, none⟩ = some (.int .i64 (q : Int)) := cell_of_row _ _ _ _ _ _ h1
  have f2 : w.frozen? ⟨r, 2, none⟩ = false := unfrozen_of_block h1 _
  have HR := hidn (RI.set h1 h2 hq h4 h5)
  clear h1 h2
  go_enter Tryz.func268, Tryz.ntmps268
  go_wp2
  go_end0
  exact ⟨rfl, HR.out, (Kr.refl r w).setCell 2 _⟩

set_option maxHeartbeats 2000000 in
set_option maxRecDepth 100000 in
theorem goOn_bad {S : Option Addr × Nat} (r : Nat) (q' e : Int) (zs : List Nat) (q : Nat) (bad : Bool) (w : World) (h : RI w r S zs q bad) (he : e ≠ 0) :
    Calls Tryz.prog 268 #[.pointer (some ⟨r, 0, none⟩), .int .i64 q', .int .i64 e] w fun e w' => e = .returned (.tuple #[]) ∧ RI w' r S zs q true ∧ Kr r w w' := by
  obtain ⟨a, cap⟩ := S
  obtain ⟨h1, h2, h3, h4, h5⟩ := h
  simp only at h1 h2 h5
  have c2 : w.cell? ⟨r, 3, none⟩ = some (.bool bad) := cell_of_row _ _ _ _ _ _ h1
  have f2 : w.frozen? ⟨r, 3, none⟩ = false := unfrozen_of_block h1 _
  have hne : (e != 0) = true := by rw [bne_iff_ne]; exact he
  have HR := hidn (RI.break h1 h2 h3 h4 h5)
  clear h1 h2 he
  go_enter Tryz.func268, Tryz.ntmps268
  go_wp2
  exact bodyPost_ret (v := .tuple #[]) (by simp [results, Tryz.results268, go_sem]) rfl ⟨rfl, HR.out, (Kr.refl r w).setCell 3 _⟩

theorem rd_take {o : Oper} {a : Act} {w : World} {ts : Array TypeId} {x0 x1 x2 : Nat} {v0 v1 v2 : Value} (ho : o.op = Op.call { callee := Callee.value (Operand.func 267), args := #[.tmp x0, .tmp x1, .tmp x2], argTypes := ts }) (hx0 : a.eval (.tmp x0) = v0) (hx1 : a.eval (.tmp x1) = v1) (hx2 : a.eval (.tmp x2) = v2) : (execOp a.eval o).run Tryz.prog w = .ok (.enter 267 #[v0, v1, v2]) w := by
  simp [go_sem, execOp, ho, resolve, invoke]
  exact ⟨by simpa [Act.eval] using hx0, by simpa [Act.eval] using hx1, by simpa [Act.eval] using hx2⟩

theorem rd_takeInt {o : Oper} {a : Act} {w : World} {ts : Array TypeId} {x0 x1 : Nat} {v0 v1 : Value} (ho : o.op = Op.call { callee := Callee.value (Operand.func 269), args := #[.tmp x0, .tmp x1], argTypes := ts }) (hx0 : a.eval (.tmp x0) = v0) (hx1 : a.eval (.tmp x1) = v1) : (execOp a.eval o).run Tryz.prog w = .ok (.enter 269 #[v0, v1]) w := by
  simp [go_sem, execOp, ho, resolve, invoke]
  exact ⟨by simpa [Act.eval] using hx0, by simpa [Act.eval] using hx1⟩

set_option maxHeartbeats 2000000 in
set_option maxRecDepth 100000 in
theorem rtake_ok {S : Option Addr × Nat} (r c : Nat) (zs : List Nat) (q : Nat) (bad : Bool) (w : World) (h : RI w r S zs q bad) (hc : c ≤ 64) (hq : q + c ≤ 8 * zs.length) :
    Calls Tryz.prog 232 #[.pointer (some ⟨r, 0, none⟩), .int .i64 (c : Int)] w fun e w' => e = .returned (.int .u64 (numOf (win zs q c) : Nat)) ∧ RI w' r S zs (q + c) bad ∧ Kr r w w' := by
  have h' := h
  obtain ⟨a, cap⟩ := S
  obtain ⟨h1, h2, h3, h4, h5⟩ := h
  simp only at h1 h2 h5
  obtain ⟨N, hN⟩ : ∃ N, N = 8 * zs.length := ⟨_, rfl⟩
  have hcan : canB zs (N : Nat) = true := by rw [hN]; exact can_full
  rw [← hN] at h1 hq h3
  have hb8 : N ≤ 8000000000 := by omega
  have HN := hidn hN
  have HC := hidn hcan
  clear hN h5 hcan
  have hr1 : r < w.heap.size := (Array.getElem?_eq_some_iff.1 h1).1
  have hd1 : w.drew.heap[r]? = some (.cells #[.slice a zs.length cap, .int .i64 (N : Int), .int .i64 (q : Int), .bool bad] 284 (0, 0)) := h1
  have hBd : Bs w.drew a zs.length zs := h2
  have hbd : Below w.heap.size w w.drew := (Below.refl _ _).drew
  have hszd : w.drew.heap.size = w.heap.size := rfl
  clear h1 h2
  go_enter Tryz.func232, Tryz.ntmps232
  go_wp2_with fail
  generalize hWd : w.drew = wd at *
  refine wp_region_noPanic ?_
  refine wp_region_held_drew (S := fun w' => w'.heap[r]? = some (.cells #[.slice a zs.length cap, .int .i64 (N : Int), .int .i64 (q : Int), .bool bad] 284 (0, 0))) (by kernel_rfl) (by rw [hWd]; exact hd1) (fun hHeld => ?_)
  rw [hWd] at hHeld ⊢
  refine drawn_take (i := 0) (v := .pointer (some ⟨r, 0, none⟩)) (some 8) rfl rfl (by kernel_rfl) (by kernel_rfl) (by kernel_rfl) (fun _ _ _ h => h) (Or.inl ⟨by kernel_rfl, fun wq hw => by go_simp⟩) hHeld ?_
  simp only [Act.put, List.setIfInBounds_toArray, List.set_cons_succ, List.set_cons_zero]
  refine drawn_take (i := 1) (v := .pointer (some ⟨r, 0, none⟩)) (some 9) rfl rfl (by kernel_rfl) (by kernel_rfl) (by kernel_rfl) (fun _ _ _ h => h) (Or.inl ⟨by kernel_rfl, fun wq hw => by go_simp⟩) hHeld ?_
  simp only [Act.put, List.setIfInBounds_toArray, List.set_cons_succ, List.set_cons_zero]
  refine drawn_take (i := 2) (v := .pointer (some ⟨r, 0, none⟩)) (some 10) rfl rfl (by kernel_rfl) (by kernel_rfl) (by kernel_rfl) (fun _ _ _ h => h) (Or.inl ⟨by kernel_rfl, fun wq hw => by go_simp⟩) hHeld ?_
  simp only [Act.put, List.setIfInBounds_toArray, List.set_cons_succ, List.set_cons_zero]
  refine drawn_take (i := 3) (v := .agg #[.slice a zs.length cap, .int .i64 (N : Int)]) (some 11) rfl rfl (by kernel_rfl) (by kernel_rfl) (by kernel_rfl) (fun _ _ _ h => h) (Or.inl ⟨by kernel_rfl, fun wq hw => by have q0 : wq.cell? ⟨r, 0, none⟩ = some (.slice a zs.length cap) := cell_of_row _ _ _ _ _ _ hw; have q1 : wq.cell? ⟨r, 1, none⟩ = some (.int .i64 (N : Int)) := cell_of_row _ _ _ _ _ _ hw; go_simp⟩) hHeld ?_
  simp only [Act.put, List.setIfInBounds_toArray, List.set_cons_succ, List.set_cons_zero]
  refine drawn_take (i := 4) (v := .pointer (some ⟨r, 0, none⟩)) (some 12) rfl rfl (by kernel_rfl) (by kernel_rfl) (by kernel_rfl) (fun _ _ _ h => h) (Or.inl ⟨by kernel_rfl, fun wq hw => by go_simp⟩) hHeld ?_
  simp only [Act.put, List.setIfInBounds_toArray, List.set_cons_succ, List.set_cons_zero]
  refine drawn_take (i := 5) (v := .pointer (some ⟨r, 0, none⟩)) (some 13) rfl rfl (by kernel_rfl) (by kernel_rfl) (by kernel_rfl) (fun _ _ _ h => h) (Or.inl ⟨by kernel_rfl, fun wq hw => by go_simp⟩) hHeld ?_
  simp only [Act.put, List.setIfInBounds_toArray, List.set_cons_succ, List.set_cons_zero]
  refine drawn_take (i := 6) (v := .pointer (some ⟨r, 2, none⟩)) (some 14) rfl rfl (by kernel_rfl) (by kernel_rfl) (by kernel_rfl) (fun _ _ _ h => h) (Or.inl ⟨by kernel_rfl, fun wq hw => by go_simp⟩) hHeld ?_
  simp only [Act.put, List.setIfInBounds_toArray, List.set_cons_succ, List.set_cons_zero]
  refine drawn_take (i := 7) (v := .int .i64 (q : Int)) (some 15) rfl rfl (by kernel_rfl) (by kernel_rfl) (by kernel_rfl) (fun _ _ _ h => h) (Or.inl ⟨by kernel_rfl, fun wq hw => by have q0 : wq.cell? ⟨r, 2, none⟩ = some (.int .i64 (q : Int)) := cell_of_row _ _ _ _ _ _ hw; go_simp⟩) hHeld ?_
  simp only [Act.put, List.setIfInBounds_toArray, List.set_cons_succ, List.set_cons_zero]
  refine drawn_take (i := 8) (v := .int .i64 (c : Int)) (some 16) rfl rfl (by kernel_rfl) (by kernel_rfl) (by kernel_rfl) (fun _ _ _ h => h) (Or.inl ⟨by kernel_rfl, fun wq hw => by go_simp⟩) hHeld ?_
  simp only [Act.put, List.setIfInBounds_toArray, List.set_cons_succ, List.set_cons_zero]
  refine wpAnyH_ready (rs := [9]) (by kernel_rfl) (by simp) ?_
  refine rdy_call (i := 9) rfl rfl (some 17) rfl 267 #[.agg #[.slice a zs.length cap, .int .i64 (N : Int)], .int .i64 (q : Int), .int .i64 (c : Int)] (rd_take (x0 := 11) (x1 := 15) (x2 := 16) (ts := #[282, 3, 3]) (by kernel_rfl) (by kernel_rfl) (by kernel_rfl) (by kernel_rfl)) (fun x w' => x = .tuple #[.int .u64 (numOf (win zs q c) : Nat), .int .i64 0] ∧ Below wd.heap.size wd w') ((take_ok a zs.length cap N q c zs _ hBd (by omega) (by omega) HC.out hc hq).mono fun e w' h => ⟨_, h.1, rfl, h.2⟩) (fun r w9 hR => ?_) rdy_nil
  obtain ⟨rfl, b1⟩ := hR
  have hd2 := (b1.block r (by rw [hszd]; exact hr1)).trans hd1
  refine ⟨hd2, fun hHeld => ?_⟩
  simp only [Act.put, List.setIfInBounds_toArray, List.set_cons_succ, List.set_cons_zero]
  have B1 : Below w.heap.size w w9 := hbd.trans (b1.mono (by omega))
  have hR1 := h'.below B1
  obtain ⟨nv, hnv⟩ : ∃ nv, nv = (numOf (win zs q c) : Nat) := ⟨_, rfl⟩
  rw [← hnv]
  have HNV := hidn hnv
  clear hnv
  refine drawn_take (i := 10) (v := .tuple #[.int .u64 (nv : Int), .int .i64 0]) (some 7) rfl rfl (by kernel_rfl) (by kernel_rfl) (by kernel_rfl) (fun _ _ _ h => h) (Or.inl ⟨by kernel_rfl, fun wq hw => by go_simp⟩) hHeld ?_
  simp only [Act.put, List.setIfInBounds_toArray, List.set_cons_succ, List.set_cons_zero]
  refine drawn_take (i := 11) (v := .int .u64 (nv : Int)) (some 18) rfl rfl (by kernel_rfl) (by kernel_rfl) (by kernel_rfl) (fun _ _ _ h => h) (Or.inl ⟨by kernel_rfl, fun wq hw => by go_simp⟩) hHeld ?_
  simp only [Act.put, List.setIfInBounds_toArray, List.set_cons_succ, List.set_cons_zero]
  refine drawn_take (i := 12) (v := .int .i64 0) (some 19) rfl rfl (by kernel_rfl) (by kernel_rfl) (by kernel_rfl) (fun _ _ _ h => h) (Or.inl ⟨by kernel_rfl, fun wq hw => by go_simp⟩) hHeld ?_
  simp only [Act.put, List.setIfInBounds_toArray, List.set_cons_succ, List.set_cons_zero]
  refine drawn_take (i := 13) (v := .int .u64 (nv : Int)) (some 5) rfl rfl (by kernel_rfl) (by kernel_rfl) (by kernel_rfl) (fun _ _ _ h => h) (Or.inl ⟨by kernel_rfl, fun wq hw => by go_simp⟩) hHeld ?_
  simp only [Act.put, List.setIfInBounds_toArray, List.set_cons_succ, List.set_cons_zero]
  refine drawn_take (i := 14) (v := .int .i64 0) (some 6) rfl rfl (by kernel_rfl) (by kernel_rfl) (by kernel_rfl) (fun _ _ _ h => h) (Or.inl ⟨by kernel_rfl, fun wq hw => by go_simp⟩) hHeld ?_
  simp only [Act.put, List.setIfInBounds_toArray, List.set_cons_succ, List.set_cons_zero]
  refine wpAnyH_done (by kernel_rfl) ?_ _
  refine NoPanic.normal ?_
  clear hHeld
  have d2 : w9.cell? ⟨r, 2, none⟩ = some (.int .i64 (q : Int)) := cell_of_row _ _ _ _ _ _ hd2
  clear hd1 hBd hd2
  go_wp2_with fail
  refine (goOn_ok r (q + c) zs q bad _ hR1 (by rw [← HN.out]; exact hq)).mono ?_
  rintro e w2 ⟨rfl, hr2, hk2⟩
  have HF := hidn (And.intro hr2 ((Kr.of_below B1).trans hk2))
  clear hr2 hk2
  go_wp2_with fail
  go_ret
  rw [HNV.out]
  exact ⟨rfl, HF.out⟩

set_option maxHeartbeats 2000000 in
set_option maxRecDepth 100000 in
theorem rtake_no {S : Option Addr × Nat} (r c : Nat) (zs : List Nat) (q : Nat) (bad : Bool) (w : World) (h : RI w r S zs q bad) (hc : c ≤ 64) (hq : 8 * zs.length < q + c) :
    Calls Tryz.prog 232 #[.pointer (some ⟨r, 0, none⟩), .int .i64 (c : Int)] w fun e w' => e = .returned (.int .u64 0) ∧ RI w' r S zs q true ∧ Kr r w w' := by
  have h' := h
  obtain ⟨a, cap⟩ := S
  obtain ⟨h1, h2, h3, h4, h5⟩ := h
  simp only at h1 h2 h5
  obtain ⟨N, hN⟩ : ∃ N, N = 8 * zs.length := ⟨_, rfl⟩
  have hcan : canB zs (N : Nat) = true := by rw [hN]; exact can_full
  rw [← hN] at h1 hq h3
  have hb8 : N ≤ 8000000000 := by omega
  have HN := hidn hN
  have HC := hidn hcan
  clear hN h5 hcan
  have hr1 : r < w.heap.size := (Array.getElem?_eq_some_iff.1 h1).1
  have hd1 : w.drew.heap[r]? = some (.cells #[.slice a zs.length cap, .int .i64 (N : Int), .int .i64 (q : Int), .bool bad] 284 (0, 0)) := h1
  have hBd : Bs w.drew a zs.length zs := h2
  have hbd : Below w.heap.size w w.drew := (Below.refl _ _).drew
  have hszd : w.drew.heap.size = w.heap.size := rfl
  clear h1 h2
  go_enter Tryz.func232, Tryz.ntmps232
  go_wp2_with fail
  generalize hWd : w.drew = wd at *
  refine wp_region_noPanic ?_
  refine wp_region_held_drew (S := fun w' => w'.heap[r]? = some (.cells #[.slice a zs.length cap, .int .i64 (N : Int), .int .i64 (q : Int), .bool bad] 284 (0, 0))) (by kernel_rfl) (by rw [hWd]; exact hd1) (fun hHeld => ?_)
  rw [hWd] at hHeld ⊢
  refine drawn_take (i := 0) (v := .pointer (some ⟨r, 0, none⟩)) (some 8) rfl rfl (by kernel_rfl) (by kernel_rfl) (by kernel_rfl) (fun _ _ _ h => h) (Or.inl ⟨by kernel_rfl, fun wq hw => by go_simp⟩) hHeld ?_
  simp only [Act.put, List.setIfInBounds_toArray, List.set_cons_succ, List.set_cons_zero]
  refine drawn_take (i := 1) (v := .pointer (some ⟨r, 0, none⟩)) (some 9) rfl rfl (by kernel_rfl) (by kernel_rfl) (by kernel_rfl) (fun _ _ _ h => h) (Or.inl ⟨by kernel_rfl, fun wq hw => by go_simp⟩) hHeld ?_
  simp only [Act.put, List.setIfInBounds_toArray, List.set_cons_succ, List.set_cons_zero]
  refine drawn_take (i := 2) (v := .pointer (some ⟨r, 0, none⟩)) (some 10) rfl rfl (by kernel_rfl) (by kernel_rfl) (by kernel_rfl) (fun _ _ _ h => h) (Or.inl ⟨by kernel_rfl, fun wq hw => by go_simp⟩) hHeld ?_
  simp only [Act.put, List.setIfInBounds_toArray, List.set_cons_succ, List.set_cons_zero]
  refine drawn_take (i := 3) (v := .agg #[.slice a zs.length cap, .int .i64 (N : Int)]) (some 11) rfl rfl (by kernel_rfl) (by kernel_rfl) (by kernel_rfl) (fun _ _ _ h => h) (Or.inl ⟨by kernel_rfl, fun wq hw => by have q0 : wq.cell? ⟨r, 0, none⟩ = some (.slice a zs.length cap) := cell_of_row _ _ _ _ _ _ hw; have q1 : wq.cell? ⟨r, 1, none⟩ = some (.int .i64 (N : Int)) := cell_of_row _ _ _ _ _ _ hw; go_simp⟩) hHeld ?_
  simp only [Act.put, List.setIfInBounds_toArray, List.set_cons_succ, List.set_cons_zero]
  refine drawn_take (i := 4) (v := .pointer (some ⟨r, 0, none⟩)) (some 12) rfl rfl (by kernel_rfl) (by kernel_rfl) (by kernel_rfl) (fun _ _ _ h => h) (Or.inl ⟨by kernel_rfl, fun wq hw => by go_simp⟩) hHeld ?_
  simp only [Act.put, List.setIfInBounds_toArray, List.set_cons_succ, List.set_cons_zero]
  refine drawn_take (i := 5) (v := .pointer (some ⟨r, 0, none⟩)) (some 13) rfl rfl (by kernel_rfl) (by kernel_rfl) (by kernel_rfl) (fun _ _ _ h => h) (Or.inl ⟨by kernel_rfl, fun wq hw => by go_simp⟩) hHeld ?_
  simp only [Act.put, List.setIfInBounds_toArray, List.set_cons_succ, List.set_cons_zero]
  refine drawn_take (i := 6) (v := .pointer (some ⟨r, 2, none⟩)) (some 14) rfl rfl (by kernel_rfl) (by kernel_rfl) (by kernel_rfl) (fun _ _ _ h => h) (Or.inl ⟨by kernel_rfl, fun wq hw => by go_simp⟩) hHeld ?_
  simp only [Act.put, List.setIfInBounds_toArray, List.set_cons_succ, List.set_cons_zero]
  refine drawn_take (i := 7) (v := .int .i64 (q : Int)) (some 15) rfl rfl (by kernel_rfl) (by kernel_rfl) (by kernel_rfl) (fun _ _ _ h => h) (Or.inl ⟨by kernel_rfl, fun wq hw => by have q0 : wq.cell? ⟨r, 2, none⟩ = some (.int .i64 (q : Int)) := cell_of_row _ _ _ _ _ _ hw; go_simp⟩) hHeld ?_
  simp only [Act.put, List.setIfInBounds_toArray, List.set_cons_succ, List.set_cons_zero]
  refine drawn_take (i := 8) (v := .int .i64 (c : Int)) (some 16) rfl rfl (by kernel_rfl) (by kernel_rfl) (by kernel_rfl) (fun _ _ _ h => h) (Or.inl ⟨by kernel_rfl, fun wq hw => by go_simp⟩) hHeld ?_
  simp only [Act.put, List.setIfInBounds_toArray, List.set_cons_succ, List.set_cons_zero]
  refine wpAnyH_ready (rs := [9]) (by kernel_rfl) (by simp) ?_
  refine rdy_call (i := 9) rfl rfl (some 17) rfl 267 #[.agg #[.slice a zs.length cap, .int .i64 (N : Int)], .int .i64 (q : Int), .int .i64 (c : Int)] (rd_take (x0 := 11) (x1 := 15) (x2 := 16) (ts := #[282, 3, 3]) (by kernel_rfl) (by kernel_rfl) (by kernel_rfl) (by kernel_rfl)) (fun x w' => x = .tuple #[.int .u64 0, .int .i64 3] ∧ Below wd.heap.size wd w') ((take_short a zs.length cap N q c zs _ hBd (by omega) HC.out hc h3 hq).mono fun e w' h => ⟨_, h.1, rfl, h.2⟩) (fun r w9 hR => ?_) rdy_nil
  obtain ⟨rfl, b1⟩ := hR
  have hd2 := (b1.block r (by rw [hszd]; exact hr1)).trans hd1
  refine ⟨hd2, fun hHeld => ?_⟩
  simp only [Act.put, List.setIfInBounds_toArray, List.set_cons_succ, List.set_cons_zero]
  have B1 : Below w.heap.size w w9 := hbd.trans (b1.mono (by omega))
  have hR1 := h'.below B1
  refine drawn_take (i := 10) (v := .tuple #[.int .u64 0, .int .i64 3]) (some 7) rfl rfl (by kernel_rfl) (by kernel_rfl) (by kernel_rfl) (fun _ _ _ h => h) (Or.inl ⟨by kernel_rfl, fun wq hw => by go_simp⟩) hHeld ?_
  simp only [Act.put, List.setIfInBounds_toArray, List.set_cons_succ, List.set_cons_zero]
  refine drawn_take (i := 11) (v := .int .u64 0) (some 18) rfl rfl (by kernel_rfl) (by kernel_rfl) (by kernel_rfl) (fun _ _ _ h => h) (Or.inl ⟨by kernel_rfl, fun wq hw => by go_simp⟩) hHeld ?_
  simp only [Act.put, List.setIfInBounds_toArray, List.set_cons_succ, List.set_cons_zero]
  refine drawn_take (i := 12) (v := .int .i64 3) (some 19) rfl rfl (by kernel_rfl) (by kernel_rfl) (by kernel_rfl) (fun _ _ _ h => h) (Or.inl ⟨by kernel_rfl, fun wq hw => by go_simp⟩) hHeld ?_
  simp only [Act.put, List.setIfInBounds_toArray, List.set_cons_succ, List.set_cons_zero]
  refine drawn_take (i := 13) (v := .int .u64 0) (some 5) rfl rfl (by kernel_rfl) (by kernel_rfl) (by kernel_rfl) (fun _ _ _ h => h) (Or.inl ⟨by kernel_rfl, fun wq hw => by go_simp⟩) hHeld ?_
  simp only [Act.put, List.setIfInBounds_toArray, List.set_cons_succ, List.set_cons_zero]
  refine drawn_take (i := 14) (v := .int .i64 3) (some 6) rfl rfl (by kernel_rfl) (by kernel_rfl) (by kernel_rfl) (fun _ _ _ h => h) (Or.inl ⟨by kernel_rfl, fun wq hw => by go_simp⟩) hHeld ?_
  simp only [Act.put, List.setIfInBounds_toArray, List.set_cons_succ, List.set_cons_zero]
  refine wpAnyH_done (by kernel_rfl) ?_ _
  refine NoPanic.normal ?_
  clear hHeld
  have d2 : w9.cell? ⟨r, 2, none⟩ = some (.int .i64 (q : Int)) := cell_of_row _ _ _ _ _ _ hd2
  clear hd1 hBd hd2
  go_wp2_with fail
  refine (goOn_bad r _ 3 zs q bad _ hR1 (by decide)).mono ?_
  rintro e w2 ⟨rfl, hr2, hk2⟩
  have HF := hidn (And.intro hr2 ((Kr.of_below B1).trans hk2))
  clear hr2 hk2
  go_wp2_with fail
  go_ret
  exact ⟨rfl, HF.out⟩

set_option maxHeartbeats 2000000 in
set_option maxRecDepth 100000 in
theorem rtakeInt_any {S : Option Addr × Nat} (r : Nat) (zs : List Nat) (q : Nat) (bad : Bool) (w : World) (h : RI w r S zs q bad) (hT : BitsTab w) :
    Calls Tryz.prog 233 #[.pointer (some ⟨r, 0, none⟩)] w fun e w' => ∃ (v to er : Int), e = .returned (.int .i64 v) ∧ TI zs ((8 * zs.length : Nat) : Int) (q : Int) v to er ∧
      ((er = 0 ∧ RI w' r S zs (q + intLen v) bad) ∨ (er ≠ 0 ∧ RI w' r S zs q true)) ∧ Kr r w w' := by
  have h' := h
  obtain ⟨a, cap⟩ := S
  obtain ⟨h1, h2, h3, h4, h5⟩ := h
  simp only at h1 h2 h5
  obtain ⟨N, hN⟩ : ∃ N, N = 8 * zs.length := ⟨_, rfl⟩
  rw [← hN] at h1 h3 ⊢
  have hb8 : N ≤ 8000000000 := by omega
  have HN := hidn hN
  clear hN h5
  have hr1 : r < w.heap.size := (Array.getElem?_eq_some_iff.1 h1).1
  have hd1 : w.drew.heap[r]? = some (.cells #[.slice a zs.length cap, .int .i64 (N : Int), .int .i64 (q : Int), .bool bad] 284 (0, 0)) := h1
  have hBd : Bs w.drew a zs.length zs := h2
  have hbd : Below w.heap.size w w.drew := (Below.refl _ _).drew
  have hszd : w.drew.heap.size = w.heap.size := rfl
  have hTd : BitsTab w.drew := hT.below hbd
  clear h1 h2
  go_enter Tryz.func233, Tryz.ntmps233
  go_wp2_with fail
  generalize hWd : w.drew = wd at *
  refine wp_region_noPanic ?_
  refine wp_region_held_drew (S := fun w' => w'.heap[r]? = some (.cells #[.slice a zs.length cap, .int .i64 (N : Int), .int .i64 (q : Int), .bool bad] 284 (0, 0))) (by kernel_rfl) (by rw [hWd]; exact hd1) (fun hHeld => ?_)
  rw [hWd] at hHeld ⊢
  refine drawn_take (i := 0) (v := .pointer (some ⟨r, 0, none⟩)) (some 7) rfl rfl (by kernel_rfl) (by kernel_rfl) (by kernel_rfl) (fun _ _ _ h => h) (Or.inl ⟨by kernel_rfl, fun wq hw => by go_simp⟩) hHeld ?_
  simp only [Act.put, List.setIfInBounds_toArray, List.set_cons_succ, List.set_cons_zero]
  refine drawn_take (i := 1) (v := .pointer (some ⟨r, 0, none⟩)) (some 8) rfl rfl (by kernel_rfl) (by kernel_rfl) (by kernel_rfl) (fun _ _ _ h => h) (Or.inl ⟨by kernel_rfl, fun wq hw => by go_simp⟩) hHeld ?_
  simp only [Act.put, List.setIfInBounds_toArray, List.set_cons_succ, List.set_cons_zero]
  refine drawn_take (i := 2) (v := .pointer (some ⟨r, 0, none⟩)) (some 9) rfl rfl (by kernel_rfl) (by kernel_rfl) (by kernel_rfl) (fun _ _ _ h => h) (Or.inl ⟨by kernel_rfl, fun wq hw => by go_simp⟩) hHeld ?_
  simp only [Act.put, List.setIfInBounds_toArray, List.set_cons_succ, List.set_cons_zero]
  refine drawn_take (i := 3) (v := .agg #[.slice a zs.length cap, .int .i64 (N : Int)]) (some 10) rfl rfl (by kernel_rfl) (by kernel_rfl) (by kernel_rfl) (fun _ _ _ h => h) (Or.inl ⟨by kernel_rfl, fun wq hw => by have q0 : wq.cell? ⟨r, 0, none⟩ = some (.slice a zs.length cap) := cell_of_row _ _ _ _ _ _ hw; have q1 : wq.cell? ⟨r, 1, none⟩ = some (.int .i64 (N : Int)) := cell_of_row _ _ _ _ _ _ hw; go_simp⟩) hHeld ?_
  simp only [Act.put, List.setIfInBounds_toArray, List.set_cons_succ, List.set_cons_zero]
  refine drawn_take (i := 4) (v := .pointer (some ⟨r, 0, none⟩)) (some 11) rfl rfl (by kernel_rfl) (by kernel_rfl) (by kernel_rfl) (fun _ _ _ h => h) (Or.inl ⟨by kernel_rfl, fun wq hw => by go_simp⟩) hHeld ?_
  simp only [Act.put, List.setIfInBounds_toArray, List.set_cons_succ, List.set_cons_zero]
  refine drawn_take (i := 5) (v := .pointer (some ⟨r, 0, none⟩)) (some 12) rfl rfl (by kernel_rfl) (by kernel_rfl) (by kernel_rfl) (fun _ _ _ h => h) (Or.inl ⟨by kernel_rfl, fun wq hw => by go_simp⟩) hHeld ?_
  simp only [Act.put, List.setIfInBounds_toArray, List.set_cons_succ, List.set_cons_zero]
  refine drawn_take (i := 6) (v := .pointer (some ⟨r, 2, none⟩)) (some 13) rfl rfl (by kernel_rfl) (by kernel_rfl) (by kernel_rfl) (fun _ _ _ h => h) (Or.inl ⟨by kernel_rfl, fun wq hw => by go_simp⟩) hHeld ?_
  simp only [Act.put, List.setIfInBounds_toArray, List.set_cons_succ, List.set_cons_zero]
  refine drawn_take (i := 7) (v := .int .i64 (q : Int)) (some 14) rfl rfl (by kernel_rfl) (by kernel_rfl) (by kernel_rfl) (fun _ _ _ h => h) (Or.inl ⟨by kernel_rfl, fun wq hw => by have q0 : wq.cell? ⟨r, 2, none⟩ = some (.int .i64 (q : Int)) := cell_of_row _ _ _ _ _ _ hw; go_simp⟩) hHeld ?_
  simp only [Act.put, List.setIfInBounds_toArray, List.set_cons_succ, List.set_cons_zero]
  refine wpAnyH_ready (rs := [8]) (by kernel_rfl) (by simp) ?_
  refine rdy_call (i := 8) rfl rfl (some 15) rfl 269 #[.agg #[.slice a zs.length cap, .int .i64 (N : Int)], .int .i64 (q : Int)] (rd_takeInt (x0 := 10) (x1 := 14) (ts := #[282, 3]) (by kernel_rfl) (by kernel_rfl) (by kernel_rfl)) (fun x w' => ∃ v to er : Int, x = .tuple #[.int .i64 v, .int .i64 to, .int .i64 er] ∧ TI zs (N : Int) (q : Int) v to er ∧ Below wd.heap.size wd w') ((takeInt_any a zs.length cap N q zs _ hBd (by omega) (by omega) hTd).mono fun e w' h => by obtain ⟨v, to, er, h1, h2, h3⟩ := h; exact ⟨_, h1, v, to, er, rfl, h2, h3⟩) (fun r w9 hR => ?_) rdy_nil
  obtain ⟨v, to, er, rfl, hti, b1⟩ := hR
  have hd2 := (b1.block r (by rw [hszd]; exact hr1)).trans hd1
  refine ⟨hd2, fun hHeld => ?_⟩
  simp only [Act.put, List.setIfInBounds_toArray, List.set_cons_succ, List.set_cons_zero]
  have B1 : Below w.heap.size w w9 := hbd.trans (b1.mono (by omega))
  have hR1 := h'.below B1
  have HTI := hidn hti
  clear hti
  refine drawn_take (i := 9) (v := .tuple #[.int .i64 v, .int .i64 to, .int .i64 er]) (some 6) rfl rfl (by kernel_rfl) (by kernel_rfl) (by kernel_rfl) (fun _ _ _ h => h) (Or.inl ⟨by kernel_rfl, fun wq hw => by go_simp⟩) hHeld ?_
  simp only [Act.put, List.setIfInBounds_toArray, List.set_cons_succ, List.set_cons_zero]
  refine drawn_take (i := 10) (v := .int .i64 v) (some 16) rfl rfl (by kernel_rfl) (by kernel_rfl) (by kernel_rfl) (fun _ _ _ h => h) (Or.inl ⟨by kernel_rfl, fun wq hw => by go_simp⟩) hHeld ?_
  simp only [Act.put, List.setIfInBounds_toArray, List.set_cons_succ, List.set_cons_zero]
  refine drawn_take (i := 11) (v := .int .i64 to) (some 17) rfl rfl (by kernel_rfl) (by kernel_rfl) (by kernel_rfl) (fun _ _ _ h => h) (Or.inl ⟨by kernel_rfl, fun wq hw => by go_simp⟩) hHeld ?_
  simp only [Act.put, List.setIfInBounds_toArray, List.set_cons_succ, List.set_cons_zero]
  refine drawn_take (i := 12) (v := .int .i64 er) (some 18) rfl rfl (by kernel_rfl) (by kernel_rfl) (by kernel_rfl) (fun _ _ _ h => h) (Or.inl ⟨by kernel_rfl, fun wq hw => by go_simp⟩) hHeld ?_
  simp only [Act.put, List.setIfInBounds_toArray, List.set_cons_succ, List.set_cons_zero]
  refine drawn_take (i := 13) (v := .int .i64 v) (some 3) rfl rfl (by kernel_rfl) (by kernel_rfl) (by kernel_rfl) (fun _ _ _ h => h) (Or.inl ⟨by kernel_rfl, fun wq hw => by go_simp⟩) hHeld ?_
  simp only [Act.put, List.setIfInBounds_toArray, List.set_cons_succ, List.set_cons_zero]
  refine drawn_take (i := 14) (v := .int .i64 to) (some 4) rfl rfl (by kernel_rfl) (by kernel_rfl) (by kernel_rfl) (fun _ _ _ h => h) (Or.inl ⟨by kernel_rfl, fun wq hw => by go_simp⟩) hHeld ?_
  simp only [Act.put, List.setIfInBounds_toArray, List.set_cons_succ, List.set_cons_zero]
  refine drawn_take (i := 15) (v := .int .i64 er) (some 5) rfl rfl (by kernel_rfl) (by kernel_rfl) (by kernel_rfl) (fun _ _ _ h => h) (Or.inl ⟨by kernel_rfl, fun wq hw => by go_simp⟩) hHeld ?_
  simp only [Act.put, List.setIfInBounds_toArray, List.set_cons_succ, List.set_cons_zero]
  refine wpAnyH_done (by kernel_rfl) ?_ _
  refine NoPanic.normal ?_
  clear hHeld
  clear hd1 hBd hd2
  by_cases he : er = 0
  · subst he
    obtain ⟨t1, t2, t3⟩ := ti_at HTI.out
    have t4 := t3.1
    rw [intBits_length] at t4
    obtain ⟨tn, htn⟩ : ∃ tn, tn = q + intLen v := ⟨_, rfl⟩
    rw [← htn] at t1 t4
    subst t1
    have HTN := hidn htn
    clear htn t3
    go_wp2_with fail
    refine (goOn_ok r tn zs q bad _ hR1 (by rw [← HN.out]; exact t4)).mono ?_
    rintro e w2 ⟨rfl, hr2, hk2⟩
    rw [HTN.out] at hr2
    have HF := hidn (And.intro hr2 ((Kr.of_below B1).trans hk2))
    clear hr2 hk2
    go_wp2_with fail
    go_ret
    exact ⟨v, _, 0, rfl, HTI.out, .inl ⟨rfl, HF.out.1⟩, HF.out.2⟩
  · have HE := hidn he
    go_wp2_with fail
    refine (goOn_bad r to er zs q bad _ hR1 HE.out).mono ?_
    rintro e w2 ⟨rfl, hr2, hk2⟩
    have HF := hidn (And.intro hr2 ((Kr.of_below B1).trans hk2))
    clear hr2 hk2 he
    go_wp2_with fail
    go_ret
    exact ⟨v, to, er, rfl, HTI.out, .inr ⟨HE.out, HF.out.1⟩, HF.out.2⟩

end Go.Proofs.YtfgfkifdokeefaaGreatDoor.Cd

namespace Go.Proofs.YtfgfkifdokeefaaGreatDoor.Cd
open Go.RowKit Go.Joins
set_option linter.unusedVariables false
set_option linter.unusedSimpArgs false

/-- What taking c bits at q answers, the place behind, whether the reader is broken. -/
def tkV (zs : List Nat) (q c : Nat) : Nat := if q + c ≤ 8 * zs.length then numOf (win zs q c) else 0

def tkQ (zs : List Nat) (q c : Nat) : Nat := if q + c ≤ 8 * zs.length then q + c else q

def tkB (zs : List Nat) (q c : Nat) (bad : Bool) : Bool := if q + c ≤ 8 * zs.length then bad else true

theorem tkV_lt (zs : List Nat) (q c : Nat) : tkV zs q c < 2 ^ c := by
  unfold tkV
  split
  · have := numOf_lt (win zs q c); rwa [win_length] at this
  · exact Nat.two_pow_pos c

theorem rtake_any {S : Option Addr × Nat} (r c : Nat) (zs : List Nat) (q : Nat) (bad : Bool) (w : World) (h : RI w r S zs q bad) (hc : c ≤ 64) :
    Calls Tryz.prog 232 #[.pointer (some ⟨r, 0, none⟩), .int .i64 (c : Int)] w fun e w' => e = .returned (.int .u64 (tkV zs q c : Nat)) ∧ RI w' r S zs (tkQ zs q c) (tkB zs q c bad) ∧ Kr r w w' := by
  by_cases hq : q + c ≤ 8 * zs.length
  · unfold tkV tkQ tkB
    rw [if_pos hq, if_pos hq, if_pos hq]
    exact rtake_ok r c zs q bad w h hc hq
  · unfold tkV tkQ tkB
    rw [if_neg hq, if_neg hq, if_neg hq]
    exact rtake_no r c zs q bad w h hc (by omega)

theorem turned_some (x : Nat) (h : x ≠ 0) : turned x = lowBits 1 1 ++ (lowBits (hiZ x) 6 ++ (lowBits (widZ x - 1) 6 ++ lowBits (x / 2 ^ loZ x) (widZ x))) := by
  unfold turned; rw [if_neg h]

theorem turned_zero : turned 0 = lowBits 0 1 := rfl

theorem at_of_low {zs : List Nat} {n q c x : Nat} (h : numOf (win zs q c) = x) (hn : q + c ≤ n) : At zs n q (lowBits x c) :=
  at_of_win (lowBits_length _ _) (by rw [← h]; exact win_low zs q c) hn

theorem tu_good {zs : List Nat} {N q h c t : Nat} (hb : numOf (win zs q 1) = 1) (h1 : numOf (win zs (q + 1) 6) = h) (h2 : numOf (win zs (q + 7) 6) = c) (f3 : q + 13 + (c + 1) ≤ N) (h3 : numOf (win zs (q + 13) (c + 1)) = t)
    (hl : h + (c + 1) ≤ 64) (ht : t / 2 ^ c = 1) (ho : t % 2 = 1) :
    t * 2 ^ (64 - h - (c + 1)) < 18446744073709551616 ∧ At zs N q (turned (t * 2 ^ (64 - h - (c + 1)))) ∧ (turned (t * 2 ^ (64 - h - (c + 1)))).length = 14 + c := by
  have htl : t < 2 ^ (c + 1) := by rw [← h3]; have := numOf_lt (win zs (q + 13) (c + 1)); rwa [win_length] at this
  have ht2 : 2 ^ c ≤ t := by
    by_cases hh : 2 ^ c ≤ t
    · exact hh
    · rw [Nat.div_eq_of_lt (by omega)] at ht; cases ht
  obtain ⟨z1, z2, z3, z4, z5, z6⟩ := zz_make t (c + 1) (64 - h - (c + 1)) (by omega) (by omega) (by simpa using ht2) htl ho
  generalize t * 2 ^ (64 - h - (c + 1)) = x at *
  rw [turned_some x z2, z3, z4, z5, z6, show 64 - (64 - h - (c + 1)) - (c + 1) = h from by omega, show c + 1 - 1 = c from by omega]
  refine ⟨z1, at_app.2 ⟨at_of_low hb (by omega), ?_⟩, by simp [lowBits_length]; omega⟩
  rw [lowBits_length]
  refine at_app.2 ⟨at_of_low h1 (by omega), ?_⟩
  rw [lowBits_length]
  refine at_app.2 ⟨at_of_low h2 (by omega), ?_⟩
  rw [lowBits_length]
  exact at_of_low h3 (by omega)

theorem tu_must {zs : List Nat} {N q y : Nat} (hb : numOf (win zs q 1) = 1) (hy : y < 18446744073709551616) (h : At zs N q (turned y)) :
    ∃ h c t, numOf (win zs (q + 1) 6) = h ∧ numOf (win zs (q + 7) 6) = c ∧ q + 13 + (c + 1) ≤ N ∧ numOf (win zs (q + 13) (c + 1)) = t ∧ h + (c + 1) ≤ 64 ∧ t / 2 ^ c = 1 ∧ t % 2 = 1 ∧ y = t * 2 ^ (64 - h - (c + 1)) := by
  have h0 : y ≠ 0 := by
    rintro rfl
    rw [turned_zero] at h
    have := (at_low h).2
    rw [hb] at this
    cases this
  obtain ⟨z1, z2, z3, z4, z5, z6, z7, z8, z9⟩ := zz_spec y h0 hy
  rw [turned_some y h0] at h
  obtain ⟨a1, a2⟩ := at_app.1 h
  rw [lowBits_length] at a2
  obtain ⟨a3, a4⟩ := at_app.1 a2
  rw [lowBits_length] at a4
  obtain ⟨a5, a6⟩ := at_app.1 a4
  rw [lowBits_length] at a6
  have e1 := (at_low a3).2
  have e2 := (at_low a5).2
  have e3 := at_low a6
  obtain ⟨wm, hwm⟩ : ∃ wm, widZ y = wm + 1 := ⟨widZ y - 1, by omega⟩
  rw [hwm] at e2 e3 z8 z9 z5
  rw [show wm + 1 - 1 = wm from rfl] at e2 z9
  rw [Nat.mod_eq_of_lt (by show hiZ y < 64; omega)] at e1
  rw [Nat.mod_eq_of_lt (by show wm < 64; omega)] at e2
  rw [Nat.mod_eq_of_lt z8] at e3
  refine ⟨hiZ y, wm, y / 2 ^ loZ y, e1, e2, e3.1, e3.2, by omega, ?_, z7, ?_⟩
  · rw [Nat.pow_succ] at z8
    have hp := Nat.two_pow_pos wm
    exact Nat.div_eq_of_lt_le (by omega) (by omega)
  · rw [show 64 - hiZ y - (wm + 1) = loZ y from by omega, Nat.mul_comm]; exact z6

set_option maxHeartbeats 4000000 in
set_option maxRecDepth 100000 in
theorem takeTurned_any {S : Option Addr × Nat} (r : Nat) (zs : List Nat) (q : Nat) (bad : Bool) (w : World) (h : RI w r S zs q bad) :
    Calls Tryz.prog 234 #[.pointer (some ⟨r, 0, none⟩)] w fun e w' => ∃ (x q' : Nat), e = .returned (.int .u64 (x : Int)) ∧ x < 18446744073709551616 ∧
      ((RI w' r S zs (q + (turned x).length) bad ∧ At zs (8 * zs.length) q (turned x)) ∨ (RI w' r S zs q' true ∧ ∀ y, y < 18446744073709551616 → ¬ At zs (8 * zs.length) q (turned y))) ∧ Kr r w w' := by
  have hlz := h.2.2.2.1
  go_enter Tryz.func234, Tryz.ntmps234
  go_wp2_with fail
  refine (rtake_any r 1 zs q bad _ h (by omega)).mono ?_
  rintro e w1 ⟨rfl, hr1, hk1⟩
  by_cases hq1 : q + 1 ≤ 8 * zs.length
  · have HQ := hidn hq1
    by_cases hb : numOf (win zs q 1) = 0
    · have hv : tkV zs q 1 = 0 := by unfold tkV; rw [if_pos hq1]; exact hb
      have hF : Hid ((RI w1 r S zs (q + (turned 0).length) bad ∧ At zs (8 * zs.length) q (turned 0)) ∧ Kr r w w1) := hidn (by
        unfold tkQ tkB at hr1
        rw [if_pos hq1, if_pos hq1] at hr1
        rw [turned_zero, lowBits_length]
        exact ⟨⟨hr1, at_of_low hb hq1⟩, hk1⟩)
      rw [hv]
      clear hr1 hk1 hv hb hq1
      go_wp2_with fail
      go_ret
      exact ⟨0, 0, rfl, by decide, .inl hF.out.1, hF.out.2⟩
    · have hb1 : numOf (win zs q 1) = 1 := by have := numOf_lt (win zs q 1); rw [win_length] at this; omega
      have hv : tkV zs q 1 = 1 := by unfold tkV; rw [if_pos hq1]; exact hb1
      have hr2 : RI w1 r S zs (q + 1) bad := by
        unfold tkQ tkB at hr1
        rw [if_pos hq1, if_pos hq1] at hr1
        exact hr1
      rw [hv]
      have HB1 := hidn hb1
      clear hr1 hv hb hb1 hq1
      go_wp2_with fail
      refine (rtake_any r 6 zs (q + 1) bad _ hr2 (by omega)).mono ?_
      rintro e w2 ⟨rfl, hr3, hk2⟩
      obtain ⟨hv, hhv⟩ : ∃ hv, hv = tkV zs (q + 1) 6 := ⟨_, rfl⟩
      obtain ⟨q2, hq2⟩ : ∃ q2, q2 = tkQ zs (q + 1) 6 := ⟨_, rfl⟩
      obtain ⟨b2, hb2⟩ : ∃ b2, b2 = tkB zs (q + 1) 6 bad := ⟨_, rfl⟩
      have hvl : hv < 64 := by rw [hhv]; exact tkV_lt zs (q + 1) 6
      rw [← hhv]
      rw [← hq2, ← hb2] at hr3
      have HH := hidn hhv
      have HQ2 := hidn hq2
      have HB2 := hidn hb2
      clear hhv hq2 hb2 hr2
      go_wp2_with fail
      refine (rtake_any r 6 zs q2 b2 _ hr3 (by omega)).mono ?_
      rintro e w3 ⟨rfl, hr4, hk3⟩
      obtain ⟨cv, hcv⟩ : ∃ cv, cv = tkV zs q2 6 := ⟨_, rfl⟩
      obtain ⟨q3, hq3⟩ : ∃ q3, q3 = tkQ zs q2 6 := ⟨_, rfl⟩
      obtain ⟨b3, hb3⟩ : ∃ b3, b3 = tkB zs q2 6 b2 := ⟨_, rfl⟩
      have cvl : cv < 64 := by rw [hcv]; exact tkV_lt zs q2 6
      rw [← hcv]
      rw [← hq3, ← hb3] at hr4
      have HCV := hidn hcv
      have HQ3 := hidn hq3
      have HB3 := hidn hb3
      clear hcv hq3 hb3 hr3
      obtain ⟨cn, hcn⟩ : ∃ cn, cn = cv + 1 := ⟨_, rfl⟩
      have rcn : (cv : Int) + 1 = (cn : Int) := by omega
      have HCN := hidn hcn
      have hcn64 : cn ≤ 64 := by omega
      have hcn1 : 1 ≤ cn := by omega
      clear hcn
      go_wp2_with fail
      refine (rtake_any r cn zs q3 b3 _ hr4 hcn64).mono ?_
      rintro e w4 ⟨rfl, hr5, hk4⟩
      obtain ⟨t, ht⟩ : ∃ t, t = tkV zs q3 cn := ⟨_, rfl⟩
      obtain ⟨q4, hq4⟩ : ∃ q4, q4 = tkQ zs q3 cn := ⟨_, rfl⟩
      obtain ⟨b4, hb4⟩ : ∃ b4, b4 = tkB zs q3 cn b3 := ⟨_, rfl⟩
      have htl : t < 2 ^ cn := by rw [ht]; exact tkV_lt zs q3 cn
      have ht64 : t < 18446744073709551616 := Nat.lt_of_lt_of_le htl (Nat.pow_le_pow_right (n := 2) (by omega) hcn64)
      rw [← ht]
      rw [← hq4, ← hb4] at hr5
      have HFIT : Hid (q + 13 + (numOf (win zs (q + 7) 6) + 1) ≤ 8 * zs.length → hv = numOf (win zs (q + 1) 6) ∧ cv = numOf (win zs (q + 7) 6) ∧ t = numOf (win zs (q + 13) (cv + 1)) ∧ q4 = q + (14 + cv) ∧ b4 = bad) := hidn (by
        intro hf
        have e1 := HH.out
        have e2 := HQ2.out
        have e3 := HB2.out
        unfold tkV at e1
        unfold tkQ at e2
        unfold tkB at e3
        rw [if_pos (by omega)] at e1 e2 e3
        have g1 := HCV.out
        have g2 := HQ3.out
        have g3 := HB3.out
        rw [e2] at g1 g2 g3
        unfold tkV at g1
        unfold tkQ at g2
        unfold tkB at g3
        rw [if_pos (by omega)] at g1 g2 g3
        have g1' : cv = numOf (win zs (q + 7) 6) := g1
        have g2' : q3 = q + 13 := by rw [g2]
        rw [g2', HCN.out] at ht hq4 hb4
        unfold tkV at ht
        unfold tkQ at hq4
        unfold tkB at hb4
        rw [if_pos (by rw [g1']; omega)] at ht hq4 hb4
        exact ⟨e1, g1', ht, by omega, by rw [hb4, g3, e3]⟩)
      have HNOT : Hid (¬ q + 13 + (numOf (win zs (q + 7) 6) + 1) ≤ 8 * zs.length → b4 = true) := hidn (by
        intro hf
        have e2 := HQ2.out
        have e3 := HB2.out
        have g1 := HCV.out
        have g2 := HQ3.out
        have g3 := HB3.out
        unfold tkQ at e2 g2
        unfold tkB at e3 g3 hb4
        unfold tkV at g1
        by_cases f1 : q + 1 + 6 ≤ 8 * zs.length
        · rw [if_pos f1] at e2 e3
          by_cases f2 : q2 + 6 ≤ 8 * zs.length
          · rw [if_pos f2] at g1 g2 g3
            have g1' : cv = numOf (win zs (q + 7) 6) := by rw [g1, e2]
            rw [HCN.out, g2, e2, if_neg (by rw [g1']; omega)] at hb4
            exact hb4
          · rw [if_neg f2] at g3
            rw [g3] at hb4
            rw [hb4]; split <;> rfl
        · rw [if_neg f1] at e3
          rw [e3] at g3
          have : b3 = true := by rw [g3]; split <;> rfl
          rw [this] at hb4
          rw [hb4]; split <;> rfl)
      have HMUST : Hid (∀ y, y < 18446744073709551616 → At zs (8 * zs.length) q (turned y) → q + 13 + (numOf (win zs (q + 7) 6) + 1) ≤ 8 * zs.length ∧ hv + cn ≤ 64 ∧ t / 2 ^ cv = 1 ∧ t % 2 = 1) := hidn (by
        intro y hy hat
        obtain ⟨h', c', t', e1, e2, e3, e4, e5, e6, e7, e8⟩ := tu_must HB1.out hy hat
        have hf : q + 13 + (numOf (win zs (q + 7) 6) + 1) ≤ 8 * zs.length := by rw [e2]; exact e3
        obtain ⟨k1, k2, k3, k4, k5⟩ := HFIT.out hf
        rw [e1] at k1
        rw [e2] at k2
        rw [k2, e4] at k3
        exact ⟨hf, by have := HCN.out; omega, by rw [k3, k2]; exact e6, by rw [k3]; exact e7⟩)
      have HGOOD : Hid (q + 13 + (numOf (win zs (q + 7) 6) + 1) ≤ 8 * zs.length → hv + cn ≤ 64 → t / 2 ^ cv = 1 → t % 2 = 1 → t * 2 ^ (64 - hv - cn) < 18446744073709551616 ∧ At zs (8 * zs.length) q (turned (t * 2 ^ (64 - hv - cn))) ∧ (turned (t * 2 ^ (64 - hv - cn))).length = 14 + cv) := hidn (by
        intro hf a1 a2 a3
        obtain ⟨k1, k2, k3, k4, k5⟩ := HFIT.out hf
        rw [HCN.out] at a1 ⊢
        exact tu_good HB1.out k1.symm k2.symm (by rw [k2]; exact hf) k3.symm a1 a2 a3)
      have hkr := hidn (((hk1.trans hk2).trans hk3).trans hk4)
      have hr5' := hr5
      obtain ⟨ra, rc⟩ := S
      obtain ⟨p1, p2, p3, p4, p5⟩ := hr5
      simp only at p1 p2 p5
      have HBRK := hidn (RI.break p1 p2 p3 p4 p5)
      have y3 : w4.cell? ⟨r, 3, none⟩ = some (.bool b4) := cell_of_row _ _ _ _ _ _ p1
      have z3 : w4.frozen? ⟨r, 3, none⟩ = false := unfrozen_of_block p1 _
      clear ht hq4 hb4 p1 p2 p3 p4 p5 hr4 hk1 hk2 hk3 hk4 HH HQ2 HB2 HCV HQ3 HB3
      obtain ⟨tq, htq⟩ : ∃ tq, tq = t / 2 ^ cv := ⟨_, rfl⟩
      have rtq : (t : Int) / 2 ^ cv = (tq : Int) := by rw [htq]; push_cast; rfl
      obtain ⟨to, hto⟩ : ∃ to, to = t % 2 := ⟨_, rfl⟩
      have rto : bits BinOp.and IntKind.u64 (t : Int) 1 = (to : Int) := by rw [and1_u64 t ht64, hto]
      have rcv : (cn : Int) - 1 = (cv : Int) := by omega
      have HTQ := hidn htq
      have HTO := hidn hto
      clear htq hto rcn
      by_cases hlow : hv + cn ≤ 64
      · obtain ⟨lo, hlo⟩ : ∃ lo, lo = 64 - hv - cn := ⟨_, rfl⟩
        have rlo : (64 : Int) - (hv : Int) - (cn : Int) = (lo : Int) := by omega
        have HLO := hidn hlo
        have hlo64 : lo ≤ 63 := by omega
        clear hlo
        by_cases h1 : tq = 1
        · by_cases h2 : to = 1
          · subst h1 h2
            go_wp2_with fail
            obtain ⟨x, hx, hxl⟩ : ∃ x : Nat, IntKind.u64.wrap ((t : Int) * 2 ^ lo) = (x : Int) ∧ x < 18446744073709551616 := by
              refine ⟨t * 2 ^ lo % 18446744073709551616, ?_, Nat.mod_lt _ (by omega)⟩
              have h9 : ((t * 2 ^ lo : Nat) : Int) = (t : Int) * 2 ^ lo := by push_cast; rfl
              rw [IntKind.wrap_u64, ← h9]
              omega
            refine bodyPost_ret (v := .int .u64 (IntKind.u64.wrap ((t : Int) * 2 ^ lo))) (by simp [results, Tryz.results234, go_sem]) rfl ?_
            rw [hx]
            by_cases hf : q + 13 + (numOf (win zs (q + 7) 6) + 1) ≤ 8 * zs.length
            · obtain ⟨k1, k2, k3, k4, k5⟩ := HFIT.out hf
              obtain ⟨g1, g2, g3⟩ := HGOOD.out hf hlow HTQ.out.symm HTO.out.symm
              rw [← HLO.out] at g1 g2 g3
              have hxe : x = t * 2 ^ lo := by
                have : ((t * 2 ^ lo : Nat) : Int) = (x : Int) := by
                  rw [← hx, IntKind.wrap_u64]
                  have h9 : ((t * 2 ^ lo : Nat) : Int) = (t : Int) * 2 ^ lo := by push_cast; rfl
                  rw [← h9]; omega
                omega
              rw [← hxe] at g2 g3
              refine ⟨x, q4, rfl, hxl, .inl ⟨?_, g2⟩, hkr.out⟩
              rw [g3, ← k4, ← k5]; exact hr5'
            · refine ⟨x, q4, rfl, hxl, .inr ⟨?_, fun y hy hat => hf (HMUST.out y hy hat).1⟩, hkr.out⟩
              rw [← HNOT.out hf]; exact hr5'
          · have HNO : Hid (∀ y, y < 18446744073709551616 → ¬ At zs (8 * zs.length) q (turned y)) := hidn (fun y hy hat => h2 (by rw [HTO.out]; exact (HMUST.out y hy hat).2.2.2))
            have hne : ((to : Int) != 1) = true := by rw [bne_iff_ne]; omega
            subst h1
            go_wp2_with fail
            exact bodyPost_ret (v := .int .u64 0) (by simp [results, Tryz.results234, go_sem]) rfl ⟨0, q4, rfl, by decide, .inr ⟨HBRK.out, HNO.out⟩, hkr.out.setCell 3 _⟩
        · have HNO : Hid (∀ y, y < 18446744073709551616 → ¬ At zs (8 * zs.length) q (turned y)) := hidn (fun y hy hat => h1 (by rw [HTQ.out]; exact (HMUST.out y hy hat).2.2.1))
          have hne : ((tq : Int) != 1) = true := by rw [bne_iff_ne]; omega
          go_wp2_with fail
          exact bodyPost_ret (v := .int .u64 0) (by simp [results, Tryz.results234, go_sem]) rfl ⟨0, q4, rfl, by decide, .inr ⟨HBRK.out, HNO.out⟩, hkr.out.setCell 3 _⟩
      · have HNO : Hid (∀ y, y < 18446744073709551616 → ¬ At zs (8 * zs.length) q (turned y)) := hidn (fun y hy hat => hlow (HMUST.out y hy hat).2.1)
        have hneg : (64 : Int) - (hv : Int) - (cn : Int) < 0 := by omega
        have hdn : decide ((64 : Int) - (hv : Int) - (cn : Int) < 0) = true := decide_eq_true hneg
        go_wp2_with fail
        exact bodyPost_ret (v := .int .u64 0) (by simp [results, Tryz.results234, go_sem]) rfl ⟨0, q4, rfl, by decide, .inr ⟨HBRK.out, HNO.out⟩, hkr.out.setCell 3 _⟩
  · have hv : tkV zs q 1 = 0 := by unfold tkV; rw [if_neg hq1]
    have hF : Hid (RI w1 r S zs q true ∧ (∀ y, y < 18446744073709551616 → ¬ At zs (8 * zs.length) q (turned y)) ∧ Kr r w w1) := hidn (by
      unfold tkQ tkB at hr1
      rw [if_neg hq1, if_neg hq1] at hr1
      refine ⟨hr1, fun y hy hat => hq1 ?_, hk1⟩
      have h1 := hat.1
      have h2 : 1 ≤ (turned y).length := by
        unfold turned
        split
        · rw [lowBits_length]; omega
        · rw [List.length_append, lowBits_length]; omega
      omega)
    rw [hv]
    clear hr1 hk1 hv hq1
    go_wp2_with fail
    go_ret
    exact ⟨0, q, rfl, by decide, .inr ⟨hF.out.1, hF.out.2.1⟩, hF.out.2.2⟩

end Go.Proofs.YtfgfkifdokeefaaGreatDoor.Cd
