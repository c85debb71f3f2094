/- PairNobody: the law's walk. -/
import Derived.Test.YthnnpgleljfgjaaDoorSNobodyWalk
import Derived.Test.YthnnpgleljfgjaaDoorDrawn
namespace Go.Proofs.YthnnpgleljfgjaaDoor
open Go.RowKit Go.Maps
set_option linter.unusedVariables false

theorem doCells5 : Tryd.prog.cellsOf 27 = 13 := by kernel_rfl
theorem ncall4 {o : Oper} {a : Act} {w : World} {x y z u : Nat} {vx vy vz vu : Value} (ho : o.op = Op.call { callee := Callee.value (Operand.func 8), args := #[.tmp x, .tmp y, .tmp z, .tmp u], argTypes := #[28, 9, 3, 22] }) (hx : a.eval (.tmp x) = vx) (hy : a.eval (.tmp y) = vy) (hz : a.eval (.tmp z) = vz) (hu : a.eval (.tmp u) = vu) : (execOp a.eval o).run Tryd.prog w = .ok (.enter 8 #[vx, vy, vz, vu]) w := by
  simp [go_sem, execOp, ho, resolve, invoke]
  exact ⟨by simpa [Act.eval] using hx, by simpa [Act.eval] using hy, by simpa [Act.eval] using hz, by simpa [Act.eval] using hu⟩
theorem ncall5 {o : Oper} {a : Act} {w : World} {x y z u s : Nat} {vx vy vz vu vs : Value} (ho : o.op = Op.call { callee := Callee.value (Operand.func 9), args := #[.tmp x, .tmp y, .tmp z, .tmp u, .tmp s], argTypes := #[28, 9, 3, 3, 22] }) (hx : a.eval (.tmp x) = vx) (hy : a.eval (.tmp y) = vy) (hz : a.eval (.tmp z) = vz) (hu : a.eval (.tmp u) = vu) (hs : a.eval (.tmp s) = vs) : (execOp a.eval o).run Tryd.prog w = .ok (.enter 9 #[vx, vy, vz, vu, vs]) w := by
  simp [go_sem, execOp, ho, resolve, invoke]
  exact ⟨by simpa [Act.eval] using hx, by simpa [Act.eval] using hy, by simpa [Act.eval] using hz, by simpa [Act.eval] using hu, by simpa [Act.eval] using hs⟩
theorem ncall2 {o : Oper} {a : Act} {w : World} {x y : Nat} {vx vy : Value} (ho : o.op = Op.call { callee := Callee.value (Operand.func 10), args := #[.tmp x, .tmp y], argTypes := #[28, 9] }) (hx : a.eval (.tmp x) = vx) (hy : a.eval (.tmp y) = vy) : (execOp a.eval o).run Tryd.prog w = .ok (.enter 10 #[vx, vy]) w := by
  simp [go_sem, execOp, ho, resolve, invoke]
  exact ⟨by simpa [Act.eval] using hx, by simpa [Act.eval] using hy⟩
theorem six_at {w : World} {b : Nat} {t : TypeId} (h : w.heap[b]? = some (.cells #[.int .i64 2, .int .i64 2, .int .i64 2, .int .i64 2, .int .i64 2, .int .i64 2] t (0, 0))) (k : Nat) (hk : k < 6) : w.cell? ⟨b, k, none⟩ = some (.int .i64 2) := by
  rw [cell_of_row _ _ _ _ _ _ h]
  match k, hk with
  | 0, _ => rfl
  | 1, _ => rfl
  | 2, _ => rfl
  | 3, _ => rfl
  | 4, _ => rfl
  | 5, _ => rfl
theorem Unmade.drew {w : World} {v : Value} (h : Unmade w v) : Unmade w.drew v := h

set_option maxHeartbeats 8000000 in
set_option maxRecDepth 100000 in
theorem pairNobody_walk (y0 y1 y2 y3 y4 y5 y6 y7 y8 y9 y10 y11 y12 : Value) (w : World)
    (haw : ∀ w', Below w.heap.size w w' → Calls Tryd.prog 11 #[] w' fun e w'' => e = .returned (.bool true) ∧ Below w'.heap.size w' w'') :
    Calls Tryd.prog 3 #[.agg #[y0, y1, y2, y3, y4, y5, y6, y7, y8, y9, y10, y11, y12]] w fun e w' => e = .returned (.bool true) ∧ Below w.heap.size w w' := by
  have HAW := hidz haw
  clear haw
  go_enter Tryd.func3, Tryd.ntmps3
  go_wp2
  go_loopw [18] (fun i wr => ∃ k : Nat, k ≤ 2 ∧ i = .int .i64 k ∧ Hid (NB wr w.heap.size 27 #[y0, y1, y2, y3, y4, y5, y6, y7, y8, y9, y10, y11, y12]) ∧ Below w.heap.size w wr) (fun i wr => 2 - (intOf i).toNat)
  case atStart => exact ⟨0, Nat.zero_le _, rfl, hidz (NB.new w _ _), ((((Below.refl _ w).alloc (Nat.le_refl _) _).alloc (by simp) _).alloc (by simp; omega) _)⟩
  case round =>
    obtain ⟨k, hk, rfl, hN, hbl⟩ := hrel
    by_cases hlt : k < 2
    · obtain ⟨v, hcv, hun⟩ := hN.out.disk k hlt
      have hUN := hidz hun
      clear hun
      have ca1 := hN.out.field 1 (y := y1) rfl
      have ca2 := hN.out.field 2 (y := y2) rfl
      have ca3 := hN.out.field 3 (y := y3) rfl
      have ca4 := hN.out.field 4 (y := y4) rfl
      go_wp2_with fail
      refine (pLoad_un _ v hUN.out y3 y2).mono ?_
      rintro e w1 ⟨rfl, b1⟩
      have B1 := hbl.trans (b1.mono hbl.size)
      have hN1 := hidz (hN.out.below b1)
      have hU1 := hidz (hUN.out.below b1)
      clear hcv
      clear ca1 ca2 ca3 ca4
      have cb1 := hN1.out.field 1 (y := y1) rfl
      have cb2 := hN1.out.field 2 (y := y2) rfl
      have cb3 := hN1.out.field 3 (y := y3) rfl
      have cb4 := hN1.out.field 4 (y := y4) rfl
      go_wp2_with fail
      refine (pGet_un _ v hU1.out y3 y1).mono ?_
      rintro e w2 ⟨rfl, b2⟩
      have B2 := B1.trans (b2.mono B1.size)
      have hN2 := hidz (hN1.out.below b2)
      have hU2 := hidz (hU1.out.below b2)
      clear cb1 cb2 cb3 cb4
      have cc1 := hN2.out.field 1 (y := y1) rfl
      have cc2 := hN2.out.field 2 (y := y2) rfl
      have cc3 := hN2.out.field 3 (y := y3) rfl
      have cc4 := hN2.out.field 4 (y := y4) rfl
      go_wp2_with fail
      refine (pMend_un _ v hU2.out y3 y1).mono ?_
      rintro e w3 ⟨rfl, b3⟩
      have B3 := B2.trans (b3.mono B2.size)
      have hN3 := hidz (hN2.out.below b3)
      have hU3 := hidz (hU2.out.below b3)
      clear cc1 cc2 cc3 cc4
      go_wp2
      refine wp_region_noPanic ?_
      refine wp_region_held_drew (S := (fun w' => NB w' w.heap.size 27 #[y0, y1, y2, y3, y4, y5, y6, y7, y8, y9, y10, y11, y12])) (by kernel_rfl) hN3.out (fun hHeld => ?_)
      refine drawn_take (i := 0) (v := .int .i64 2) (some 50) rfl rfl (by kernel_rfl) (by kernel_rfl) (by kernel_rfl) (fun _ _ _ h => h) (Or.inl ⟨by kernel_rfl, fun wq hw => by go_simp⟩) hHeld ?_
      simp only [Act.put, List.setIfInBounds_toArray, List.set_cons_succ, List.set_cons_zero]
      refine drawn_take (i := 1) (v := .int .i64 2) (some 51) rfl rfl (by kernel_rfl) (by kernel_rfl) (by kernel_rfl) (fun _ _ _ h => h) (Or.inl ⟨by kernel_rfl, fun wq hw => by go_simp⟩) hHeld ?_
      simp only [Act.put, List.setIfInBounds_toArray, List.set_cons_succ, List.set_cons_zero]
      refine drawn_take (i := 2) (v := .int .i64 2) (some 52) rfl rfl (by kernel_rfl) (by kernel_rfl) (by kernel_rfl) (fun _ _ _ h => h) (Or.inl ⟨by kernel_rfl, fun wq hw => by go_simp⟩) hHeld ?_
      simp only [Act.put, List.setIfInBounds_toArray, List.set_cons_succ, List.set_cons_zero]
      refine drawn_take (i := 3) (v := v) (some 53) rfl rfl (by kernel_rfl) (by kernel_rfl) (by kernel_rfl) (fun _ _ _ h => h) (Or.inl ⟨by kernel_rfl, fun wq hw => by go_simp⟩) hHeld ?_
      simp only [Act.put, List.setIfInBounds_toArray, List.set_cons_succ, List.set_cons_zero]
      refine drawn_take (i := 4) (v := .pointer (some ⟨w.heap.size, 3, none⟩)) (some 54) rfl rfl (by kernel_rfl) (by kernel_rfl) (by kernel_rfl) (fun _ _ _ h => h) (Or.inl ⟨by kernel_rfl, fun wq hw => by go_simp⟩) hHeld ?_
      simp only [Act.put, List.setIfInBounds_toArray, List.set_cons_succ, List.set_cons_zero]
      refine drawn_take (i := 5) (v := y3) (some 55) rfl rfl (by kernel_rfl) (by kernel_rfl) (by kernel_rfl) (fun _ _ _ h => h) (Or.inl ⟨by kernel_rfl, fun wq hw => by have q := hw.field 3 (y := y3) rfl; go_simp⟩) hHeld ?_
      simp only [Act.put, List.setIfInBounds_toArray, List.set_cons_succ, List.set_cons_zero]
      refine drawn_take (i := 6) (v := .pointer (some ⟨w.heap.size, 2, none⟩)) (some 56) rfl rfl (by kernel_rfl) (by kernel_rfl) (by kernel_rfl) (fun _ _ _ h => h) (Or.inl ⟨by kernel_rfl, fun wq hw => by go_simp⟩) hHeld ?_
      simp only [Act.put, List.setIfInBounds_toArray, List.set_cons_succ, List.set_cons_zero]
      refine drawn_take (i := 7) (v := y2) (some 57) rfl rfl (by kernel_rfl) (by kernel_rfl) (by kernel_rfl) (fun _ _ _ h => h) (Or.inl ⟨by kernel_rfl, fun wq hw => by have q := hw.field 2 (y := y2) rfl; go_simp⟩) hHeld ?_
      simp only [Act.put, List.setIfInBounds_toArray, List.set_cons_succ, List.set_cons_zero]
      refine drawn_take (i := 8) (v := .pointer (some ⟨w.heap.size, 4, none⟩)) (some 58) rfl rfl (by kernel_rfl) (by kernel_rfl) (by kernel_rfl) (fun _ _ _ h => h) (Or.inl ⟨by kernel_rfl, fun wq hw => by go_simp⟩) hHeld ?_
      simp only [Act.put, List.setIfInBounds_toArray, List.set_cons_succ, List.set_cons_zero]
      refine drawn_take (i := 9) (v := y4) (some 59) rfl rfl (by kernel_rfl) (by kernel_rfl) (by kernel_rfl) (fun _ _ _ h => h) (Or.inl ⟨by kernel_rfl, fun wq hw => by have q := hw.field 4 (y := y4) rfl; go_simp⟩) hHeld ?_
      simp only [Act.put, List.setIfInBounds_toArray, List.set_cons_succ, List.set_cons_zero]
      refine drawn_take (i := 11) (v := v) (some 61) rfl rfl (by kernel_rfl) (by kernel_rfl) (by kernel_rfl) (fun _ _ _ h => h) (Or.inl ⟨by kernel_rfl, fun wq hw => by go_simp⟩) hHeld ?_
      simp only [Act.put, List.setIfInBounds_toArray, List.set_cons_succ, List.set_cons_zero]
      refine drawn_take (i := 12) (v := .pointer (some ⟨w.heap.size, 3, none⟩)) (some 62) rfl rfl (by kernel_rfl) (by kernel_rfl) (by kernel_rfl) (fun _ _ _ h => h) (Or.inl ⟨by kernel_rfl, fun wq hw => by go_simp⟩) hHeld ?_
      simp only [Act.put, List.setIfInBounds_toArray, List.set_cons_succ, List.set_cons_zero]
      refine drawn_take (i := 13) (v := y3) (some 63) rfl rfl (by kernel_rfl) (by kernel_rfl) (by kernel_rfl) (fun _ _ _ h => h) (Or.inl ⟨by kernel_rfl, fun wq hw => by have q := hw.field 3 (y := y3) rfl; go_simp⟩) hHeld ?_
      simp only [Act.put, List.setIfInBounds_toArray, List.set_cons_succ, List.set_cons_zero]
      refine drawn_take (i := 14) (v := .pointer (some ⟨w.heap.size, 1, none⟩)) (some 64) rfl rfl (by kernel_rfl) (by kernel_rfl) (by kernel_rfl) (fun _ _ _ h => h) (Or.inl ⟨by kernel_rfl, fun wq hw => by go_simp⟩) hHeld ?_
      simp only [Act.put, List.setIfInBounds_toArray, List.set_cons_succ, List.set_cons_zero]
      refine drawn_take (i := 15) (v := y1) (some 65) rfl rfl (by kernel_rfl) (by kernel_rfl) (by kernel_rfl) (fun _ _ _ h => h) (Or.inl ⟨by kernel_rfl, fun wq hw => by have q := hw.field 1 (y := y1) rfl; go_simp⟩) hHeld ?_
      simp only [Act.put, List.setIfInBounds_toArray, List.set_cons_succ, List.set_cons_zero]
      refine drawn_take (i := 16) (v := .pointer (some ⟨w.heap.size, 2, none⟩)) (some 66) rfl rfl (by kernel_rfl) (by kernel_rfl) (by kernel_rfl) (fun _ _ _ h => h) (Or.inl ⟨by kernel_rfl, fun wq hw => by go_simp⟩) hHeld ?_
      simp only [Act.put, List.setIfInBounds_toArray, List.set_cons_succ, List.set_cons_zero]
      refine drawn_take (i := 17) (v := y2) (some 67) rfl rfl (by kernel_rfl) (by kernel_rfl) (by kernel_rfl) (fun _ _ _ h => h) (Or.inl ⟨by kernel_rfl, fun wq hw => by have q := hw.field 2 (y := y2) rfl; go_simp⟩) hHeld ?_
      simp only [Act.put, List.setIfInBounds_toArray, List.set_cons_succ, List.set_cons_zero]
      refine drawn_take (i := 18) (v := .pointer (some ⟨w.heap.size, 4, none⟩)) (some 68) rfl rfl (by kernel_rfl) (by kernel_rfl) (by kernel_rfl) (fun _ _ _ h => h) (Or.inl ⟨by kernel_rfl, fun wq hw => by go_simp⟩) hHeld ?_
      simp only [Act.put, List.setIfInBounds_toArray, List.set_cons_succ, List.set_cons_zero]
      refine drawn_take (i := 19) (v := y4) (some 69) rfl rfl (by kernel_rfl) (by kernel_rfl) (by kernel_rfl) (fun _ _ _ h => h) (Or.inl ⟨by kernel_rfl, fun wq hw => by have q := hw.field 4 (y := y4) rfl; go_simp⟩) hHeld ?_
      simp only [Act.put, List.setIfInBounds_toArray, List.set_cons_succ, List.set_cons_zero]
      refine drawn_take (i := 21) (v := v) (some 71) rfl rfl (by kernel_rfl) (by kernel_rfl) (by kernel_rfl) (fun _ _ _ h => h) (Or.inl ⟨by kernel_rfl, fun wq hw => by go_simp⟩) hHeld ?_
      simp only [Act.put, List.setIfInBounds_toArray, List.set_cons_succ, List.set_cons_zero]
      refine drawn_take (i := 22) (v := .pointer (some ⟨w.heap.size, 3, none⟩)) (some 72) rfl rfl (by kernel_rfl) (by kernel_rfl) (by kernel_rfl) (fun _ _ _ h => h) (Or.inl ⟨by kernel_rfl, fun wq hw => by go_simp⟩) hHeld ?_
      simp only [Act.put, List.setIfInBounds_toArray, List.set_cons_succ, List.set_cons_zero]
      refine drawn_take (i := 23) (v := y3) (some 73) rfl rfl (by kernel_rfl) (by kernel_rfl) (by kernel_rfl) (fun _ _ _ h => h) (Or.inl ⟨by kernel_rfl, fun wq hw => by have q := hw.field 3 (y := y3) rfl; go_simp⟩) hHeld ?_
      simp only [Act.put, List.setIfInBounds_toArray, List.set_cons_succ, List.set_cons_zero]
      refine drawn_take (i := 27) (v := .int .i64 0) (some 77) rfl rfl (by kernel_rfl) (by kernel_rfl) (by kernel_rfl) (fun _ _ _ h => h) (Or.inl ⟨by kernel_rfl, fun wq hw => by go_simp⟩) hHeld ?_
      simp only [Act.put, List.setIfInBounds_toArray, List.set_cons_succ, List.set_cons_zero]
      have Bd : Below w.heap.size w w3.drew := B3.drew
      refine wpAnyH_ready (rs := [10]) (by kernel_rfl) (by simp) ?_
      refine rdy_call (i := 10) rfl rfl (some 60) rfl 8 #[v, y3, y2, y4] (ncall4 (x := 53) (y := 55) (z := 57) (u := 59) (by kernel_rfl) (by kernel_rfl) (by kernel_rfl) (by kernel_rfl) (by kernel_rfl)) (fun r w' => r = .int .i64 2 ∧ Below (w3.drew).heap.size (w3.drew) w') ((pStore_un w3.drew v hU3.out.drew y3 y2 y4).mono fun e w' h => ⟨_, h.1, rfl, h.2⟩) (fun r w4 hR => ?_) rdy_nil
      obtain ⟨rfl, b4⟩ := hR
      have B4 := Bd.trans (b4.mono Bd.size)
      have hU4 := hidz (hU3.out.drew.below b4)
      refine ⟨hHeld.below b4, fun hHeld => ?_⟩
      simp only [Act.put, List.setIfInBounds_toArray, List.set_cons_succ, List.set_cons_zero]
      refine wpAnyH_ready (rs := [20]) (by kernel_rfl) (by simp) ?_
      refine rdy_call (i := 20) rfl rfl (some 70) rfl 9 #[v, y3, y1, y2, y4] (ncall5 (x := 61) (y := 63) (z := 65) (u := 67) (s := 69) (by kernel_rfl) (by kernel_rfl) (by kernel_rfl) (by kernel_rfl) (by kernel_rfl) (by kernel_rfl)) (fun r w' => r = .int .i64 2 ∧ Below (w4).heap.size (w4) w') ((pPut_un w4 v hU4.out y3 y1 y2 y4).mono fun e w' h => ⟨_, h.1, rfl, h.2⟩) (fun r w5 hR => ?_) rdy_nil
      obtain ⟨rfl, b5⟩ := hR
      have B5 := B4.trans (b5.mono B4.size)
      have hU5 := hidz (hU4.out.below b5)
      refine ⟨hHeld.below b5, fun hHeld => ?_⟩
      simp only [Act.put, List.setIfInBounds_toArray, List.set_cons_succ, List.set_cons_zero]
      refine wpAnyH_ready (rs := [24]) (by kernel_rfl) (by simp) ?_
      refine rdy_call (i := 24) rfl rfl (some 74) rfl 10 #[v, y3] (ncall2 (x := 71) (y := 73) (by kernel_rfl) (by kernel_rfl) (by kernel_rfl)) (fun r w' => r = .int .i64 2 ∧ Below (w5).heap.size (w5) w') ((pDrop_un w5 v hU5.out y3).mono fun e w' h => ⟨_, h.1, rfl, h.2⟩) (fun r w6 hR => ?_) rdy_nil
      obtain ⟨rfl, b6⟩ := hR
      have B6 := B5.trans (b6.mono B5.size)
      have hU6 := hidz (hU5.out.below b6)
      refine ⟨hHeld.below b6, fun hHeld => ?_⟩
      simp only [Act.put, List.setIfInBounds_toArray, List.set_cons_succ, List.set_cons_zero]
      refine wpAnyH_ready (rs := [25]) (by kernel_rfl) (by simp) ?_
      refine rdy_val (i := 25) rfl rfl (some 75) rfl (.slice (some ⟨w6.heap.size, 0, none⟩) 6 6) (w6.alloc (.cells #[.int .i64 2, .int .i64 2, .int .i64 2, .int .i64 2, .int .i64 2, .int .i64 2] 33)) (by go_simp) (hHeld.below ((Below.refl _ _).alloc (Nat.le_refl _) _)) (fun hHeld => ?_) rdy_nil
      simp only [Act.put, List.setIfInBounds_toArray, List.set_cons_succ, List.set_cons_zero]
      refine wpAnyH_ready (rs := [26]) (by kernel_rfl) (by simp) ?_
      refine rdy_val (i := 26) rfl rfl (some 76) rfl (.int .i64 6) (w6.alloc (.cells #[.int .i64 2, .int .i64 2, .int .i64 2, .int .i64 2, .int .i64 2, .int .i64 2] 33)) (by go_simp) hHeld (fun hHeld => ?_) rdy_nil
      simp only [Act.put, List.setIfInBounds_toArray, List.set_cons_succ, List.set_cons_zero]
      refine wpAnyH_done (by kernel_rfl) ?_ _
      refine NoPanic.normal ?_
      have hsix : (w6.alloc (.cells #[.int .i64 2, .int .i64 2, .int .i64 2, .int .i64 2, .int .i64 2, .int .i64 2] 33)).heap[w6.heap.size]? = some (.cells #[.int .i64 2, .int .i64 2, .int .i64 2, .int .i64 2, .int .i64 2, .int .i64 2] 33 (0, 0)) := heap_alloc_new _ _
      have B7 : Below w.heap.size w (w6.alloc (.cells #[.int .i64 2, .int .i64 2, .int .i64 2, .int .i64 2, .int .i64 2, .int .i64 2] 33)) := B6.alloc B6.size _
      have HN7 := hidz hHeld
      clear hHeld
      generalize w6.alloc (.cells #[.int .i64 2, .int .i64 2, .int .i64 2, .int .i64 2, .int .i64 2, .int .i64 2] 33) = w7 at *
      have HSX := hidz hsix
      clear hsix
      generalize w6.heap.size = bs at *
      go_wp2
      go_loopw [77] (fun i wq => ∃ j : Nat, j ≤ 6 ∧ i = .int .i64 j ∧ wq = w7) (fun i wq => 6 - (intOf i).toNat)
      case atStart => exact ⟨0, Nat.zero_le _, rfl, rfl⟩
      case round =>
        obtain ⟨j, hj, rfl, rfl⟩ := hrel
        by_cases hj6 : j < 6
        · have cj := six_at HSX.out j hj6
          go_wp2
          exact ⟨⟨j + 1, by omega, by go_num, by first | rfl | trivial⟩, by simp [intOf]; omega⟩
        · have hnj : ¬ (j : Int) < 6 := by omega
          go_wp2
          exact ⟨⟨k + 1, by omega, by go_num, HN7, B7⟩, by simp [intOf]; omega⟩
    · have hnl : ¬ (k : Int) < 2 := by omega
      go_wp2_with fail
      refine (HAW.out _ hbl).mono ?_
      rintro e w1 ⟨rfl, b1⟩
      go_wp2
      go_ret
      exact ⟨rfl, hbl.trans (b1.mono hbl.size)⟩
end Go.Proofs.YthnnpgleljfgjaaDoor
