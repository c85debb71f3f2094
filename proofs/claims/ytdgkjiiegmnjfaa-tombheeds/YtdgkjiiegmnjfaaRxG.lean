/- group. -/
import Derived.Test.YtdgkjiiegmnjfaaRxF
namespace Go.Proofs.Ytdgkjiiegmnjfaa
open Go.RowKit Go.Joins
set_option linter.unusedVariables false

/-- The contract of pattern, at a depth below which brackets may stand in one another k times. -/
def PatC (k d : Nat) : Prop := ∀ (r : Nat) (ρ : Nat → Nat) (R : Rd) (w : World), RDx w r ρ R → siz R.2 + 8 * R.1.length + 9 ≤ 100000 →
  Calls Try.prog 41 #[.pointer (some ⟨r, 0, none⟩), .int .i64 (d : Int)] w fun e w' => ∃ (x y : Nat) (ok : Bool) (ρ' : Nat → Nat), e = .returned (.tuple #[.agg #[.int .i64 (x : Int), .int .i64 (y : Int)], .bool ok]) ∧ Gw ρ ρ' w w' ∧ PartPost (patN k R) r ρ' w' x y ok
theorem call2c_run {o : Oper} {a : Act} {w : World} {f : FuncId} {x : Nat} {vx vy : Value} {ts : Array TypeId} (ho : o.op = Op.call { callee := Callee.value (Operand.func f), args := #[.tmp x, .const vy], argTypes := ts }) (hen : ∀ args w, (callFunc f args).run Try.prog w = .ok (.enter f args) w) (hx : a.eval (.tmp x) = vx) : (execOp a.eval o).run Try.prog w = .ok (.enter f #[vx, vy]) w := by
  simp [go_sem, execOp, ho, resolve, invoke, hen]
  simpa [Act.eval] using hx
theorem asc41 : AscS ⟨#[41]⟩ := by unfold AscS; decide

set_option maxHeartbeats 4000000 in
set_option maxRecDepth 100000 in
theorem group_any (k d : Nat) (hkd : d + k = 10) (HP : ∀ k', k = k' + 1 → PatC k' (d + 1)) (r : Nat) (ρ : Nat → Nat) (R : Rd) (w : World) (h : RDx w r ρ R) (hb : siz R.2 + 8 * R.1.length + 9 ≤ 100000) :
    Calls Try.prog 56 #[.pointer (some ⟨r, 0, none⟩), .int .i64 (d : Int)] w fun e w' => ∃ (x y : Nat) (ok : Bool) (ρ' : Nat → Nat), e = .returned (.tuple #[.agg #[.int .i64 (x : Int), .int .i64 (y : Int)], .bool ok]) ∧ Gw ρ ρ' w w' ∧ PartPost (groupR (grpN k) R) r ρ' w' x y ok := by
  have EN : ∀ args w, (callFunc 47 args).run Try.prog w = .ok (.enter 47 args) w := enters_of Try.func47 (by kernel_rfl) rfl
  obtain ⟨wA, hwA⟩ : ∃ wA, wA = w.alloc (.cells #[.int .i64 0, .int .i64 0] 73) := ⟨_, rfl⟩
  have bA : Below w.heap.size w wA := by rw [hwA]; exact (Below.refl _ w).alloc (Nat.le_refl _) _
  have qA : wA.heap[w.heap.size]? = some (.cells #[.int .i64 0, .int .i64 0] 73 (0, 0)) := by rw [hwA]; exact heap_alloc_new w _
  have hA := h.below bA
  have zA : ρ w.heap.size = 0 := h.fr _ (Nat.le_refl _)
  obtain ⟨A, hAe⟩ : ∃ A, A = w.heap.size := ⟨_, rfl⟩
  have hAw : w.heap.size ≤ A := by omega
  have HAA := hidn hAe
  have HWA := hidn hwA
  have G0 : Gw ρ ρ w wA := Gw.of (Kp.of_below bA)
  rw [← hAe] at qA zA
  cases k with
  | zero =>
    have hd : ((d : Int) == 10) = true := by simp; omega
    obtain ⟨r0, r1, fr0, fr1, t0, t1, _, hG⟩ := fin2 qA (.int .i64 0) (.int .i64 0)
    have HG := hidn (hG _ _ _ G0 hAw)
    rw [hwA, hAe] at r0 r1 fr0 fr1
    rw [hwA, hAe] at t0 t1
    have HG' : Hid (Gw ρ ρ w (((w.alloc (.cells #[.int .i64 0, .int .i64 0] 73)).setCell ⟨w.heap.size, 0, none⟩ (.int .i64 0)).setCell ⟨w.heap.size, 1, none⟩ (.int .i64 0))) := hidn (by rw [← hwA, ← hAe]; exact HG.out)
    clear hG hwA hAe hkd
    go_enter Try.func56, Try.ntmps56
    go_wp2
    exact bodyPost_ret (v := .tuple #[.agg #[.int .i64 0, .int .i64 0], .bool false]) (by simp [results, Try.results56, go_sem]) rfl ⟨0, 0, false, ρ, rfl, Gw.of ((Kp.refl _ w).alloc _), rfl⟩
  | succ k =>
    have hd : ((d : Int) == 10) = false := by simp; omega
    obtain ⟨dd, hdd⟩ : ∃ dd, dd = d + 1 := ⟨_, rfl⟩
    have hd1 : (d : Int) + 1 = (dd : Int) := by omega
    have hd2 : d ≤ 10 := by omega
    have hpc : PatC k dd := by rw [hdd]; exact HP k rfl
    have HDD := hidn hdd
    clear hwA hAe hkd HP hdd
    go_enter Try.func56, Try.ntmps56
    go_wp2_with fail
    rw [← HWA.out, ← HAA.out]
    refine (hpc r ρ R wA hA hb).mono ?_
    rintro e w1 ⟨x, y, ok, ρ1, rfl, G1, hpp⟩
    obtain ⟨q1, z1⟩ := G1.blk qA zA
    have G1' := G0.trans G1
    obtain ⟨bi, hbi⟩ : ∃ bi, bi = w1.heap.size := ⟨_, rfl⟩
    obtain ⟨w2, hw2⟩ : ∃ w2, w2 = w1.alloc (.cells #[.int .i64 (x : Int), .int .i64 (y : Int)] 73) := ⟨_, rfl⟩
    have b2 : Below w1.heap.size w1 w2 := by rw [hw2]; exact (Below.refl _ w1).alloc (Nat.le_refl _) _
    have qi2 : w2.heap[bi]? = some (.cells #[.int .i64 (x : Int), .int .i64 (y : Int)] 73 (0, 0)) := by rw [hw2, hbi]; exact heap_alloc_new w1 _
    have q2 := (b2.block _ (Array.getElem?_eq_some_iff.1 q1).1).trans q1
    obtain ⟨wd, hwd⟩ : ∃ wd, w2.drew = wd := ⟨_, rfl⟩
    have bd : Below w2.heap.size w2 wd := by rw [← hwd]; exact (Below.refl _ _).drew
    have qid := (bd.block _ (Array.getElem?_eq_some_iff.1 qi2).1).trans qi2
    have qd := (bd.block _ (Array.getElem?_eq_some_iff.1 q2).1).trans q2
    have b1d : Below w1.heap.size w1 wd := b2.trans (bd.mono b2.size)
    have Gd : Gw ρ ρ1 w wd := G1'.trans (Gw.of (Kp.of_below b1d))
    have hbi1 : A ≠ bi := by
      have := (Array.getElem?_eq_some_iff.1 q1).1
      omega
    have hbi2 : w.heap.size ≤ bi := by rw [hbi]; exact G1'.1.size
    have ci0 : wd.cell? ⟨bi, 0, none⟩ = some (.int .i64 (x : Int)) := cell_of_row _ _ _ _ _ _ qid
    have ci1 : wd.cell? ⟨bi, 1, none⟩ = some (.int .i64 (y : Int)) := cell_of_row _ _ _ _ _ _ qid
    have HBI := hidn hbi
    have HW2 := hidn hw2
    have HB1 := hidn b1d
    clear hbi hw2 qi2 q2 b2 bd b1d
    cases hres : patN k R with
    | none =>
      rw [hres] at hpp
      have : ok = false := hpp
      subst this
      go_wp2_with fail
      rw [← HW2.out, ← HBI.out]
      refine wp_region_noPanic ?_
      refine wp_region_held_drew (S := fun w' => w'.cell? ⟨bi, 0, none⟩ = some (.int .i64 (x : Int)) ∧ w'.cell? ⟨bi, 1, none⟩ = some (.int .i64 (y : Int))) (by kernel_rfl) (by rw [hwd]; exact ⟨ci0, ci1⟩) (fun hHeld => ?_)
      rw [hwd] at hHeld ⊢
      refine drawn_take (i := 0) (v := .agg #[.int .i64 (x : Int), .int .i64 (y : Int)]) (some 18) rfl rfl (by kernel_rfl) (by kernel_rfl) (by kernel_rfl) (fun _ _ _ h => h) (Or.inl ⟨by kernel_rfl, fun wq hw => by obtain ⟨h1, h2⟩ := hw; go_simp⟩) hHeld ?_
      simp only [Act.put, List.setIfInBounds_toArray, List.set_cons_succ, List.set_cons_zero]
      refine drawn_take (i := 1) (v := .bool false) (some 19) rfl rfl (by kernel_rfl) (by kernel_rfl) (by kernel_rfl) (fun _ _ _ h => h) (Or.inl ⟨by kernel_rfl, fun wq hw => by go_simp⟩) hHeld ?_
      simp only [Act.put, List.setIfInBounds_toArray, List.set_cons_succ, List.set_cons_zero]
      refine drawn_take (i := 2) (v := .bool false) (some 20) rfl rfl (by kernel_rfl) (by kernel_rfl) (by kernel_rfl) (fun _ _ _ h => h) (Or.inl ⟨by kernel_rfl, fun wq hw => by go_simp⟩) hHeld ?_
      simp only [Act.put, List.setIfInBounds_toArray, List.set_cons_succ, List.set_cons_zero]
      refine drawn_take (i := 3) (v := undef) (some 21) rfl rfl (by kernel_rfl) (by kernel_rfl) (by kernel_rfl) (fun _ _ _ h => h) (Or.inr ⟨by kernel_rfl, rfl⟩) hHeld ?_
      simp only [Act.put, List.setIfInBounds_toArray, List.set_cons_succ, List.set_cons_zero]
      refine drawn_take (i := 4) (v := undef) (some 22) rfl rfl (by kernel_rfl) (by kernel_rfl) (by kernel_rfl) (fun _ _ _ h => h) (Or.inr ⟨by kernel_rfl, rfl⟩) hHeld ?_
      simp only [Act.put, List.setIfInBounds_toArray, List.set_cons_succ, List.set_cons_zero]
      refine drawn_take (i := 5) (v := .bool false) (some 23) rfl rfl (by kernel_rfl) (by kernel_rfl) (by kernel_rfl) (fun _ _ _ h => h) (Or.inl ⟨by kernel_rfl, fun wq hw => by go_simp⟩) hHeld ?_
      simp only [Act.put, List.setIfInBounds_toArray, List.set_cons_succ, List.set_cons_zero]
      obtain ⟨r0, r1, fr0, fr1, t0, t1, hR, hG⟩ := fin2 qd (.int .i64 (x : Int)) (.int .i64 (y : Int))
      have s0 : ((wd.setCell ⟨A, 0, none⟩ (.int .i64 (x : Int))).setCell ⟨A, 1, none⟩ (.int .i64 (y : Int))).cell? ⟨bi, 0, none⟩ = some (.int .i64 (x : Int)) := (World.cell?_of_block ((Below.heap_setCell _ _ _ _ (fun e => hbi1 e.symm)).trans (Below.heap_setCell _ _ _ _ (fun e => hbi1 e.symm)))).trans hHeld.1
      have s1 : ((wd.setCell ⟨A, 0, none⟩ (.int .i64 (x : Int))).setCell ⟨A, 1, none⟩ (.int .i64 (y : Int))).cell? ⟨bi, 1, none⟩ = some (.int .i64 (y : Int)) := (World.cell?_of_block ((Below.heap_setCell _ _ _ _ (fun e => hbi1 e.symm)).trans (Below.heap_setCell _ _ _ _ (fun e => hbi1 e.symm)))).trans hHeld.2
      refine wpAnyH_ready (rs := [6]) (by kernel_rfl) (by simp) ?_
      refine rx_rdy_unit (i := 6) rfl rfl none rfl ((wd.setCell ⟨A, 0, none⟩ (.int .i64 (x : Int))).setCell ⟨A, 1, none⟩ (.int .i64 (y : Int))) (by go_simp) ⟨s0, s1⟩ (fun hHeld => ?_) rdy_nil
      refine drawn_take (i := 7) (v := .bool false) (some 5) rfl rfl (by kernel_rfl) (by kernel_rfl) (by kernel_rfl) (fun _ _ _ h => h) (Or.inl ⟨by kernel_rfl, fun wq hw => by go_simp⟩) hHeld ?_
      simp only [Act.put, List.setIfInBounds_toArray, List.set_cons_succ, List.set_cons_zero]
      refine wpAnyH_done (by kernel_rfl) ?_ _
      refine NoPanic.normal ?_
      clear hHeld
      have HG9 := hidn (hG _ _ _ Gd hAw)
      have HPP : Hid (PartPost (groupR (grpN (k + 1)) R) r ρ1 ((wd.setCell ⟨A, 0, none⟩ (.int .i64 (x : Int))).setCell ⟨A, 1, none⟩ (.int .i64 (y : Int))) x y false) := hidn (by
        have e : groupR (grpN (k + 1)) R = none := by
          show groupR (some (patN k)) R = none
          simp only [groupR, hres]
        rw [e]
        rfl)
      clear hR hG
      go_wp2_with fail
      exact bodyPost_ret (v := .tuple #[.agg #[.int .i64 (x : Int), .int .i64 (y : Int)], .bool false]) (by simp [results, Try.results56, go_sem, t0, t1]) rfl ⟨x, y, false, ρ1, rfl, HG9.out, HPP.out⟩
    | some res =>
      obtain ⟨f, t, R'⟩ := res
      rw [hres] at hpp
      obtain ⟨rfl, rfl, rfl, h1⟩ := hpp
      have hd1' := h1.below HB1.out
      obtain ⟨bb, hbb⟩ : ∃ bb, bb = atR [41] R'.1 := ⟨_, rfl⟩
      go_wp2_with fail
      rw [← HW2.out, ← HBI.out]
      refine wp_region_noPanic ?_
      refine wp_region_held_drew (S := fun w' => w'.cell? ⟨bi, 0, none⟩ = some (.int .i64 (x : Int)) ∧ w'.cell? ⟨bi, 1, none⟩ = some (.int .i64 (y : Int))) (by kernel_rfl) (by rw [hwd]; exact ⟨ci0, ci1⟩) (fun hHeld => ?_)
      rw [hwd] at hHeld ⊢
      refine drawn_take (i := 0) (v := .agg #[.int .i64 (x : Int), .int .i64 (y : Int)]) (some 18) rfl rfl (by kernel_rfl) (by kernel_rfl) (by kernel_rfl) (fun _ _ _ h => h) (Or.inl ⟨by kernel_rfl, fun wq hw => by obtain ⟨h1, h2⟩ := hw; go_simp⟩) hHeld ?_
      simp only [Act.put, List.setIfInBounds_toArray, List.set_cons_succ, List.set_cons_zero]
      refine drawn_take (i := 1) (v := .bool true) (some 19) rfl rfl (by kernel_rfl) (by kernel_rfl) (by kernel_rfl) (fun _ _ _ h => h) (Or.inl ⟨by kernel_rfl, fun wq hw => by go_simp⟩) hHeld ?_
      simp only [Act.put, List.setIfInBounds_toArray, List.set_cons_succ, List.set_cons_zero]
      refine drawn_take (i := 2) (v := .bool true) (some 20) rfl rfl (by kernel_rfl) (by kernel_rfl) (by kernel_rfl) (fun _ _ _ h => h) (Or.inl ⟨by kernel_rfl, fun wq hw => by go_simp⟩) hHeld ?_
      simp only [Act.put, List.setIfInBounds_toArray, List.set_cons_succ, List.set_cons_zero]
      refine drawn_take (i := 3) (v := .pointer (some ⟨r, 0, none⟩)) (some 21) rfl rfl (by kernel_rfl) (by kernel_rfl) (by kernel_rfl) (fun _ _ _ h => h) (Or.inl ⟨by kernel_rfl, fun wq hw => by go_simp⟩) hHeld ?_
      simp only [Act.put, List.setIfInBounds_toArray, List.set_cons_succ, List.set_cons_zero]
      refine wpAnyH_ready (rs := [4]) (by kernel_rfl) (by simp) ?_
      refine rdy_callw (i := 4) rfl (by kernel_rfl) (some 22) rfl 47 #[.pointer (some ⟨r, 0, none⟩), .string ⟨#[41]⟩] (call2c_run (x := 21) (ts := #[91, 9]) (by kernel_rfl) EN (by kernel_rfl)) (fun v w' => v = .bool bb ∧ RDx w' r ρ1 (tailIf bb R'.1, R'.2) ∧ Gw ρ1 ρ1 wd w') ((take_any r ρ1 R' ⟨#[41]⟩ wd (by decide) asc41 hd1').mono fun e w' h => ⟨_, h.1, by rw [hbb]; exact ⟨rfl, h.2⟩⟩) (fun v w4 hR => ?_) rdy_nil
      obtain ⟨rfl, h4, G4⟩ := hR
      obtain ⟨qi4, _⟩ := G4.blk qid (by rw [HBI.out]; exact h1.fr _ (Nat.le_refl _))
      obtain ⟨q4, z4⟩ := G4.blk qd z1
      refine ⟨⟨cell_of_row _ _ _ _ _ _ qi4, cell_of_row _ _ _ _ _ _ qi4⟩, fun hHeld => ?_⟩
      simp only [Act.put, List.setIfInBounds_toArray, List.set_cons_succ, List.set_cons_zero]
      refine drawn_take (i := 5) (v := .bool bb) (some 23) rfl rfl (by kernel_rfl) (by kernel_rfl) (by kernel_rfl) (fun _ _ _ h => h) (Or.inl ⟨by kernel_rfl, fun wq hw => by go_simp⟩) hHeld ?_
      simp only [Act.put, List.setIfInBounds_toArray, List.set_cons_succ, List.set_cons_zero]
      obtain ⟨r0, r1, fr0, fr1, t0, t1, hR, hG⟩ := fin2 q4 (.int .i64 (x : Int)) (.int .i64 (y : Int))
      have s0 : ((w4.setCell ⟨A, 0, none⟩ (.int .i64 (x : Int))).setCell ⟨A, 1, none⟩ (.int .i64 (y : Int))).cell? ⟨bi, 0, none⟩ = some (.int .i64 (x : Int)) := (World.cell?_of_block ((Below.heap_setCell _ _ _ _ (fun e => hbi1 e.symm)).trans (Below.heap_setCell _ _ _ _ (fun e => hbi1 e.symm)))).trans hHeld.1
      have s1 : ((w4.setCell ⟨A, 0, none⟩ (.int .i64 (x : Int))).setCell ⟨A, 1, none⟩ (.int .i64 (y : Int))).cell? ⟨bi, 1, none⟩ = some (.int .i64 (y : Int)) := (World.cell?_of_block ((Below.heap_setCell _ _ _ _ (fun e => hbi1 e.symm)).trans (Below.heap_setCell _ _ _ _ (fun e => hbi1 e.symm)))).trans hHeld.2
      refine wpAnyH_ready (rs := [6]) (by kernel_rfl) (by simp) ?_
      refine rx_rdy_unit (i := 6) rfl rfl none rfl ((w4.setCell ⟨A, 0, none⟩ (.int .i64 (x : Int))).setCell ⟨A, 1, none⟩ (.int .i64 (y : Int))) (by go_simp) ⟨s0, s1⟩ (fun hHeld => ?_) rdy_nil
      refine drawn_take (i := 7) (v := .bool bb) (some 5) rfl rfl (by kernel_rfl) (by kernel_rfl) (by kernel_rfl) (fun _ _ _ h => h) (Or.inl ⟨by kernel_rfl, fun wq hw => by go_simp⟩) hHeld ?_
      simp only [Act.put, List.setIfInBounds_toArray, List.set_cons_succ, List.set_cons_zero]
      refine wpAnyH_done (by kernel_rfl) ?_ _
      refine NoPanic.normal ?_
      clear hHeld
      have HG9 := hidn (hG _ _ _ (Gd.trans G4) hAw)
      have HPP : Hid (PartPost (groupR (grpN (k + 1)) R) r ρ1 ((w4.setCell ⟨A, 0, none⟩ (.int .i64 (x : Int))).setCell ⟨A, 1, none⟩ (.int .i64 (y : Int))) x y bb) := hidn (by
        have e : groupR (grpN (k + 1)) R = if bb = true then some (x, y, R'.1.tail, R'.2) else none := by
          show groupR (some (patN k)) R = _
          simp only [groupR, hres, takeR, ← hbb]
          cases bb <;> rfl
        rw [e]
        cases bb with
        | false => rfl
        | true => exact ⟨rfl, rfl, rfl, hR _ _ _ h4 (by decide) z4⟩)
      clear hR hG
      go_wp2_with fail
      exact bodyPost_ret (v := .tuple #[.agg #[.int .i64 (x : Int), .int .i64 (y : Int)], .bool bb]) (by simp [results, Try.results56, go_sem, t0, t1]) rfl ⟨x, y, bb, ρ1, rfl, HG9.out, HPP.out⟩
end Go.Proofs.Ytdgkjiiegmnjfaa
