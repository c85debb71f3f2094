/- dryrotref07.Name: contract at every text. -/
import Derived.Test.YtcjhkpcnhnnjbaaDoorChecked
import Derived.WalkKit
import Derived.WalkLawsBesides
import Derived.KernelRfl
import Derived.BigCall
import Derived.Lib.OthersKept
import Derived.Test.YtcjhkpcnhnnjbaaDoorMc
import Derived.Test.YtcjhkpcnhnnjbaaDoorLabDrawn
import Derived.Shelf.Abstract
import Derived.Test.YtcjhkpcnhnnjbaaDoorMe
namespace Go.Proofs.YtcjhkpcnhnnjbaaDoor
open Go.RowKit
set_option linter.unusedVariables false

set_option maxHeartbeats 4000000 in
set_option maxRecDepth 100000 in
theorem refName_any (s : ByteArray) (w : World) (hs : s.size ≤ maxLen) :
    Calls Tryd.prog 52 #[.string s] w fun e w' => e = .returned (.bool (nameOK s)) ∧ w' = w := by
  unfold maxLen at hs
  have e : ∀ b, nameOK s = b → (Ending.returned (.bool b) = Ending.returned (.bool (nameOK s))) := fun b h => by rw [h]
  go_enter Tryd.func52, Tryd.ntmps52
  go_wp2
  go_loop [3] (fun i => ∃ k : Nat, k ≤ s.size ∧ i = .int .i64 k ∧ Hid (nameTo s k = true)) (fun i => s.size - (intOf i).toNat)
  case atStart => exact ⟨0, Nat.zero_le _, rfl, rfl⟩
  case round =>
    obtain ⟨k, hk, rfl, hn⟩ := hrel
    by_cases hlt : k < s.size
    · have hb := byteAt_get s k hlt
      have hgo : nameAt k (byteAt s k) = true → nameTo s (k + 1) = true := fun h => by rw [nameTo_succ, hn, h]; rfl
      have hstop : nameAt k (byteAt s k) = false → nameOK s = false := nameOK_false s k hlt
      rw [hb] at hgo hstop
      have HB : Hid (_ = _) := hb
      clear hb hn
      unfold nameAt letZ digZ at hgo hstop
      simp only [Bool.or_eq_true, Bool.and_eq_true, decide_eq_true_eq, Bool.or_eq_false_iff, Bool.and_eq_false_iff, decide_eq_false_iff_not, ne_eq, Decidable.not_not] at hgo hstop
      clear HB
      have hr : (((s[k]'hlt).toNat : Int) < 48) ∨ (48 ≤ ((s[k]'hlt).toNat : Int) ∧ ((s[k]'hlt).toNat : Int) ≤ 57) ∨ (58 ≤ ((s[k]'hlt).toNat : Int) ∧ ((s[k]'hlt).toNat : Int) ≤ 64) ∨ (65 ≤ ((s[k]'hlt).toNat : Int) ∧ ((s[k]'hlt).toNat : Int) ≤ 90) ∨ (91 ≤ ((s[k]'hlt).toNat : Int) ∧ ((s[k]'hlt).toNat : Int) ≤ 94) ∨ (95 ≤ ((s[k]'hlt).toNat : Int) ∧ ((s[k]'hlt).toNat : Int) ≤ 95) ∨ (96 ≤ ((s[k]'hlt).toNat : Int) ∧ ((s[k]'hlt).toNat : Int) ≤ 96) ∨ (97 ≤ ((s[k]'hlt).toNat : Int) ∧ ((s[k]'hlt).toNat : Int) ≤ 122) ∨ (123 ≤ ((s[k]'hlt).toNat : Int)) := by omega
      have hend : nameTo s (k + 1) = true → (∃ j : Nat, j ≤ s.size ∧ Value.int IntKind.i64 ((k : Int) + 1) = Value.int IntKind.i64 (j : Int) ∧ Hid (nameTo s j = true)) ∧ s.size - (intOf (Value.int IntKind.i64 ((k : Int) + 1))).toNat < s.size - (intOf (Value.int IntKind.i64 (k : Int))).toNat := by
        intro h
        exact ⟨⟨k + 1, by omega, by go_num, h⟩, by simp [intOf]; omega⟩
      have HE := hidn hend
      have HG := hidn hgo
      have HS := hidn hstop
      clear hend hgo hstop
      by_cases hz : k = 0
      all_goals rcases hr with h1 | ⟨h1, h2⟩ | ⟨h1, h2⟩ | ⟨h1, h2⟩ | ⟨h1, h2⟩ | ⟨h1, h2⟩ | ⟨h1, h2⟩ | ⟨h1, h2⟩ | h1
      all_goals
        have d1 : (((s[k]'hlt).toNat : Int) == 95) = decide (((s[k]'hlt).toNat : Int) = 95) := rfl
        first
          | (have d2 : (((s[k]'hlt).toNat : Int) == 95) = false := beq_eq_false_iff_ne.2 (by omega))
          | (have d2 : (((s[k]'hlt).toNat : Int) == 95) = true := beq_iff_eq.2 (by omega))
        clear d1
        first
          | (have d3 : ((k : Int) == 0) = false := beq_eq_false_iff_ne.2 (by omega))
          | (have d3 : ((k : Int) == 0) = true := beq_iff_eq.2 (by omega))
        have hz' : Hid (k = 0 ∨ ¬ k = 0) := Decidable.em _
        first
          | (have hz2 : Hid (k = 0) := by assumption
             clear hz)
          | (have hz2 : Hid (¬ k = 0) := by assumption
             clear hz)
        go_wp2
        all_goals first
          | exact HE (HG (by unfold Hid at hz2; omega))
          | (go_ret; exact ⟨e _ (HS (by unfold Hid at hz2; omega)), rfl⟩)
          | (exfalso; unfold Hid at *; simp_all; done)
          | (exfalso; unfold Hid at *; simp_all; omega)
    · have h3 : ¬ ((k : Int) < (s.size : Int)) := by omega
      obtain rfl : k = s.size := by omega
      by_cases h0 : s.size = 0
      · have g0 : decide (1 ≤ (s.size : Int)) = false := by simp; omega
        go_wp2
        go_ret
        exact ⟨e _ (nameOK_size s (.inl h0)), rfl⟩
      have g0 : decide (1 ≤ (s.size : Int)) = true := by simp; omega
      by_cases h24 : 24 < s.size
      · have g1 : decide ((s.size : Int) ≤ 24) = false := by simp; omega
        go_wp2
        go_ret
        exact ⟨e _ (nameOK_size s (.inr h24)), rfl⟩
      have g1 : decide ((s.size : Int) ≤ 24) = true := by simp; omega
      go_wp2
      go_ret
      exact ⟨e _ (nameOK_true s (by omega) (by omega) hn), rfl⟩
end Go.Proofs.YtcjhkpcnhnnjbaaDoor

namespace Go.Proofs.YtcjhkpcnhnnjbaaDoor
open Go.RowKit
set_option linter.unusedVariables false

theorem lidx_run {o : Oper} {a : Act} {w : World} {t : TypeId} {x y : Operand} {vx vy v : Value} (ho : o.op = Op.indexAddr t x y) (hx : a.eval x = vx) (hy : a.eval y = vy) (hr : (Instr.indexAt t vx vy).run Tryd.prog w = .ok v w) : (execOp a.eval o).run Tryd.prog w = .ok (.value v) w := by
  simp [execOp, ho, hx, hy, hr, Result.andThen]
theorem lab_index (b off len cap m : Nat) (h : m < len) (wx : World) : (Instr.indexAt 39 (.slice (some ⟨b, off, none⟩) len cap) (.int .i64 (m : Int))).run Tryd.prog wx = .ok (.pointer (some ⟨b, off + m * 2, none⟩)) wx := by
  have h1 : (m : Int) < (len : Int) := by omega
  go_simp

set_option maxHeartbeats 8000000 in
set_option maxRecDepth 100000 in
theorem refCan_any (a : Option Addr) (len cap : Nat) (ls : List Lab) (w : World) (h : Ls w a len ls) (hr : len ≤ 140737488355328) :
    Calls Tryd.prog 27 #[.slice a len cap] w fun e w' => e = .returned (.bool (canOK ls)) ∧ Below w.heap.size w w' := by
  have e : ∀ b, canOK ls = b → (Ending.returned (.bool b) = Ending.returned (.bool (canOK ls))) := fun b h => by rw [h]
  have hl := h.1
  by_cases h0 : len = 0
  · subst h0
    go_enter Tryd.func27, Tryd.ntmps27
    go_wp2
    go_ret
    exact ⟨e _ (canOK_size ls (.inl hl)), Below.refl _ _⟩
  have g0 : decide ((len : Int) < 1) = false := by simp; omega
  by_cases h8 : 8 < len
  · have g8 : decide (8 < (len : Int)) = true := by simp; omega
    have hlH := hidn hl
    clear hl
    go_enter Tryd.func27, Tryd.ntmps27
    go_wp2
    go_ret
    exact ⟨e _ (canOK_size ls (.inr (by rw [hlH]; exact h8))), Below.refl _ _⟩
  have g8 : decide (8 < (len : Int)) = false := by simp; omega
  obtain ⟨b, off, rfl, hbw, hc⟩ := h.pos (by omega)
  have hsz := h.2.2.1
  have hH := hidn h
  have hlH := hidn hl
  have en : ∀ args w, (callFunc 52 args).run Tryd.prog w = .ok (.enter 52 args) w := enters_of Tryd.func52 (by kernel_rfl) rfl
  have en2 : ∀ args w, (callFunc 53 args).run Tryd.prog w = .ok (.enter 53 args) w := enters_of Tryd.func53 (by kernel_rfl) rfl
  have EN := hidn en
  have EN2 := hidn en2
  clear hl h en en2
  go_enter Tryd.func27, Tryd.ntmps27
  go_wp2
  go_loopw [15] (fun i wr => ∃ k : Nat, k ≤ len ∧ i = .int .i64 k ∧ Below w.heap.size w wr ∧ Hid (canTo ls k = true)) (fun i wr => len - (intOf i).toNat)
  case atStart => exact ⟨0, Nat.zero_le _, rfl, Below.refl _ _, rfl⟩
  case round =>
    obtain ⟨k, hk, rfl, hbl, hn⟩ := hrel
    by_cases hlt : k < len
    · obtain ⟨c0, c1⟩ := hc k hlt
      have c0' : wr.cell? ⟨b, off + k * 2, none⟩ = some (.string (labD ls k).1) := (hbl.cell (p := ⟨b, off + k * 2, none⟩) hbw).trans c0
      have c1' : wr.cell? ⟨b, off + k * 2 + 1, none⟩ = some (.string (labD ls k).2) := (hbl.cell (p := ⟨b, off + k * 2 + 1, none⟩) hbw).trans c1
      obtain ⟨m, hm⟩ : ∃ m, m = k - 1 := ⟨_, rfl⟩
      obtain ⟨p0, _⟩ := hc m (by omega)
      have p0' : wr.cell? ⟨b, off + m * 2, none⟩ = some (.string (labD ls m).1) := (hbl.cell (p := ⟨b, off + m * 2, none⟩) hbw).trans p0
      have p0d : (wr.alloc (.cells #[.string (labD ls k).1, .string (labD ls k).2] 72)).drew.cell? ⟨b, off + m * 2, none⟩ = some (.string (labD ls m).1) := Lib.cell?_alloc_some _ p0'
      have HL : Hid ((labD ls (k - 1)).1 = (labD ls m).1) := hidn (by rw [hm])
      have HIX := hidn (fun wx => lab_index b off len cap m (by omega) wx)
      have HM := hidn hm
      clear c0 c1 p0 hm
      generalize hn0 : (labD ls k).1 = n0 at *
      generalize hv0 : (labD ls k).2 = v0 at *
      generalize hpn : (labD ls m).1 = pn at *
      have hn0H := hidn hn0
      have hv0H := hidn hv0
      have hszn : n0.size ≤ maxLen := by rw [← hn0]; exact (hsz k).1
      have hszv : v0.size ≤ maxLen := by rw [← hv0]; exact (hsz k).2
      clear hn0 hv0 hpn
      have hstop : canAt ls k = false → canOK ls = false := canOK_false ls k (by rw [hlH]; exact hlt)
      have hgo : canAt ls k = true → canTo ls (k + 1) = true := fun h => by rw [canTo_succ, hn, h]; rfl
      have hat : canAt ls k = (nameOK n0 && valueOK v0 && (decide (k = 0) || lessS pn n0)) := by unfold canAt; rw [hn0H, hv0H, HL.out]
      have HS := hidn hstop
      have HG := hidn hgo
      have HA := hidn hat
      clear hstop hgo hat hn
      have hblA : Below w.heap.size w (wr.alloc (.cells #[.string n0, .string v0] 72)).drew := (hbl.alloc hbl.size _).drew
      have hszA : wr.heap.size < (wr.alloc (.cells #[.string n0, .string v0] 72)).drew.heap.size := by show _ < (wr.alloc _).heap.size; simp
      have hbA : b < (wr.alloc (.cells #[.string n0, .string v0] 72)).drew.heap.size := block_lt_of_cell p0d
      have q0 : (wr.alloc (.cells #[.string n0, .string v0] 72)).drew.cell? ⟨wr.heap.size, 0, none⟩ = some (.string n0) := by show (wr.alloc _).cell? _ = _; simp
      have q1 : (wr.alloc (.cells #[.string n0, .string v0] 72)).drew.cell? ⟨wr.heap.size, 1, none⟩ = some (.string v0) := by show (wr.alloc _).cell? _ = _; simp
      go_wp2
      generalize hwd : (wr.alloc (.cells #[.string n0, .string v0] 72)).drew = wd at *
      refine wp_region_noPanic ?_
      refine wp_region_held_drew (S := fun w' => w'.cell? ⟨wr.heap.size, 0, none⟩ = some (.string n0) ∧ w'.cell? ⟨wr.heap.size, 1, none⟩ = some (.string v0) ∧ w'.cell? ⟨b, off + m * 2, none⟩ = some (.string pn)) (by kernel_rfl) (by rw [hwd]; exact ⟨q0, q1, p0d⟩) (fun hHeld => ?_)
      rw [hwd] at hHeld ⊢
      refine drawn_take (i := 0) (v := .pointer (some ⟨wr.heap.size, 0, none⟩)) (some 20) rfl rfl (by kernel_rfl) (by kernel_rfl) (by kernel_rfl) (fun _ _ _ h => h) (Or.inl ⟨by kernel_rfl, fun wq hw => by go_simp⟩) hHeld ?_
      simp only [Act.put, List.setIfInBounds_toArray, List.set_cons_succ, List.set_cons_zero]
      refine drawn_take (i := 1) (v := .string n0) (some 21) rfl rfl (by kernel_rfl) (by kernel_rfl) (by kernel_rfl) (fun _ _ _ h => h) (Or.inl ⟨by kernel_rfl, fun wq hw => by (obtain ⟨g1, g2, g3⟩ := hw; go_simp)⟩) hHeld ?_
      simp only [Act.put, List.setIfInBounds_toArray, List.set_cons_succ, List.set_cons_zero]
      refine wpAnyH_ready (rs := [2]) (by kernel_rfl) (by simp) ?_
      refine rdy_call (i := 2) rfl rfl (some 22) rfl 52 #[.string n0] (call1_run (x := 21) (ts := #[9]) (by kernel_rfl) EN (by kernel_rfl)) (fun v w' => v = .bool (nameOK n0) ∧ w' = _) ((refName_any n0 _ hszn).mono fun e w' h => ⟨_, h.1, rfl, h.2⟩) (fun v w5 hR => ?_) rdy_nil
      obtain ⟨rfl, rfl⟩ := hR
      refine ⟨hHeld, fun hHeld => ?_⟩
      by_cases hnok : nameOK n0 = true
      · rw [hnok]
        simp only [Act.put, List.setIfInBounds_toArray, List.set_cons_succ, List.set_cons_zero]
        refine drawn_take (i := 3) (v := .bool false) (some 23) rfl rfl (by kernel_rfl) (by kernel_rfl) (by kernel_rfl) (fun _ _ _ h => h) (Or.inl ⟨by kernel_rfl, fun wq hw => by go_simp⟩) hHeld ?_
        simp only [Act.put, List.setIfInBounds_toArray, List.set_cons_succ, List.set_cons_zero]
        refine drawn_take (i := 4) (v := .bool false) (some 24) rfl rfl (by kernel_rfl) (by kernel_rfl) (by kernel_rfl) (fun _ _ _ h => h) (Or.inl ⟨by kernel_rfl, fun wq hw => by go_simp⟩) hHeld ?_
        simp only [Act.put, List.setIfInBounds_toArray, List.set_cons_succ, List.set_cons_zero]
        refine drawn_take (i := 5) (v := .pointer (some ⟨wr.heap.size, 1, none⟩)) (some 25) rfl rfl (by kernel_rfl) (by kernel_rfl) (by kernel_rfl) (fun _ _ _ h => h) (Or.inl ⟨by kernel_rfl, fun wq hw => by go_simp⟩) hHeld ?_
        simp only [Act.put, List.setIfInBounds_toArray, List.set_cons_succ, List.set_cons_zero]
        refine drawn_take (i := 6) (v := .string v0) (some 26) rfl rfl (by kernel_rfl) (by kernel_rfl) (by kernel_rfl) (fun _ _ _ h => h) (Or.inl ⟨by kernel_rfl, fun wq hw => by (obtain ⟨g1, g2, g3⟩ := hw; go_simp)⟩) hHeld ?_
        simp only [Act.put, List.setIfInBounds_toArray, List.set_cons_succ, List.set_cons_zero]
        refine wpAnyH_ready (rs := [7]) (by kernel_rfl) (by simp) ?_
        refine rdy_callw (i := 7) rfl (by kernel_rfl) (some 27) rfl 53 #[.string v0] (call1_run (x := 26) (ts := #[9]) (by kernel_rfl) EN2 (by kernel_rfl)) (fun v w' => v = .bool (valueOK v0) ∧ Below w5.heap.size w5 w') ((refValue_any v0 _ hszv).mono fun e w' h => ⟨_, h.1, rfl, h.2⟩) (fun v w6 hR => ?_) rdy_nil
        obtain ⟨rfl, hb6⟩ := hR
        have r0 := (hb6.cell (p := ⟨wr.heap.size, 0, none⟩) hszA).trans q0
        have r1 := (hb6.cell (p := ⟨wr.heap.size, 1, none⟩) hszA).trans q1
        have r2 := (hb6.cell (p := ⟨b, off + m * 2, none⟩) hbA).trans p0d
        have hbl6 : Below w.heap.size w w6 := hblA.trans (hb6.mono hblA.size)
        refine ⟨⟨r0, r1, r2⟩, fun hHeld => ?_⟩
        by_cases hvok : valueOK v0 = true
        · rw [hvok]
          simp only [Act.put, List.setIfInBounds_toArray, List.set_cons_succ, List.set_cons_zero]
          refine drawn_take (i := 8) (v := .bool false) (some 28) rfl rfl (by kernel_rfl) (by kernel_rfl) (by kernel_rfl) (fun _ _ _ h => h) (Or.inl ⟨by kernel_rfl, fun wq hw => by go_simp⟩) hHeld ?_
          simp only [Act.put, List.setIfInBounds_toArray, List.set_cons_succ, List.set_cons_zero]
          refine drawn_take (i := 9) (v := .bool false) (some 29) rfl rfl (by kernel_rfl) (by kernel_rfl) (by kernel_rfl) (fun _ _ _ h => h) (Or.inl ⟨by kernel_rfl, fun wq hw => by go_simp⟩) hHeld ?_
          simp only [Act.put, List.setIfInBounds_toArray, List.set_cons_succ, List.set_cons_zero]
          refine drawn_take (i := 10) (v := .bool false) (some 30) rfl rfl (by kernel_rfl) (by kernel_rfl) (by kernel_rfl) (fun _ _ _ h => h) (Or.inl ⟨by kernel_rfl, fun wq hw => by go_simp⟩) hHeld ?_
          simp only [Act.put, List.setIfInBounds_toArray, List.set_cons_succ, List.set_cons_zero]
          refine drawn_take (i := 11) (v := .int .i64 (k : Int)) (some 31) rfl rfl (by kernel_rfl) (by kernel_rfl) (by kernel_rfl) (fun _ _ _ h => h) (Or.inl ⟨by kernel_rfl, fun wq hw => by go_simp⟩) hHeld ?_
          simp only [Act.put, List.setIfInBounds_toArray, List.set_cons_succ, List.set_cons_zero]
          by_cases hk0 : k = 0
          · have d0 : decide (0 < (k : Int)) = false := by simp; omega
            have d1 : decide (0 < k) = false := by simp; omega
            have d2 : ¬ 0 < k := by omega
            have HK0 := hidn hk0
            clear hk0
            refine drawn_take (i := 12) (v := .bool false) (some 32) rfl rfl (by kernel_rfl) (by kernel_rfl) (by kernel_rfl) (fun _ _ _ h => h) (Or.inl ⟨by kernel_rfl, fun wq hw => by go_simp⟩) hHeld ?_
            simp only [Act.put, List.setIfInBounds_toArray, List.set_cons_succ, List.set_cons_zero]
            refine drawn_take (i := 13) (v := .bool false) (some 33) rfl rfl (by kernel_rfl) (by kernel_rfl) (by kernel_rfl) (fun _ _ _ h => h) (Or.inl ⟨by kernel_rfl, fun wq hw => by go_simp⟩) hHeld ?_
            simp only [Act.put, List.setIfInBounds_toArray, List.set_cons_succ, List.set_cons_zero]
            refine drawn_take (i := 14) (v := undef) (some 34) rfl rfl (by kernel_rfl) (by kernel_rfl) (by kernel_rfl) (fun _ _ _ h => h) (Or.inr ⟨by kernel_rfl, rfl⟩) hHeld ?_
            simp only [Act.put, List.setIfInBounds_toArray, List.set_cons_succ, List.set_cons_zero]
            refine drawn_take (i := 15) (v := undef) (some 35) rfl rfl (by kernel_rfl) (by kernel_rfl) (by kernel_rfl) (fun _ _ _ h => h) (Or.inr ⟨by kernel_rfl, rfl⟩) hHeld ?_
            simp only [Act.put, List.setIfInBounds_toArray, List.set_cons_succ, List.set_cons_zero]
            refine drawn_take (i := 16) (v := undef) (some 36) rfl rfl (by kernel_rfl) (by kernel_rfl) (by kernel_rfl) (fun _ _ _ h => h) (Or.inr ⟨by kernel_rfl, rfl⟩) hHeld ?_
            simp only [Act.put, List.setIfInBounds_toArray, List.set_cons_succ, List.set_cons_zero]
            refine drawn_take (i := 17) (v := undef) (some 37) rfl rfl (by kernel_rfl) (by kernel_rfl) (by kernel_rfl) (fun _ _ _ h => h) (Or.inr ⟨by kernel_rfl, rfl⟩) hHeld ?_
            simp only [Act.put, List.setIfInBounds_toArray, List.set_cons_succ, List.set_cons_zero]
            refine drawn_take (i := 18) (v := undef) (some 38) rfl rfl (by kernel_rfl) (by kernel_rfl) (by kernel_rfl) (fun _ _ _ h => h) (Or.inr ⟨by kernel_rfl, rfl⟩) hHeld ?_
            simp only [Act.put, List.setIfInBounds_toArray, List.set_cons_succ, List.set_cons_zero]
            refine drawn_take (i := 19) (v := undef) (some 39) rfl rfl (by kernel_rfl) (by kernel_rfl) (by kernel_rfl) (fun _ _ _ h => h) (Or.inr ⟨by kernel_rfl, rfl⟩) hHeld ?_
            simp only [Act.put, List.setIfInBounds_toArray, List.set_cons_succ, List.set_cons_zero]
            refine drawn_take (i := 20) (v := undef) (some 40) rfl rfl (by kernel_rfl) (by kernel_rfl) (by kernel_rfl) (fun _ _ _ h => h) (Or.inr ⟨by kernel_rfl, rfl⟩) hHeld ?_
            simp only [Act.put, List.setIfInBounds_toArray, List.set_cons_succ, List.set_cons_zero]
            refine drawn_take (i := 21) (v := undef) (some 41) rfl rfl (by kernel_rfl) (by kernel_rfl) (by kernel_rfl) (fun _ _ _ h => h) (Or.inr ⟨by kernel_rfl, rfl⟩) hHeld ?_
            simp only [Act.put, List.setIfInBounds_toArray, List.set_cons_succ, List.set_cons_zero]
            refine drawn_take (i := 22) (v := undef) (some 42) rfl rfl (by kernel_rfl) (by kernel_rfl) (by kernel_rfl) (fun _ _ _ h => h) (Or.inr ⟨by kernel_rfl, rfl⟩) hHeld ?_
            simp only [Act.put, List.setIfInBounds_toArray, List.set_cons_succ, List.set_cons_zero]
            refine drawn_take (i := 23) (v := .bool false) (some 43) rfl rfl (by kernel_rfl) (by kernel_rfl) (by kernel_rfl) (fun _ _ _ h => h) (Or.inl ⟨by kernel_rfl, fun wq hw => by go_simp⟩) hHeld ?_
            simp only [Act.put, List.setIfInBounds_toArray, List.set_cons_succ, List.set_cons_zero]
            refine drawn_take (i := 24) (v := .bool false) (some 44) rfl rfl (by kernel_rfl) (by kernel_rfl) (by kernel_rfl) (fun _ _ _ h => h) (Or.inl ⟨by kernel_rfl, fun wq hw => by go_simp⟩) hHeld ?_
            simp only [Act.put, List.setIfInBounds_toArray, List.set_cons_succ, List.set_cons_zero]
            refine wpAnyH_done (by kernel_rfl) ?_ _
            refine NoPanic.normal ?_
            clear hHeld
            go_wp2
            exact ⟨⟨k + 1, by omega, by go_num, hbl6, HG.out (by rw [HA.out, hnok, hvok]; simp [HK0.out])⟩, by simp [intOf]; omega⟩
          · have d0 : decide (0 < (k : Int)) = true := by simp; omega
            have d1 : 0 < k := by omega
            have hkm : (k : Int) - 1 = (m : Int) := by rw [HM.out]; omega
            have hwm : IntKind.i64.wrap (m : Int) = (m : Int) := by rw [IntKind.wrap_i64]; have := HM.out; omega
            have HK0 := hidn hk0
            clear hk0
            refine drawn_take (i := 12) (v := .bool true) (some 32) rfl rfl (by kernel_rfl) (by kernel_rfl) (by kernel_rfl) (fun _ _ _ h => h) (Or.inl ⟨by kernel_rfl, fun wq hw => by go_simp⟩) hHeld ?_
            simp only [Act.put, List.setIfInBounds_toArray, List.set_cons_succ, List.set_cons_zero]
            refine drawn_take (i := 13) (v := .bool true) (some 33) rfl rfl (by kernel_rfl) (by kernel_rfl) (by kernel_rfl) (fun _ _ _ h => h) (Or.inl ⟨by kernel_rfl, fun wq hw => by go_simp⟩) hHeld ?_
            simp only [Act.put, List.setIfInBounds_toArray, List.set_cons_succ, List.set_cons_zero]
            refine drawn_take (i := 14) (v := .slice (some ⟨b, off, none⟩) len cap) (some 34) rfl rfl (by kernel_rfl) (by kernel_rfl) (by kernel_rfl) (fun _ _ _ h => h) (Or.inl ⟨by kernel_rfl, fun wq hw => by go_simp⟩) hHeld ?_
            simp only [Act.put, List.setIfInBounds_toArray, List.set_cons_succ, List.set_cons_zero]
            refine drawn_take (i := 15) (v := .int .i64 (k : Int)) (some 35) rfl rfl (by kernel_rfl) (by kernel_rfl) (by kernel_rfl) (fun _ _ _ h => h) (Or.inl ⟨by kernel_rfl, fun wq hw => by go_simp⟩) hHeld ?_
            simp only [Act.put, List.setIfInBounds_toArray, List.set_cons_succ, List.set_cons_zero]
            refine drawn_take (i := 16) (v := .int .i64 (m : Int)) (some 36) rfl rfl (by kernel_rfl) (by kernel_rfl) (by kernel_rfl) (fun _ _ _ h => h) (Or.inl ⟨by kernel_rfl, fun wq hw => by go_simp⟩) hHeld ?_
            simp only [Act.put, List.setIfInBounds_toArray, List.set_cons_succ, List.set_cons_zero]
            refine drawn_take (i := 17) (v := .pointer (some ⟨b, off + m * 2, none⟩)) (some 37) rfl rfl (by kernel_rfl) (by kernel_rfl) (by kernel_rfl) (fun _ _ _ h => h) (Or.inl ⟨by kernel_rfl, fun wq hw => lidx_run (x := .tmp 34) (y := .tmp 36) (by kernel_rfl) (by kernel_rfl) (by kernel_rfl) (HIX.out wq)⟩) hHeld ?_
            simp only [Act.put, List.setIfInBounds_toArray, List.set_cons_succ, List.set_cons_zero]
            refine drawn_take (i := 18) (v := .pointer (some ⟨b, off + m * 2, none⟩)) (some 38) rfl rfl (by kernel_rfl) (by kernel_rfl) (by kernel_rfl) (fun _ _ _ h => h) (Or.inl ⟨by kernel_rfl, fun wq hw => by go_simp⟩) hHeld ?_
            simp only [Act.put, List.setIfInBounds_toArray, List.set_cons_succ, List.set_cons_zero]
            refine drawn_take (i := 19) (v := .string pn) (some 39) rfl rfl (by kernel_rfl) (by kernel_rfl) (by kernel_rfl) (fun _ _ _ h => h) (Or.inl ⟨by kernel_rfl, fun wq hw => by (obtain ⟨g1, g2, g3⟩ := hw; go_simp)⟩) hHeld ?_
            simp only [Act.put, List.setIfInBounds_toArray, List.set_cons_succ, List.set_cons_zero]
            refine drawn_take (i := 20) (v := .pointer (some ⟨wr.heap.size, 0, none⟩)) (some 40) rfl rfl (by kernel_rfl) (by kernel_rfl) (by kernel_rfl) (fun _ _ _ h => h) (Or.inl ⟨by kernel_rfl, fun wq hw => by go_simp⟩) hHeld ?_
            simp only [Act.put, List.setIfInBounds_toArray, List.set_cons_succ, List.set_cons_zero]
            refine drawn_take (i := 21) (v := .string n0) (some 41) rfl rfl (by kernel_rfl) (by kernel_rfl) (by kernel_rfl) (fun _ _ _ h => h) (Or.inl ⟨by kernel_rfl, fun wq hw => by (obtain ⟨g1, g2, g3⟩ := hw; go_simp)⟩) hHeld ?_
            simp only [Act.put, List.setIfInBounds_toArray, List.set_cons_succ, List.set_cons_zero]
            by_cases hle : Op.bytesLess pn.toList n0.toList = true
            · have HLE := hidn hle
              refine drawn_take (i := 22) (v := .bool false) (some 42) rfl rfl (by kernel_rfl) (by kernel_rfl) (by kernel_rfl) (fun _ _ _ h => h) (Or.inl ⟨by kernel_rfl, fun wq hw => by go_simp⟩) hHeld ?_
              simp only [Act.put, List.setIfInBounds_toArray, List.set_cons_succ, List.set_cons_zero]
              refine drawn_take (i := 23) (v := .bool false) (some 43) rfl rfl (by kernel_rfl) (by kernel_rfl) (by kernel_rfl) (fun _ _ _ h => h) (Or.inl ⟨by kernel_rfl, fun wq hw => by go_simp⟩) hHeld ?_
              simp only [Act.put, List.setIfInBounds_toArray, List.set_cons_succ, List.set_cons_zero]
              refine drawn_take (i := 24) (v := .bool false) (some 44) rfl rfl (by kernel_rfl) (by kernel_rfl) (by kernel_rfl) (fun _ _ _ h => h) (Or.inl ⟨by kernel_rfl, fun wq hw => by go_simp⟩) hHeld ?_
              simp only [Act.put, List.setIfInBounds_toArray, List.set_cons_succ, List.set_cons_zero]
              refine wpAnyH_done (by kernel_rfl) ?_ _
              refine NoPanic.normal ?_
              clear hHeld
              go_wp2
              exact ⟨⟨k + 1, by omega, by go_num, hbl6, HG.out (by rw [HA.out, hnok, hvok]; simp [lessS, HLE.out])⟩, by simp [intOf]; omega⟩
            · have hle' : Op.bytesLess pn.toList n0.toList = false := by simpa using hle
              have HLE := hidn hle'
              clear hle
              refine drawn_take (i := 22) (v := .bool true) (some 42) rfl rfl (by kernel_rfl) (by kernel_rfl) (by kernel_rfl) (fun _ _ _ h => h) (Or.inl ⟨by kernel_rfl, fun wq hw => by go_simp⟩) hHeld ?_
              simp only [Act.put, List.setIfInBounds_toArray, List.set_cons_succ, List.set_cons_zero]
              refine drawn_take (i := 23) (v := .bool true) (some 43) rfl rfl (by kernel_rfl) (by kernel_rfl) (by kernel_rfl) (fun _ _ _ h => h) (Or.inl ⟨by kernel_rfl, fun wq hw => by go_simp⟩) hHeld ?_
              simp only [Act.put, List.setIfInBounds_toArray, List.set_cons_succ, List.set_cons_zero]
              refine drawn_take (i := 24) (v := .bool true) (some 44) rfl rfl (by kernel_rfl) (by kernel_rfl) (by kernel_rfl) (fun _ _ _ h => h) (Or.inl ⟨by kernel_rfl, fun wq hw => by go_simp⟩) hHeld ?_
              simp only [Act.put, List.setIfInBounds_toArray, List.set_cons_succ, List.set_cons_zero]
              refine wpAnyH_done (by kernel_rfl) ?_ _
              refine NoPanic.normal ?_
              clear hHeld
              go_wp2
              go_ret
              exact ⟨e _ (HS.out (by rw [HA.out]; simp [lessS, HLE.out]; intro _ _; exact HK0.out)), hbl6⟩
        · have hv' : valueOK v0 = false := by simpa using hvok
          rw [hv']
          simp only [Act.put, List.setIfInBounds_toArray, List.set_cons_succ, List.set_cons_zero]
          refine drawn_take (i := 8) (v := .bool true) (some 28) rfl rfl (by kernel_rfl) (by kernel_rfl) (by kernel_rfl) (fun _ _ _ h => h) (Or.inl ⟨by kernel_rfl, fun wq hw => by go_simp⟩) hHeld ?_
          simp only [Act.put, List.setIfInBounds_toArray, List.set_cons_succ, List.set_cons_zero]
          refine drawn_take (i := 9) (v := .bool true) (some 29) rfl rfl (by kernel_rfl) (by kernel_rfl) (by kernel_rfl) (fun _ _ _ h => h) (Or.inl ⟨by kernel_rfl, fun wq hw => by go_simp⟩) hHeld ?_
          simp only [Act.put, List.setIfInBounds_toArray, List.set_cons_succ, List.set_cons_zero]
          refine drawn_take (i := 10) (v := .bool true) (some 30) rfl rfl (by kernel_rfl) (by kernel_rfl) (by kernel_rfl) (fun _ _ _ h => h) (Or.inl ⟨by kernel_rfl, fun wq hw => by go_simp⟩) hHeld ?_
          simp only [Act.put, List.setIfInBounds_toArray, List.set_cons_succ, List.set_cons_zero]
          refine drawn_take (i := 11) (v := undef) (some 31) rfl rfl (by kernel_rfl) (by kernel_rfl) (by kernel_rfl) (fun _ _ _ h => h) (Or.inr ⟨by kernel_rfl, rfl⟩) hHeld ?_
          simp only [Act.put, List.setIfInBounds_toArray, List.set_cons_succ, List.set_cons_zero]
          refine drawn_take (i := 12) (v := undef) (some 32) rfl rfl (by kernel_rfl) (by kernel_rfl) (by kernel_rfl) (fun _ _ _ h => h) (Or.inr ⟨by kernel_rfl, rfl⟩) hHeld ?_
          simp only [Act.put, List.setIfInBounds_toArray, List.set_cons_succ, List.set_cons_zero]
          refine drawn_take (i := 13) (v := undef) (some 33) rfl rfl (by kernel_rfl) (by kernel_rfl) (by kernel_rfl) (fun _ _ _ h => h) (Or.inr ⟨by kernel_rfl, rfl⟩) hHeld ?_
          simp only [Act.put, List.setIfInBounds_toArray, List.set_cons_succ, List.set_cons_zero]
          refine drawn_take (i := 14) (v := undef) (some 34) rfl rfl (by kernel_rfl) (by kernel_rfl) (by kernel_rfl) (fun _ _ _ h => h) (Or.inr ⟨by kernel_rfl, rfl⟩) hHeld ?_
          simp only [Act.put, List.setIfInBounds_toArray, List.set_cons_succ, List.set_cons_zero]
          refine drawn_take (i := 15) (v := undef) (some 35) rfl rfl (by kernel_rfl) (by kernel_rfl) (by kernel_rfl) (fun _ _ _ h => h) (Or.inr ⟨by kernel_rfl, rfl⟩) hHeld ?_
          simp only [Act.put, List.setIfInBounds_toArray, List.set_cons_succ, List.set_cons_zero]
          refine drawn_take (i := 16) (v := undef) (some 36) rfl rfl (by kernel_rfl) (by kernel_rfl) (by kernel_rfl) (fun _ _ _ h => h) (Or.inr ⟨by kernel_rfl, rfl⟩) hHeld ?_
          simp only [Act.put, List.setIfInBounds_toArray, List.set_cons_succ, List.set_cons_zero]
          refine drawn_take (i := 17) (v := undef) (some 37) rfl rfl (by kernel_rfl) (by kernel_rfl) (by kernel_rfl) (fun _ _ _ h => h) (Or.inr ⟨by kernel_rfl, rfl⟩) hHeld ?_
          simp only [Act.put, List.setIfInBounds_toArray, List.set_cons_succ, List.set_cons_zero]
          refine drawn_take (i := 18) (v := undef) (some 38) rfl rfl (by kernel_rfl) (by kernel_rfl) (by kernel_rfl) (fun _ _ _ h => h) (Or.inr ⟨by kernel_rfl, rfl⟩) hHeld ?_
          simp only [Act.put, List.setIfInBounds_toArray, List.set_cons_succ, List.set_cons_zero]
          refine drawn_take (i := 19) (v := undef) (some 39) rfl rfl (by kernel_rfl) (by kernel_rfl) (by kernel_rfl) (fun _ _ _ h => h) (Or.inr ⟨by kernel_rfl, rfl⟩) hHeld ?_
          simp only [Act.put, List.setIfInBounds_toArray, List.set_cons_succ, List.set_cons_zero]
          refine drawn_take (i := 20) (v := undef) (some 40) rfl rfl (by kernel_rfl) (by kernel_rfl) (by kernel_rfl) (fun _ _ _ h => h) (Or.inr ⟨by kernel_rfl, rfl⟩) hHeld ?_
          simp only [Act.put, List.setIfInBounds_toArray, List.set_cons_succ, List.set_cons_zero]
          refine drawn_take (i := 21) (v := undef) (some 41) rfl rfl (by kernel_rfl) (by kernel_rfl) (by kernel_rfl) (fun _ _ _ h => h) (Or.inr ⟨by kernel_rfl, rfl⟩) hHeld ?_
          simp only [Act.put, List.setIfInBounds_toArray, List.set_cons_succ, List.set_cons_zero]
          refine drawn_take (i := 22) (v := undef) (some 42) rfl rfl (by kernel_rfl) (by kernel_rfl) (by kernel_rfl) (fun _ _ _ h => h) (Or.inr ⟨by kernel_rfl, rfl⟩) hHeld ?_
          simp only [Act.put, List.setIfInBounds_toArray, List.set_cons_succ, List.set_cons_zero]
          refine drawn_take (i := 23) (v := undef) (some 43) rfl rfl (by kernel_rfl) (by kernel_rfl) (by kernel_rfl) (fun _ _ _ h => h) (Or.inr ⟨by kernel_rfl, rfl⟩) hHeld ?_
          simp only [Act.put, List.setIfInBounds_toArray, List.set_cons_succ, List.set_cons_zero]
          refine drawn_take (i := 24) (v := .bool true) (some 44) rfl rfl (by kernel_rfl) (by kernel_rfl) (by kernel_rfl) (fun _ _ _ h => h) (Or.inl ⟨by kernel_rfl, fun wq hw => by go_simp⟩) hHeld ?_
          simp only [Act.put, List.setIfInBounds_toArray, List.set_cons_succ, List.set_cons_zero]
          refine wpAnyH_done (by kernel_rfl) ?_ _
          refine NoPanic.normal ?_
          clear hHeld
          go_wp2
          go_ret
          exact ⟨e _ (HS.out (by rw [HA.out, hv']; simp)), hbl6⟩
      · have hn' : nameOK n0 = false := by simpa using hnok
        rw [hn']
        simp only [Act.put, List.setIfInBounds_toArray, List.set_cons_succ, List.set_cons_zero]
        refine drawn_take (i := 3) (v := .bool true) (some 23) rfl rfl (by kernel_rfl) (by kernel_rfl) (by kernel_rfl) (fun _ _ _ h => h) (Or.inl ⟨by kernel_rfl, fun wq hw => by go_simp⟩) hHeld ?_
        simp only [Act.put, List.setIfInBounds_toArray, List.set_cons_succ, List.set_cons_zero]
        refine drawn_take (i := 4) (v := .bool true) (some 24) rfl rfl (by kernel_rfl) (by kernel_rfl) (by kernel_rfl) (fun _ _ _ h => h) (Or.inl ⟨by kernel_rfl, fun wq hw => by go_simp⟩) hHeld ?_
        simp only [Act.put, List.setIfInBounds_toArray, List.set_cons_succ, List.set_cons_zero]
        refine drawn_take (i := 5) (v := undef) (some 25) rfl rfl (by kernel_rfl) (by kernel_rfl) (by kernel_rfl) (fun _ _ _ h => h) (Or.inr ⟨by kernel_rfl, rfl⟩) hHeld ?_
        simp only [Act.put, List.setIfInBounds_toArray, List.set_cons_succ, List.set_cons_zero]
        refine drawn_take (i := 6) (v := undef) (some 26) rfl rfl (by kernel_rfl) (by kernel_rfl) (by kernel_rfl) (fun _ _ _ h => h) (Or.inr ⟨by kernel_rfl, rfl⟩) hHeld ?_
        simp only [Act.put, List.setIfInBounds_toArray, List.set_cons_succ, List.set_cons_zero]
        refine drawn_take (i := 7) (v := undef) (some 27) rfl rfl (by kernel_rfl) (by kernel_rfl) (by kernel_rfl) (fun _ _ _ h => h) (Or.inr ⟨by kernel_rfl, rfl⟩) hHeld ?_
        simp only [Act.put, List.setIfInBounds_toArray, List.set_cons_succ, List.set_cons_zero]
        refine drawn_take (i := 8) (v := undef) (some 28) rfl rfl (by kernel_rfl) (by kernel_rfl) (by kernel_rfl) (fun _ _ _ h => h) (Or.inr ⟨by kernel_rfl, rfl⟩) hHeld ?_
        simp only [Act.put, List.setIfInBounds_toArray, List.set_cons_succ, List.set_cons_zero]
        refine drawn_take (i := 9) (v := .bool true) (some 29) rfl rfl (by kernel_rfl) (by kernel_rfl) (by kernel_rfl) (fun _ _ _ h => h) (Or.inl ⟨by kernel_rfl, fun wq hw => by go_simp⟩) hHeld ?_
        simp only [Act.put, List.setIfInBounds_toArray, List.set_cons_succ, List.set_cons_zero]
        refine drawn_take (i := 10) (v := .bool true) (some 30) rfl rfl (by kernel_rfl) (by kernel_rfl) (by kernel_rfl) (fun _ _ _ h => h) (Or.inl ⟨by kernel_rfl, fun wq hw => by go_simp⟩) hHeld ?_
        simp only [Act.put, List.setIfInBounds_toArray, List.set_cons_succ, List.set_cons_zero]
        refine drawn_take (i := 11) (v := undef) (some 31) rfl rfl (by kernel_rfl) (by kernel_rfl) (by kernel_rfl) (fun _ _ _ h => h) (Or.inr ⟨by kernel_rfl, rfl⟩) hHeld ?_
        simp only [Act.put, List.setIfInBounds_toArray, List.set_cons_succ, List.set_cons_zero]
        refine drawn_take (i := 12) (v := undef) (some 32) rfl rfl (by kernel_rfl) (by kernel_rfl) (by kernel_rfl) (fun _ _ _ h => h) (Or.inr ⟨by kernel_rfl, rfl⟩) hHeld ?_
        simp only [Act.put, List.setIfInBounds_toArray, List.set_cons_succ, List.set_cons_zero]
        refine drawn_take (i := 13) (v := undef) (some 33) rfl rfl (by kernel_rfl) (by kernel_rfl) (by kernel_rfl) (fun _ _ _ h => h) (Or.inr ⟨by kernel_rfl, rfl⟩) hHeld ?_
        simp only [Act.put, List.setIfInBounds_toArray, List.set_cons_succ, List.set_cons_zero]
        refine drawn_take (i := 14) (v := undef) (some 34) rfl rfl (by kernel_rfl) (by kernel_rfl) (by kernel_rfl) (fun _ _ _ h => h) (Or.inr ⟨by kernel_rfl, rfl⟩) hHeld ?_
        simp only [Act.put, List.setIfInBounds_toArray, List.set_cons_succ, List.set_cons_zero]
        refine drawn_take (i := 15) (v := undef) (some 35) rfl rfl (by kernel_rfl) (by kernel_rfl) (by kernel_rfl) (fun _ _ _ h => h) (Or.inr ⟨by kernel_rfl, rfl⟩) hHeld ?_
        simp only [Act.put, List.setIfInBounds_toArray, List.set_cons_succ, List.set_cons_zero]
        refine drawn_take (i := 16) (v := undef) (some 36) rfl rfl (by kernel_rfl) (by kernel_rfl) (by kernel_rfl) (fun _ _ _ h => h) (Or.inr ⟨by kernel_rfl, rfl⟩) hHeld ?_
        simp only [Act.put, List.setIfInBounds_toArray, List.set_cons_succ, List.set_cons_zero]
        refine drawn_take (i := 17) (v := undef) (some 37) rfl rfl (by kernel_rfl) (by kernel_rfl) (by kernel_rfl) (fun _ _ _ h => h) (Or.inr ⟨by kernel_rfl, rfl⟩) hHeld ?_
        simp only [Act.put, List.setIfInBounds_toArray, List.set_cons_succ, List.set_cons_zero]
        refine drawn_take (i := 18) (v := undef) (some 38) rfl rfl (by kernel_rfl) (by kernel_rfl) (by kernel_rfl) (fun _ _ _ h => h) (Or.inr ⟨by kernel_rfl, rfl⟩) hHeld ?_
        simp only [Act.put, List.setIfInBounds_toArray, List.set_cons_succ, List.set_cons_zero]
        refine drawn_take (i := 19) (v := undef) (some 39) rfl rfl (by kernel_rfl) (by kernel_rfl) (by kernel_rfl) (fun _ _ _ h => h) (Or.inr ⟨by kernel_rfl, rfl⟩) hHeld ?_
        simp only [Act.put, List.setIfInBounds_toArray, List.set_cons_succ, List.set_cons_zero]
        refine drawn_take (i := 20) (v := undef) (some 40) rfl rfl (by kernel_rfl) (by kernel_rfl) (by kernel_rfl) (fun _ _ _ h => h) (Or.inr ⟨by kernel_rfl, rfl⟩) hHeld ?_
        simp only [Act.put, List.setIfInBounds_toArray, List.set_cons_succ, List.set_cons_zero]
        refine drawn_take (i := 21) (v := undef) (some 41) rfl rfl (by kernel_rfl) (by kernel_rfl) (by kernel_rfl) (fun _ _ _ h => h) (Or.inr ⟨by kernel_rfl, rfl⟩) hHeld ?_
        simp only [Act.put, List.setIfInBounds_toArray, List.set_cons_succ, List.set_cons_zero]
        refine drawn_take (i := 22) (v := undef) (some 42) rfl rfl (by kernel_rfl) (by kernel_rfl) (by kernel_rfl) (fun _ _ _ h => h) (Or.inr ⟨by kernel_rfl, rfl⟩) hHeld ?_
        simp only [Act.put, List.setIfInBounds_toArray, List.set_cons_succ, List.set_cons_zero]
        refine drawn_take (i := 23) (v := undef) (some 43) rfl rfl (by kernel_rfl) (by kernel_rfl) (by kernel_rfl) (fun _ _ _ h => h) (Or.inr ⟨by kernel_rfl, rfl⟩) hHeld ?_
        simp only [Act.put, List.setIfInBounds_toArray, List.set_cons_succ, List.set_cons_zero]
        refine drawn_take (i := 24) (v := .bool true) (some 44) rfl rfl (by kernel_rfl) (by kernel_rfl) (by kernel_rfl) (fun _ _ _ h => h) (Or.inl ⟨by kernel_rfl, fun wq hw => by go_simp⟩) hHeld ?_
        simp only [Act.put, List.setIfInBounds_toArray, List.set_cons_succ, List.set_cons_zero]
        refine wpAnyH_done (by kernel_rfl) ?_ _
        refine NoPanic.normal ?_
        clear hHeld
        go_wp2
        go_ret
        exact ⟨e _ (HS.out (by rw [HA.out, hn']; simp)), hblA⟩
    · go_wp2
      go_ret
      obtain rfl : k = len := by omega
      exact ⟨e _ (canOK_true ls (by rw [hlH]; omega) (by rw [hlH]; omega) (by rw [hlH]; exact hn)), hbl⟩
end Go.Proofs.YtcjhkpcnhnnjbaaDoor

namespace Go.Proofs.YtcjhkpcnhnnjbaaDoor
open Go.RowKit
set_option linter.unusedVariables false

set_option maxHeartbeats 1000000 in
theorem refTexts_any (a b : ByteArray) (w : World) :
    Calls Tryd.prog 66 #[.string a, .string b] w fun e w' => e = .returned (.int .i64 (cmpS a b)) ∧ w' = w := by
  have e : ∀ n, cmpS a b = n → (Ending.returned (.int .i64 n) = Ending.returned (.int .i64 (cmpS a b))) := fun b h => by rw [h]
  by_cases h1 : Op.bytesLess a.toList b.toList = true
  · go_enter Tryd.func66, Tryd.ntmps66
    go_wp2
    go_ret
    exact ⟨e _ (by unfold cmpS cmpB; simp [h1]), rfl⟩
  · have h1' : Op.bytesLess a.toList b.toList = false := by simpa using h1
    by_cases h2 : (a.toList == b.toList) = true
    · have hn : Hid (cmpS a b = 0) := hidn (by
        unfold cmpS
        rw [beq_iff_eq.1 h2, cmpB_self])
      go_enter Tryd.func66, Tryd.ntmps66
      go_wp2
      go_ret
      exact ⟨e _ hn, rfl⟩
    · have h2' : (a.toList == b.toList) = false := by simpa using h2
      have hn : Hid (cmpS a b = 1) := hidn (by
        unfold cmpS cmpB
        have h3 : Op.bytesLess b.toList a.toList = true := by
          rw [← Bool.not_eq_false]; intro h3
          exact h2 (beq_iff_eq.2 (less_total _ _ h1' h3))
        simp [h1', h3])
      go_enter Tryd.func66, Tryd.ntmps66
      go_wp2
      go_ret
      exact ⟨e _ hn, rfl⟩

def getL : List Lab → ByteArray → ByteArray
  | [], _ => ⟨#[]⟩
  | x :: t, s => if x.1.toList == s.toList then x.2 else getL t s
theorem getL_step (a : List Lab) (s : ByteArray) (k : Nat) (ha : k < a.length) : getL (a.drop k) s = if (labD a k).1.toList == s.toList then (labD a k).2 else getL (a.drop (k + 1)) s := by
  rw [labD_drop a k ha]; rfl
theorem getL_end (a : List Lab) (s : ByteArray) (k : Nat) (ha : a.length ≤ k) : getL (a.drop k) s = ⟨#[]⟩ := by
  rw [List.drop_of_length_le ha]; rfl

set_option maxHeartbeats 4000000 in
set_option maxRecDepth 100000 in
theorem refCompare_any (a : Option Addr) (len cap : Nat) (la : List Lab) (b : Option Addr) (len' cap' : Nat) (lb : List Lab) (w : World) (h : Ls w a len la) (h' : Ls w b len' lb) (hr : len ≤ 140737488355328) (hr' : len' ≤ 140737488355328) :
    Calls Tryd.prog 38 #[.slice a len cap, .slice b len' cap'] w fun e w' => e = .returned (.int .i64 (cmpL la lb)) ∧ Below w.heap.size w w' := by
  have e : ∀ n, cmpL la lb = n → (Ending.returned (.int .i64 n) = Ending.returned (.int .i64 (cmpL la lb))) := fun b h => by rw [h]
  have HE := hidn e
  have hl := hidn h.1
  have hl' := hidn h'.1
  clear e
  obtain ⟨mn, hmn⟩ : ∃ mn, mn = min len len' := ⟨_, rfl⟩
  have hmin : (if (len' : Int) < (len : Int) then (len' : Int) else (len : Int)) = (mn : Int) := by split <;> omega
  have hmin' : (if len' < len then (len' : Int) else (len : Int)) = (mn : Int) := by split <;> omega
  have hm1 : mn ≤ len := by omega
  have hm2 : mn ≤ len' := by omega
  have hm3 : mn = len ∨ mn = len' := by omega
  clear hmn
  go_enter Tryd.func38, Tryd.ntmps38
  go_wp2
  go_loopw [13] (fun i wr => ∃ k : Nat, k ≤ mn ∧ i = .int .i64 k ∧ Below w.heap.size w wr ∧ Hid (cmpL la lb = cmpL (la.drop k) (lb.drop k))) (fun i wr => mn - (intOf i).toNat)
  case atStart => exact ⟨0, Nat.zero_le _, rfl, Below.refl _ _, rfl⟩
  case round =>
    clear hmin hmin'
    obtain ⟨k, hk, rfl, hbl, hn⟩ := hrel
    by_cases hlt : k < mn
    · have hlt1 : k < len := by omega
      have hlt2 : k < len' := by omega
      obtain ⟨ba, offa, rfl, hba, hca⟩ := h.pos (by omega)
      obtain ⟨bb, offb, rfl, hbb, hcb⟩ := h'.pos (by omega)
      obtain ⟨c0, c1⟩ := hca k hlt1
      have c0' : wr.cell? ⟨ba, offa + k * 2, none⟩ = some (.string (labD la k).1) := (hbl.cell (p := ⟨ba, offa + k * 2, none⟩) hba).trans c0
      have c1' : wr.cell? ⟨ba, offa + k * 2 + 1, none⟩ = some (.string (labD la k).2) := (hbl.cell (p := ⟨ba, offa + k * 2 + 1, none⟩) hba).trans c1
      obtain ⟨d0, d1⟩ := hcb k hlt2
      have d0' : wr.cell? ⟨bb, offb + k * 2, none⟩ = some (.string (labD lb k).1) := (hbl.cell (p := ⟨bb, offb + k * 2, none⟩) hbb).trans d0
      have d1' : wr.cell? ⟨bb, offb + k * 2 + 1, none⟩ = some (.string (labD lb k).2) := (hbl.cell (p := ⟨bb, offb + k * 2 + 1, none⟩) hbb).trans d1
      have HST := hidn (hn.out.trans (cmpL_step la lb k (by rw [hl.out]; exact hlt1) (by rw [hl'.out]; exact hlt2)))
      clear c0 c1 d0 d1 hca hcb hn
      generalize hx : labD la k = x at *
      generalize hy : labD lb k = y at *
      obtain ⟨x1, x2⟩ := x
      obtain ⟨y1, y2⟩ := y
      clear hx hy
      dsimp only at c0' c1' d0' d1'
      have HO : Hid (cmpOne (x1, x2) (y1, y2) = if cmpS x1 y1 = 0 then cmpS x2 y2 else cmpS x1 y1) := hidn rfl
      go_wp2
      go_quiet ((go_at_call 66; exact Calls.quiet_of_same (refTexts_any _ _ _)))
      by_cases hz : cmpS x1 y1 = 0
      · rw [hz]
        obtain ⟨w2, hw2⟩ : ∃ w2, w2 = wr.drewN nq := ⟨_, rfl⟩
        have c1'' : w2.cell? ⟨ba, offa + k * 2 + 1, none⟩ = some (.string x2) := by rw [hw2]; exact c1'
        have d1'' : w2.cell? ⟨bb, offb + k * 2 + 1, none⟩ = some (.string y2) := by rw [hw2]; exact d1'
        have hbl2 : Below w.heap.size w w2 := by rw [hw2]; exact below_drewN hbl _
        rw [← hw2]
        clear hw2 c0' c1' d0' d1'
        go_wp2
        go_quiet ((go_at_call 66; exact Calls.quiet_of_same (refTexts_any _ _ _)))
        by_cases hz2 : cmpS x2 y2 = 0
        · have HC : Hid (cmpL la lb = cmpL (la.drop (k + 1)) (lb.drop (k + 1))) := hidn (by rw [HST.out, HO.out, if_pos hz, if_pos hz2])
          rw [hz2]
          clear hz hz2 HST HO
          go_wp2
          exact ⟨⟨k + 1, by omega, by go_num, below_drewN hbl2 _, HC⟩, by simp [intOf]; omega⟩
        · have HC : Hid (cmpL la lb = cmpS x2 y2) := hidn (by rw [HST.out, HO.out, if_pos hz, if_neg hz2])
          have hz2' : (cmpS x2 y2 == 0) = false := beq_eq_false_iff_ne.2 hz2
          clear hz hz2 HST HO
          generalize cmpS x2 y2 = z at *
          go_wp2
          go_ret
          exact ⟨HE.out _ HC.out, below_drewN hbl2 _⟩
      · have HC : Hid (cmpL la lb = cmpS x1 y1) := hidn (by rw [HST.out, HO.out, if_neg hz, if_neg hz])
        have hz' : (cmpS x1 y1 == 0) = false := beq_eq_false_iff_ne.2 hz
        clear hz HST HO
        generalize cmpS x1 y1 = z at *
        go_wp2
        go_ret
        exact ⟨HE.out _ HC.out, below_drewN hbl _⟩
    · obtain rfl : k = mn := by omega
      by_cases hlt' : len < len'
      · have HC := hidn (hn.out.trans (cmpL_under la lb k (by rw [hl.out]; omega) (by rw [hl'.out]; omega)))
        clear hn
        have g : (len : Int) < (len' : Int) := by omega
        go_wp2
        go_ret
        exact ⟨HE.out _ HC.out, hbl⟩
      · have g : ¬ (len : Int) < (len' : Int) := by omega
        by_cases hgt : len' < len
        · have HC := hidn (hn.out.trans (cmpL_over la lb k (by rw [hl.out]; omega) (by rw [hl'.out]; omega)))
          clear hn
          have g2 : (len' : Int) < (len : Int) := by omega
          go_wp2
          go_ret
          exact ⟨HE.out _ HC.out, hbl⟩
        · have HC := hidn (hn.out.trans (cmpL_both la lb k (by rw [hl.out]; omega) (by rw [hl'.out]; omega)))
          clear hn
          have g2 : ¬ (len' : Int) < (len : Int) := by omega
          go_wp2
          go_ret
          exact ⟨HE.out _ HC.out, hbl⟩
end Go.Proofs.YtcjhkpcnhnnjbaaDoor
