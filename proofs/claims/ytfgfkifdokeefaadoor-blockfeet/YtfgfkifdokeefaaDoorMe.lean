/- labels.Compare, slices.Equal of labels: contracts at any lists. -/
import Derived.Test.YtfgfkifdokeefaaDoorLabDrawn
import Derived.BigQuiet
import Derived.Shelf.Abstract
import Derived.BigCall
import Derived.Deep.QuietTactic
import Derived.Lib.OthersKept
namespace Go.Proofs.YtfgfkifdokeefaaDoor
open Go.RowKit Go.Shelf
set_option linter.unusedVariables false

set_option maxHeartbeats 1000000 in
theorem nan_any (a : ByteArray) (w : World) :
    Calls Tryd.prog 56 #[.string a] w fun e w' => e = .returned (.bool false) ∧ w' = w := by
  have h : (a.toList == a.toList) = true := beq_iff_eq.2 rfl
  go_enter Tryd.func56, Tryd.ntmps56
  go_wp2
  go_ret
  exact ⟨rfl, rfl⟩

set_option maxHeartbeats 1000000 in
theorem cmpS_any (a b : ByteArray) (w : World) :
    Calls Tryd.prog 50 #[.string a, .string b] w fun e w' => e = .returned (.int .i64 (cmpS a b)) ∧ w' = w := by
  have e : ∀ n, cmpS a b = n → (Ending.returned (.int .i64 n) = Ending.returned (.int .i64 (cmpS a b))) := fun b h => by rw [h]
  by_cases h1 : Op.bytesLess a.toList b.toList = true
  · go_enter Tryd.func50, Tryd.ntmps50
    go_wp2_with (go_at_call 56; refine (nan_any _ _).mono ?_; rintro e w' ⟨rfl, rfl⟩)
    go_ret
    exact ⟨e _ (by unfold cmpS cmpB; simp [h1]), rfl⟩
  · have h1' : Op.bytesLess a.toList b.toList = false := by simpa using h1
    by_cases h2 : (a.toList == b.toList) = true
    · have hn : Hid (cmpS a b = 0) := hidn (by
        unfold cmpS
        rw [beq_iff_eq.1 h2, cmpB_self])
      go_enter Tryd.func50, Tryd.ntmps50
      go_wp2_with (go_at_call 56; refine (nan_any _ _).mono ?_; rintro e w' ⟨rfl, rfl⟩)
      go_ret
      exact ⟨e _ hn, rfl⟩
    · have h2' : (a.toList == b.toList) = false := by simpa using h2
      have hn : Hid (cmpS a b = 1) := hidn (by
        unfold cmpS cmpB
        have h3 : Op.bytesLess b.toList a.toList = true := by
          rw [← Bool.not_eq_false]; intro h3
          exact h2 (beq_iff_eq.2 (less_total _ _ h1' h3))
        simp [h1', h3])
      go_enter Tryd.func50, Tryd.ntmps50
      go_wp2_with (go_at_call 56; refine (nan_any _ _).mono ?_; rintro e w' ⟨rfl, rfl⟩)
      go_ret
      exact ⟨e _ hn, rfl⟩

theorem drew_cell (w : World) (p : Addr) : w.drew.cell? p = w.cell? p := rfl
def orZ (x y : Int) : Int := if x = 0 then y else x

set_option maxHeartbeats 1000000 in
theorem or_two (B : Nat) (x y : Int) (w : World) (c0 : w.cell? ⟨B, 0, none⟩ = some (.int .i64 x)) (c1 : w.cell? ⟨B, 1, none⟩ = some (.int .i64 y)) :
    Calls Tryd.prog 49 #[.slice (some ⟨B, 0, none⟩) 2 2] w fun e w' => e = .returned (.int .i64 (orZ x y)) ∧ w' = w := by
  have e : ∀ n, (orZ x y) = n → (Ending.returned (.int .i64 n) = Ending.returned (.int .i64 (orZ x y))) := fun b h => by rw [h]
  have HE := hidn e
  clear e
  go_enter Tryd.func49, Tryd.ntmps49
  go_wp2
  go_loop [8] (fun i => ∃ k : Nat, k ≤ 2 ∧ i = .int .i64 k ∧ Hid ((0 < k → x = 0) ∧ (1 < k → y = 0))) (fun i => 2 - (intOf i).toNat)
  case atStart => exact ⟨0, by omega, rfl, by intro h; omega, by intro h; omega⟩
  case round =>
    obtain ⟨k, hk, rfl, hz⟩ := hrel
    by_cases h0 : k = 0
    · subst h0
      by_cases hx : x = 0
      · have hx' : (x == 0) = true := beq_iff_eq.2 hx
        have HX := hidn hx
        clear hx
        go_wp2
        exact ⟨⟨1, by omega, rfl, fun _ => HX.out, by intro h; omega⟩, by simp [intOf]⟩
      · have hx' : (x == 0) = false := beq_eq_false_iff_ne.2 hx
        have HX := hidn hx
        clear hx
        go_wp2
        go_ret
        exact ⟨HE.out _ (by unfold orZ; rw [if_neg HX.out]), rfl⟩
    by_cases h1 : k = 1
    · subst h1
      by_cases hx : y = 0
      · have hx' : (y == 0) = true := beq_iff_eq.2 hx
        have HX := hidn hx
        clear hx
        go_wp2
        exact ⟨⟨2, by omega, rfl, fun _ => hz.1 (by omega), fun _ => HX.out⟩, by simp [intOf]⟩
      · have hx' : (y == 0) = false := beq_eq_false_iff_ne.2 hx
        have HX := hidn hx
        clear hx
        go_wp2
        go_ret
        exact ⟨HE.out _ (by unfold orZ; rw [if_pos (hz.1 (by omega))]), rfl⟩
    obtain rfl : k = 2 := by omega
    go_wp2
    go_ret
    exact ⟨HE.out _ (by unfold orZ; rw [if_pos (hz.1 (by omega)), hz.2 (by omega)]), rfl⟩

set_option maxHeartbeats 2000000 in
set_option maxRecDepth 100000 in
theorem one_any (a b : Lab) (w : World) :
    Calls Tryd.prog 41 #[.agg #[.string a.1, .string a.2], .agg #[.string b.1, .string b.2]] w fun e w' => e = .returned (.int .i64 (cmpOne a b)) ∧ Below w.heap.size w w' := by
  obtain ⟨a1, a2⟩ := a
  obtain ⟨b1, b2⟩ := b
  have HC : Hid (cmpOne (a1, a2) (b1, b2) = orZ (cmpS a1 b1) (cmpS a2 b2)) := hidn rfl
  have en : ∀ args w, (callFunc 50 args).run Tryd.prog w = .ok (.enter 50 args) w := enters_of Tryd.func50 (by kernel_rfl) rfl
  have en2 : ∀ args w, (callFunc 49 args).run Tryd.prog w = .ok (.enter 49 args) w := enters_of Tryd.func49 (by kernel_rfl) rfl
  have EN := hidn en
  have EN2 := hidn en2
  clear en en2
  go_enter Tryd.func41, Tryd.ntmps41
  go_wp2
  refine wp_region_noPanic ?_
  refine wp_region_held_drew (S := fun w' => w'.cell? ⟨w.heap.size, 0, none⟩ = some (.string a1) ∧ w'.cell? ⟨w.heap.size, 1, none⟩ = some (.string a2) ∧ w'.cell? ⟨w.heap.size + 1, 0, none⟩ = some (.string b1) ∧ w'.cell? ⟨w.heap.size + 1, 1, none⟩ = some (.string b2)) (by kernel_rfl) ⟨by simp, by simp, by simp, by simp⟩ (fun hHeld => ?_)
  refine drawn_take (i := 0) (v := .pointer (some ⟨w.heap.size, 0, none⟩)) (some 5) rfl rfl (by kernel_rfl) (by kernel_rfl) (by kernel_rfl) (fun _ _ _ h => h) (Or.inl ⟨by kernel_rfl, fun wq hw => by (obtain ⟨g1, g2, g3, g4⟩ := hw; go_simp)⟩) hHeld ?_
  simp only [Act.put, List.setIfInBounds_toArray, List.set_cons_succ, List.set_cons_zero]
  refine drawn_take (i := 1) (v := .string a1) (some 6) rfl rfl (by kernel_rfl) (by kernel_rfl) (by kernel_rfl) (fun _ _ _ h => h) (Or.inl ⟨by kernel_rfl, fun wq hw => by (obtain ⟨g1, g2, g3, g4⟩ := hw; go_simp)⟩) hHeld ?_
  simp only [Act.put, List.setIfInBounds_toArray, List.set_cons_succ, List.set_cons_zero]
  refine drawn_take (i := 2) (v := .pointer (some ⟨w.heap.size + 1, 0, none⟩)) (some 7) rfl rfl (by kernel_rfl) (by kernel_rfl) (by kernel_rfl) (fun _ _ _ h => h) (Or.inl ⟨by kernel_rfl, fun wq hw => by (obtain ⟨g1, g2, g3, g4⟩ := hw; go_simp)⟩) hHeld ?_
  simp only [Act.put, List.setIfInBounds_toArray, List.set_cons_succ, List.set_cons_zero]
  refine drawn_take (i := 3) (v := .string b1) (some 8) rfl rfl (by kernel_rfl) (by kernel_rfl) (by kernel_rfl) (fun _ _ _ h => h) (Or.inl ⟨by kernel_rfl, fun wq hw => by (obtain ⟨g1, g2, g3, g4⟩ := hw; go_simp)⟩) hHeld ?_
  simp only [Act.put, List.setIfInBounds_toArray, List.set_cons_succ, List.set_cons_zero]
  refine drawn_take (i := 5) (v := .pointer (some ⟨w.heap.size, 1, none⟩)) (some 10) rfl rfl (by kernel_rfl) (by kernel_rfl) (by kernel_rfl) (fun _ _ _ h => h) (Or.inl ⟨by kernel_rfl, fun wq hw => by (obtain ⟨g1, g2, g3, g4⟩ := hw; go_simp)⟩) hHeld ?_
  simp only [Act.put, List.setIfInBounds_toArray, List.set_cons_succ, List.set_cons_zero]
  refine drawn_take (i := 6) (v := .string a2) (some 11) rfl rfl (by kernel_rfl) (by kernel_rfl) (by kernel_rfl) (fun _ _ _ h => h) (Or.inl ⟨by kernel_rfl, fun wq hw => by (obtain ⟨g1, g2, g3, g4⟩ := hw; go_simp)⟩) hHeld ?_
  simp only [Act.put, List.setIfInBounds_toArray, List.set_cons_succ, List.set_cons_zero]
  refine drawn_take (i := 7) (v := .pointer (some ⟨w.heap.size + 1, 1, none⟩)) (some 12) rfl rfl (by kernel_rfl) (by kernel_rfl) (by kernel_rfl) (fun _ _ _ h => h) (Or.inl ⟨by kernel_rfl, fun wq hw => by (obtain ⟨g1, g2, g3, g4⟩ := hw; go_simp)⟩) hHeld ?_
  simp only [Act.put, List.setIfInBounds_toArray, List.set_cons_succ, List.set_cons_zero]
  refine drawn_take (i := 8) (v := .string b2) (some 13) rfl rfl (by kernel_rfl) (by kernel_rfl) (by kernel_rfl) (fun _ _ _ h => h) (Or.inl ⟨by kernel_rfl, fun wq hw => by (obtain ⟨g1, g2, g3, g4⟩ := hw; go_simp)⟩) hHeld ?_
  simp only [Act.put, List.setIfInBounds_toArray, List.set_cons_succ, List.set_cons_zero]
  refine wpAnyH_ready (rs := [4]) (by kernel_rfl) (by simp) ?_
  refine rdy_call (i := 4) rfl rfl (some 9) rfl 50 #[.string a1, .string b1] (call2_run (x := 6) (y := 8) (ts := #[9, 9]) (by kernel_rfl) EN (by kernel_rfl) (by kernel_rfl)) (fun v w' => v = .int .i64 (cmpS a1 b1) ∧ w' = _) ((cmpS_any a1 b1 _).mono fun e w' h => ⟨_, h.1, rfl, h.2⟩) (fun v w5 hR => ?_) rdy_nil
  obtain ⟨rfl, rfl⟩ := hR
  refine ⟨hHeld, fun hHeld => ?_⟩
  simp only [Act.put, List.setIfInBounds_toArray, List.set_cons_succ, List.set_cons_zero]
  refine wpAnyH_ready (rs := [9]) (by kernel_rfl) (by simp) ?_
  refine rdy_call (i := 9) rfl rfl (some 14) rfl 50 #[.string a2, .string b2] (call2_run (x := 11) (y := 13) (ts := #[9, 9]) (by kernel_rfl) EN (by kernel_rfl) (by kernel_rfl)) (fun v w' => v = .int .i64 (cmpS a2 b2) ∧ w' = _) ((cmpS_any a2 b2 _).mono fun e w' h => ⟨_, h.1, rfl, h.2⟩) (fun v w5 hR => ?_) rdy_nil
  obtain ⟨rfl, rfl⟩ := hR
  refine ⟨hHeld, fun hHeld => ?_⟩
  simp only [Act.put, List.setIfInBounds_toArray, List.set_cons_succ, List.set_cons_zero]
  refine wpAnyH_ready (rs := [10]) (by kernel_rfl) (by simp) ?_
  refine rdy_val (i := 10) rfl rfl (some 15) rfl (.slice (some ⟨w.heap.size + 1 + 1, 0, none⟩) 2 2) ((((w.alloc (.cells #[.string a1, .string a2] 47)).alloc (.cells #[.string b1, .string b2] 47)).alloc (.cells #[.int .i64 (cmpS a1 b1), .int .i64 (cmpS a2 b2)] 3)).drew) (by go_simp) ⟨by go_simp, by go_simp, by go_simp, by go_simp⟩ (fun hHeld => ?_) rdy_nil
  simp only [Act.put, List.setIfInBounds_toArray, List.set_cons_succ, List.set_cons_zero]
  refine wpAnyH_ready (rs := [11]) (by kernel_rfl) (by simp) ?_
  refine rdy_call (i := 11) rfl rfl (some 16) rfl 49 #[.slice (some ⟨w.heap.size + 1 + 1, 0, none⟩) 2 2] (call1_run (x := 15) (ts := #[22]) (by kernel_rfl) EN2 (by kernel_rfl)) (fun v w' => v = .int .i64 (orZ (cmpS a1 b1) (cmpS a2 b2)) ∧ w' = _) ((or_two _ _ _ _ (by go_simp) (by go_simp)).mono fun e w' h => ⟨_, h.1, rfl, h.2⟩) (fun v w5 hR => ?_) rdy_nil
  obtain ⟨rfl, rfl⟩ := hR
  refine ⟨hHeld, fun hHeld => ?_⟩
  simp only [Act.put, List.setIfInBounds_toArray, List.set_cons_succ, List.set_cons_zero]
  refine drawn_take (i := 12) (v := .int .i64 (orZ (cmpS a1 b1) (cmpS a2 b2))) (some 4) rfl rfl (by kernel_rfl) (by kernel_rfl) (by kernel_rfl) (fun _ _ _ h => h) (Or.inl ⟨by kernel_rfl, fun w hw => by go_simp⟩) hHeld ?_
  simp only [Act.put, List.setIfInBounds_toArray, List.set_cons_succ, List.set_cons_zero]
  refine wpAnyH_done (by kernel_rfl) ?_ _
  refine NoPanic.normal ?_
  clear hHeld
  go_wp2
  go_ret
  refine ⟨by rw [HC.out]; rfl, ?_⟩
  exact ((((Below.refl _ w).alloc (Nat.le_refl _) _).alloc (by simp) _).alloc (by simp; omega) _).drew
end Go.Proofs.YtfgfkifdokeefaaDoor

namespace Go.Proofs.YtfgfkifdokeefaaDoor
open Go.RowKit
set_option linter.unusedVariables false

theorem labD_drop (ls : List Lab) (k : Nat) (h : k < ls.length) : ls.drop k = labD ls k :: ls.drop (k + 1) := by
  rw [List.drop_eq_getElem_cons h]
  unfold labD
  rw [List.getD_eq_getElem?_getD, List.getElem?_eq_getElem h]
  rfl
theorem cmpL_step (a b : List Lab) (k : Nat) (ha : k < a.length) (hb : k < b.length) : cmpL (a.drop k) (b.drop k) = if cmpOne (labD a k) (labD b k) = 0 then cmpL (a.drop (k + 1)) (b.drop (k + 1)) else cmpOne (labD a k) (labD b k) := by
  rw [labD_drop a k ha, labD_drop b k hb]; rfl
theorem cmpL_over (a b : List Lab) (k : Nat) (ha : k < a.length) (hb : b.length ≤ k) : cmpL (a.drop k) (b.drop k) = 1 := by
  rw [labD_drop a k ha, List.drop_of_length_le hb]; rfl
theorem cmpL_under (a b : List Lab) (k : Nat) (ha : a.length ≤ k) (hb : k < b.length) : cmpL (a.drop k) (b.drop k) = -1 := by
  rw [labD_drop b k hb, List.drop_of_length_le ha]; rfl
theorem cmpL_both (a b : List Lab) (k : Nat) (ha : a.length ≤ k) (hb : b.length ≤ k) : cmpL (a.drop k) (b.drop k) = 0 := by
  rw [List.drop_of_length_le ha, List.drop_of_length_le hb]; rfl

set_option maxHeartbeats 4000000 in
set_option maxRecDepth 100000 in
theorem cmpFunc_any (a : Option Addr) (len cap : Nat) (la : List Lab) (b : Option Addr) (len' cap' : Nat) (lb : List Lab) (w : World) (h : Ls w a len la) (h' : Ls w b len' lb) (hr : len ≤ 140737488355328) (hr' : len' ≤ 140737488355328) :
    Calls Tryd.prog 40 #[.slice a len cap, .slice b len' cap', .func (.func 41) #[] #[]] w fun e w' => e = .returned (.int .i64 (cmpL la lb)) ∧ Below w.heap.size w w' := by
  have e : ∀ n, cmpL la lb = n → (Ending.returned (.int .i64 n) = Ending.returned (.int .i64 (cmpL la lb))) := fun b h => by rw [h]
  have HE := hidn e
  have hl := hidn h.1
  have hl' := hidn h'.1
  clear e
  go_enter Tryd.func40, Tryd.ntmps40
  go_wp2
  go_loopw [13] (fun i wr => ∃ k : Nat, k ≤ len ∧ i = .int .i64 k ∧ Below w.heap.size w wr ∧ Hid (cmpL la lb = cmpL (la.drop k) (lb.drop k))) (fun i wr => len - (intOf i).toNat)
  case atStart => exact ⟨0, Nat.zero_le _, rfl, Below.refl _ _, rfl⟩
  case round =>
    obtain ⟨k, hk, rfl, hbl, hn⟩ := hrel
    by_cases hlt : k < len
    · obtain ⟨ba, offa, rfl, hba, hca⟩ := h.pos (by omega)
      obtain ⟨c0, c1⟩ := hca k hlt
      have c0' : wr.cell? ⟨ba, offa + k * 2, none⟩ = some (.string (labD la k).1) := (hbl.cell (p := ⟨ba, offa + k * 2, none⟩) hba).trans c0
      have c1' : wr.cell? ⟨ba, offa + k * 2 + 1, none⟩ = some (.string (labD la k).2) := (hbl.cell (p := ⟨ba, offa + k * 2 + 1, none⟩) hba).trans c1
      have hsw : w.heap.size ≤ wr.heap.size := hbl.size
      clear c0 c1 hca
      by_cases hlt' : k < len'
      · obtain ⟨bb, offb, rfl, hbb, hcb⟩ := h'.pos (by omega)
        obtain ⟨d0, d1⟩ := hcb k hlt'
        have d0' : wr.cell? ⟨bb, offb + k * 2, none⟩ = some (.string (labD lb k).1) := (hbl.cell (p := ⟨bb, offb + k * 2, none⟩) hbb).trans d0
        have d1' : wr.cell? ⟨bb, offb + k * 2 + 1, none⟩ = some (.string (labD lb k).2) := (hbl.cell (p := ⟨bb, offb + k * 2 + 1, none⟩) hbb).trans d1
        clear d0 d1 hcb
        have HST := hidn (cmpL_step la lb k (by rw [hl.out]; exact hlt) (by rw [hl'.out]; exact hlt'))
        have q0 : (wr.alloc (.cells #[.string (labD la k).1, .string (labD la k).2] 47)).cell? ⟨bb, offb + k * 2, none⟩ = some (.string (labD lb k).1) := Lib.cell?_alloc_some _ d0'
        have q1 : (wr.alloc (.cells #[.string (labD la k).1, .string (labD la k).2] 47)).cell? ⟨bb, offb + k * 2 + 1, none⟩ = some (.string (labD lb k).2) := Lib.cell?_alloc_some _ d1'
        generalize hx : labD la k = x at *
        generalize hy : labD lb k = y at *
        obtain ⟨x1, x2⟩ := x
        obtain ⟨y1, y2⟩ := y
        have HX := hidn hx
        have HY := hidn hy
        clear hx hy
        dsimp only at c0' c1' d0' d1' q0 q1
        go_wp2_with fail
        refine (one_any (x1, x2) (y1, y2) _).mono ?_
        rintro e w1 ⟨rfl, hb1⟩
        have hbl1 : Below w.heap.size w w1 := ((hbl.alloc hsw _).alloc (by simp; omega) _).trans (hb1.mono (by simp; omega))
        have HC := hidn (show cmpL la lb = if cmpOne (x1, x2) (y1, y2) = 0 then cmpL (la.drop (k + 1)) (lb.drop (k + 1)) else cmpOne (x1, x2) (y1, y2) from hn.out.trans HST.out)
        clear hn HST
        by_cases hz : cmpOne (x1, x2) (y1, y2) = 0
        · have HC2 : Hid (cmpL la lb = cmpL (la.drop (k + 1)) (lb.drop (k + 1))) := hidn (by rw [HC.out, if_pos hz])
          rw [hz]
          clear hz HC
          go_wp2
          exact ⟨⟨k + 1, by omega, by go_num, hbl1, HC2⟩, by simp [intOf]; omega⟩
        · have HC2 : Hid (cmpL la lb = cmpOne (x1, x2) (y1, y2)) := hidn (by rw [HC.out, if_neg hz])
          have hz' : (cmpOne (x1, x2) (y1, y2) == 0) = false := beq_eq_false_iff_ne.2 hz
          clear hz HC
          generalize cmpOne (x1, x2) (y1, y2) = z at *
          go_wp2
          go_ret
          exact ⟨HE.out _ HC2.out, hbl1⟩
      · have HC := hidn (hn.out.trans (cmpL_over la lb k (by rw [hl.out]; exact hlt) (by rw [hl'.out]; omega)))
        have hge : (len' : Int) ≤ (k : Int) := by omega
        have hge' : len' ≤ k := by omega
        generalize hx : labD la k = x at *
        obtain ⟨x1, x2⟩ := x
        clear hx hn hlt'
        dsimp only at c0' c1'
        go_wp2
        go_ret
        exact ⟨HE.out _ HC.out, hbl.alloc hsw _⟩
    · obtain rfl : k = len := by omega
      by_cases hlt' : k < len'
      · have HC := hidn (hn.out.trans (cmpL_under la lb k (by rw [hl.out]; omega) (by rw [hl'.out]; omega)))
        clear hn
        have g : (k : Int) < (len' : Int) := by omega
        go_wp2
        go_ret
        exact ⟨HE.out _ HC.out, hbl⟩
      · have HC := hidn (hn.out.trans (cmpL_both la lb k (by rw [hl.out]; omega) (by rw [hl'.out]; omega)))
        clear hn
        have g : ¬ (k : Int) < (len' : Int) := by omega
        go_wp2
        go_ret
        exact ⟨HE.out _ HC.out, hbl⟩

set_option maxHeartbeats 1000000 in
theorem compare_any (a : Option Addr) (len cap : Nat) (la : List Lab) (b : Option Addr) (len' cap' : Nat) (lb : List Lab) (w : World) (h : Ls w a len la) (h' : Ls w b len' lb) (hr : len ≤ 140737488355328) (hr' : len' ≤ 140737488355328) :
    Calls Tryd.prog 34 #[.slice a len cap, .slice b len' cap'] w fun e w' => e = .returned (.int .i64 (cmpL la lb)) ∧ Below w.heap.size w w' := by
  go_enter Tryd.func34, Tryd.ntmps34
  go_wp2_with fail
  refine (cmpFunc_any a len cap la b len' cap' lb _ h h' hr hr').mono ?_
  rintro e w1 ⟨rfl, hb⟩
  go_wp2
  go_ret
  exact ⟨rfl, hb⟩

/-- Two lists from a place on, part by part. -/
def eqFrom (a b : List Lab) (k : Nat) : Prop := a.drop k = b.drop k
theorem eqFrom_step (a b : List Lab) (k : Nat) (ha : k < a.length) (hb : k < b.length) : a.drop k = b.drop k ↔ labD a k = labD b k ∧ a.drop (k + 1) = b.drop (k + 1) := by
  rw [labD_drop a k ha, labD_drop b k hb]; simp
end Go.Proofs.YtfgfkifdokeefaaDoor
