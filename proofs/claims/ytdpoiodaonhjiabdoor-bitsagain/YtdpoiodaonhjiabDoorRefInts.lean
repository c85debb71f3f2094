/- The walks of the document's class, PutInt and TakeInt. -/
import Derived.Test.YtdpoiodaonhjiabDoorRefTake
import Derived.Test.YtdpoiodaonhjiabDoorBackMath
namespace Go.Proofs.YtdpoiodaonhjiabDoor
open Go.RowKit
set_option linter.unusedVariables false

set_option maxHeartbeats 2000000 in
theorem class_any (n : Int) (w : World) :
    Calls Tryd.prog 27 #[.int .i64 n] w fun e w' => e = .returned (.tuple #[.int .i64 (cls n : Nat), .int .i64 (clsWidth (cls n) : Nat)]) ∧ w' = w := by
  by_cases h0 : n = 0
  · have e : cls n = 0 := by subst h0; rfl
    have b0 : (n == 0) = true := beq_iff_eq.2 h0
    rw [e]
    clear h0 e
    go_enter Tryd.func27, Tryd.ntmps27
    go_wp2
    go_ret2
    exact ⟨rfl, rfl⟩
  · have b0 : (n == 0) = false := beq_eq_false_iff_ne.2 h0
    by_cases h1a : -64 ≤ n
    · have b1 : decide (-64 ≤ n) = true := decide_eq_true h1a
      by_cases h1b : n ≤ 63
      · have b1' : decide (n ≤ 63) = true := decide_eq_true h1b
        have e : cls n = 1 := by unfold cls; rw [if_neg (by omega), if_neg (by omega), if_neg (by omega), if_pos h0]
        rw [e]
        clear h0 e
        go_enter Tryd.func27, Tryd.ntmps27
        go_wp2
        go_ret2
        exact ⟨rfl, rfl⟩
      · have b1' : decide (n ≤ 63) = false := decide_eq_false h1b
        have b2 : decide (-2048 ≤ n) = true := decide_eq_true (by omega)
        by_cases h2 : n ≤ 2047
        · have b2' : decide (n ≤ 2047) = true := decide_eq_true h2
          have e : cls n = 2 := by unfold cls; rw [if_neg (by omega), if_neg (by omega), if_pos (by omega)]
          rw [e]
          clear h0 e
          go_enter Tryd.func27, Tryd.ntmps27
          go_wp2
          go_ret2
          exact ⟨rfl, rfl⟩
        · have b2' : decide (n ≤ 2047) = false := decide_eq_false h2
          have b3 : decide (-2147483648 ≤ n) = true := decide_eq_true (by omega)
          by_cases h3 : n ≤ 2147483647
          · have b3' : decide (n ≤ 2147483647) = true := decide_eq_true h3
            have e : cls n = 3 := by unfold cls; rw [if_neg (by omega), if_pos (by omega)]
            rw [e]
            clear h0 e
            go_enter Tryd.func27, Tryd.ntmps27
            go_wp2
            go_ret2
            exact ⟨rfl, rfl⟩
          · have b3' : decide (n ≤ 2147483647) = false := decide_eq_false h3
            have e : cls n = 4 := by unfold cls; rw [if_pos (by omega)]
            rw [e]
            clear h0 e
            go_enter Tryd.func27, Tryd.ntmps27
            go_wp2
            go_ret2
            exact ⟨rfl, rfl⟩
    · have b1 : decide (-64 ≤ n) = false := decide_eq_false h1a
      by_cases h2 : -2048 ≤ n
      · have b2 : decide (-2048 ≤ n) = true := decide_eq_true h2
        have b2' : decide (n ≤ 2047) = true := decide_eq_true (by omega)
        have e : cls n = 2 := by unfold cls; rw [if_neg (by omega), if_neg (by omega), if_pos (by omega)]
        rw [e]
        clear h0 e
        go_enter Tryd.func27, Tryd.ntmps27
        go_wp2
        go_ret2
        exact ⟨rfl, rfl⟩
      · have b2 : decide (-2048 ≤ n) = false := decide_eq_false h2
        by_cases h3 : -2147483648 ≤ n
        · have b3 : decide (-2147483648 ≤ n) = true := decide_eq_true h3
          have b3' : decide (n ≤ 2147483647) = true := decide_eq_true (by omega)
          have e : cls n = 3 := by unfold cls; rw [if_neg (by omega), if_pos (by omega)]
          rw [e]
          clear h0 e
          go_enter Tryd.func27, Tryd.ntmps27
          go_wp2
          go_ret2
          exact ⟨rfl, rfl⟩
        · have b3 : decide (-2147483648 ≤ n) = false := decide_eq_false h3
          have e : cls n = 4 := by unfold cls; rw [if_pos (by omega)]
          rw [e]
          clear h0 e
          go_enter Tryd.func27, Tryd.ntmps27
          go_wp2
          go_ret2
          exact ⟨rfl, rfl⟩

theorem marks_list (k : Nat) (hk : k ≤ 4) : lowBits (clsMark k) (clsMarks k) = List.replicate k true ++ (if k < 4 then [false] else []) := by
  have hk5 : k = 0 ∨ k = 1 ∨ k = 2 ∨ k = 3 ∨ k = 4 := by omega
  rcases hk5 with rfl | rfl | rfl | rfl | rfl <;> decide

set_option maxHeartbeats 1000000 in
theorem refPutInt_bad (a : Option Addr) (len cap : Nat) (x n : Int) (zs : List Nat) (w : World) (hB : Bs w a len zs) (hm : len ≤ 137438953472) (hx : x ≤ 9223372036854775807) (hbad : canB zs x = false) :
    Calls Tryd.prog 12 #[.agg #[.slice a len cap, .int .i64 x], .int .i64 n] w fun e w' =>
      e = .returned (.tuple #[.agg #[.slice none 0 0, .int .i64 0], .int .i64 1]) ∧ Below w.heap.size w w' := by
  have h0 : Below w.heap.size w ((w.alloc (.cells #[.slice a len cap, .int .i64 x] 24)).alloc (.cells #[.slice none 0 0, .int .i64 0] 24)) := ((Below.refl w.heap.size w).alloc (Nat.le_refl _) _).alloc (by simp) _
  have hB2 := hB.below h0
  have HB : Hid (canB zs x = false) := hbad
  clear hbad
  go_enter Tryd.func12, Tryd.ntmps12
  go_wp2_with fail
  refine (list_any a len cap x zs _ hB2 hm hx).mono ?_
  rintro e w1 ⟨v, rfl, _, _, hb1⟩
  rw [HB.out]
  obtain ⟨hc, hf⟩ := bcell hb1
  have hz : w.heap.size + 1 < w1.heap.size := by have := hb1.size; simp at this; omega
  go_wp2
  refine bodyPost_ret (v := .tuple #[.agg #[.slice none 0 0, .int .i64 0], .int .i64 1]) (by simp [results, Tryd.results12, go_sem, hc]) rfl ⟨rfl, ?_⟩
  exact ((h0.trans (hb1.mono (by simp; omega))).setCell (by simp) _).setCell (by simp) _

set_option maxHeartbeats 4000000 in
theorem refPutInt_ok (a : Option Addr) (len cap : Nat) (x : Nat) (n : Int) (zs : List Nat) (w : World) (hB : Bs w a len zs) (hm : len ≤ 137438953472) (hx : x ≤ 1099511627000) (hcan : canB zs x = true) :
    Calls Tryd.prog 12 #[.agg #[.slice a len cap, .int .i64 x], .int .i64 n] w fun e w' =>
      ∃ v ys, e = .returned (.tuple #[.agg #[v, .int .i64 ((x + intLen n : Nat) : Int)], .int .i64 0]) ∧
        w'.ownsRow w.heap.size 5 1 v ys.length (vb ys) ∧ IsPack ys (bitsL zs x ++ intBits n) ∧ Below w.heap.size w w' := by
  obtain ⟨i0, hi, hz0, hz1, hz2⟩ := info_parts Tryd.info4
  have h0 : Below w.heap.size w ((w.alloc (.cells #[.slice a len cap, .int .i64 x] 24)).alloc (.cells #[.slice none 0 0, .int .i64 0] 24)) := ((Below.refl w.heap.size w).alloc (Nat.le_refl _) _).alloc (by simp) _
  have hB2 := hB.below h0
  have HC : Hid (canB zs x = true) := hcan
  clear hcan
  have hk4 := cls_le n
  have HML : Hid _ := marks_list (cls n) hk4
  have hMk := clsMarks_le (cls n)
  have hWk := clsWidth_le (cls n)
  obtain ⟨_, _, m3, m4⟩ := marks_ones (cls n) hk4
  have HM3 : Hid (cls n < 4 → clsMarks (cls n) = cls n + 1) := m3
  have HM4 : Hid (cls n = 4 → clsMarks (cls n) = 4) := m4
  have hu := u64_eq n
  have hul := u64_lt n
  clear m3 m4
  go_enter Tryd.func12, Tryd.ntmps12
  go_wp2_with fail
  refine (list_any a len cap x zs _ hB2 hm (by omega)).mono ?_
  rintro e w1 ⟨v, rfl, hown1, _, hb1⟩
  replace hown1 := hown1 HC.out
  rw [HC.out]
  rw [Int.toNat_natCast] at hown1
  have hz1' := hb1.size
  simp only [World.size_alloc] at hz1' hown1
  have hbB : Below (w.heap.size + 1 + 1) ((w.alloc (.cells #[.slice a len cap, .int .i64 x] 24)).alloc (.cells #[.slice none 0 0, .int .i64 0] 24)) w1 := by
    have := hb1
    rwa [World.size_alloc, World.size_alloc] at this
  clear hb1
  go_wp2_with fail
  refine (class_any n _).mono ?_
  rintro e w1 ⟨rfl, rfl⟩
  go_wp2
  go_loopw [6, 24] (fun ov iv wr => ∃ t : Nat, t ≤ cls n ∧ iv = .int .i64 t ∧ wr.ownsRow (w.heap.size + 1 + 1) 4 1 ov (x + t) (vt (bitsL zs x ++ List.replicate t true)) ∧ Below (w.heap.size + 1 + 1) ((w.alloc (.cells #[.slice a len cap, .int .i64 x] 24)).alloc (.cells #[.slice none 0 0, .int .i64 0] 24)) wr) (fun _ iv _ => cls n - (intOf iv).toNat)
  case atStart => exact ⟨0, Nat.zero_le _, rfl, by simpa using hown1, hbB⟩
  case round =>
    obtain ⟨t, ht, rfl, hown, hbel⟩ := hrel
    have hsz := hbel.size
    simp only [World.size_alloc] at hsz
    clear hown1 hbB
    by_cases hlt : t < cls n
    · go_wp2_with (at_builtin; refine wpList_append_own _ rfl _ _ 44 rfl (w.heap.size + 1 + 1) 4 i0 (.bool false) 1 1 Tryd.underlying44 hi hz0 hz1 hz2 rfl (by decide) _ (x + t) _ rfl (hown.alloc _) ⟨wr.heap.size, 0, none⟩ 1 1 [.bool true] rfl rfl ?c1 ?c2 ?c3 ?c4 ?c5 ?_)
      case c1 =>
        intro j u hj
        match j, hj with
        | 0, hj => simp at hj; subst hj; simp [Addr.add]
      case c2 => intro u hu; simp at hu; subst hu; rfl
      case c3 => unfold maxLen; omega
      case c4 => omega
      case c5 => simp; omega
      intro v' w2 hown2 hgrow2 _
      rw [vt_app, List.append_assoc, ← List.replicate_succ'] at hown2
      have hb2 := (hbel.alloc (by omega) _).grown hgrow2 (by simp; omega) (by
        intro g hg
        rcases hown.2 with ⟨rfl, _⟩ | ⟨g', cap', cur, rfl, hg', _⟩
        · simp [Value.ownBlock] at hg
        · simp [Value.ownBlock] at hg; omega)
      clear hown hgrow2
      go_wp2
      go_roundw
      case rel => exact ⟨t + 1, by omega, by go_num, hown2, hb2⟩
      case measure => simp [intOf]; omega
    · have hte : t = cls n := by omega
      have HT : Hid (t = cls n) := hte
      clear hte
      by_cases h4 : cls n < 4
      · have b4 : decide (((cls n : Nat) : Int) < 4) = true := decide_eq_true (by omega)
        go_wp2_with (at_builtin; refine wpList_append_own _ rfl _ _ 44 rfl (w.heap.size + 1 + 1) 4 i0 (.bool false) 1 1 Tryd.underlying44 hi hz0 hz1 hz2 rfl (by decide) _ (x + t) _ rfl (hown.alloc _) ⟨wr.heap.size, 0, none⟩ 1 1 [.bool false] rfl rfl ?d1 ?d2 ?d3 ?d4 ?d5 ?_)
        case d1 =>
          intro j u hj
          match j, hj with
          | 0, hj => simp at hj; subst hj; simp [Addr.add]
        case d2 => intro u hu; simp at hu; subst hu; rfl
        case d3 => unfold maxLen; omega
        case d4 => omega
        case d5 => simp; omega
        intro v' w2 hown2 hgrow2 _
        have hl2 : Hid (lowBits (clsMark (cls n)) (clsMarks (cls n)) = List.replicate t true ++ [false]) := by
          show _ = _
          rw [HML.out, if_pos h4, HT.out]
        rw [vt_app, List.append_assoc, ← hl2.out, show x + t + 1 = x + clsMarks (cls n) from by have := HM3.out h4; have := HT.out; omega] at hown2
        have hb2 := (hbel.alloc (by omega) _).grown hgrow2 (by simp; omega) (by
          intro g hg
          rcases hown.2 with ⟨rfl, _⟩ | ⟨g', cap', cur, rfl, hg', _⟩
          · simp [Value.ownBlock] at hg
          · simp [Value.ownBlock] at hg; omega)
        have hsz2 := hb2.size
        simp only [World.size_alloc] at hsz2
        clear hown hgrow2 hbel
        go_wp2_with fail
        refine (add_any v' (x + clsMarks (cls n)) (u64 n) (clsWidth (cls n)) (w.heap.size + 1 + 1) _ _ hown2 (by omega) hul hWk (by omega)).mono ?_
        rintro e w3 ⟨v3, rfl, hown3, hb3⟩
        go_wp2_with fail
        rw [List.append_assoc] at hown3
        refine (pack_any v3 (x + clsMarks (cls n) + clsWidth (cls n)) (w.heap.size + 1 + 1) _ _ hown3 (by omega)).mono ?_
        rintro e w4 ⟨v4, ys, rfl, hown4, hpk, hb4⟩
        have hb3' := hb2.trans hb3
        have hz3 := hb3'.size
        simp only [World.size_alloc] at hz3
        have hb4' := hb3'.trans (hb4.mono (by omega))
        have r0 : w4.cell? ⟨w.heap.size + 1, 0, none⟩ = some (.slice none 0 0) := (hb4'.cell (by simp)).trans (by simp)
        have r1 : w4.cell? ⟨w.heap.size + 1, 1, none⟩ = some (.int .i64 0) := (hb4'.cell (by simp)).trans (by simp)
        have f0 : w4.frozen? ⟨w.heap.size + 1, 0, none⟩ = false := (hb4'.frozen (by simp)).trans (by simp)
        have f1 : w4.frozen? ⟨w.heap.size + 1, 1, none⟩ = false := (hb4'.frozen (by simp)).trans (by simp)
        have hbw := h0.trans (hb4'.mono (by omega))
        obtain ⟨ao, lo, hv⟩ := own_shape' hown4
        rw [hv] at hown4 ⊢
        rw [show x + clsMarks (cls n) + clsWidth (cls n) = x + intLen n from by unfold intLen; omega]
        clear hown2 hown3 hb2 hb3 hb4 hb3' hb4' hB hB2
        go_wp2
        refine bodyPost_ret (v := .tuple #[.agg #[.slice ao ys.length lo, .int .i64 ((x + intLen n : Nat) : Int)], .int .i64 0]) (by simp [results, Tryd.results12, go_sem, r0, r1]) rfl ⟨_, ys, rfl, ?_, hpk, (hbw.setCell (by simp) _).setCell (by simp) _⟩
        exact own_mono (ownsRow_setCell_below (ownsRow_setCell_below hown4 (by simp; omega) _) (by simp; omega) _) (by omega)
      · have b4 : decide (((cls n : Nat) : Int) < 4) = false := decide_eq_false (by omega)
        have hl2 : Hid (lowBits (clsMark (cls n)) (clsMarks (cls n)) = List.replicate t true) := by
          show _ = _
          rw [HML.out, if_neg h4, HT.out, List.append_nil]
        rw [← hl2.out, show x + t = x + clsMarks (cls n) from by have := HM4.out (by omega); have := HT.out; omega] at hown
        obtain ⟨av, cv, hv⟩ := own_shape' hown
        subst hv
        go_wp2_with fail
        refine (add_any _ (x + clsMarks (cls n)) (u64 n) (clsWidth (cls n)) (w.heap.size + 1 + 1) _ _ hown (by omega) hul hWk (by omega)).mono ?_
        rintro e w3 ⟨v3, rfl, hown3, hb3⟩
        go_wp2_with fail
        rw [List.append_assoc] at hown3
        refine (pack_any v3 (x + clsMarks (cls n) + clsWidth (cls n)) (w.heap.size + 1 + 1) _ _ hown3 (by omega)).mono ?_
        rintro e w4 ⟨v4, ys, rfl, hown4, hpk, hb4⟩
        have hb3' := hbel.trans hb3
        have hz3 := hb3'.size
        simp only [World.size_alloc] at hz3
        have hb4' := hb3'.trans (hb4.mono (by omega))
        have r0 : w4.cell? ⟨w.heap.size + 1, 0, none⟩ = some (.slice none 0 0) := (hb4'.cell (by simp)).trans (by simp)
        have r1 : w4.cell? ⟨w.heap.size + 1, 1, none⟩ = some (.int .i64 0) := (hb4'.cell (by simp)).trans (by simp)
        have f0 : w4.frozen? ⟨w.heap.size + 1, 0, none⟩ = false := (hb4'.frozen (by simp)).trans (by simp)
        have f1 : w4.frozen? ⟨w.heap.size + 1, 1, none⟩ = false := (hb4'.frozen (by simp)).trans (by simp)
        have hbw := h0.trans (hb4'.mono (by omega))
        obtain ⟨ao, lo, hv⟩ := own_shape' hown4
        rw [hv] at hown4 ⊢
        rw [show x + clsMarks (cls n) + clsWidth (cls n) = x + intLen n from by unfold intLen; omega]
        clear hown hown3 hbel hb3 hb4 hb3' hb4' hB hB2
        go_wp2
        refine bodyPost_ret (v := .tuple #[.agg #[.slice ao ys.length lo, .int .i64 ((x + intLen n : Nat) : Int)], .int .i64 0]) (by simp [results, Tryd.results12, go_sem, r0, r1]) rfl ⟨_, ys, rfl, ?_, hpk, (hbw.setCell (by simp) _).setCell (by simp) _⟩
        exact own_mono (ownsRow_setCell_below (ownsRow_setCell_below hown4 (by simp; omega) _) (by simp; omega) _) (by omega)
end Go.Proofs.YtdpoiodaonhjiabDoor
