/- chunk.Can. -/
import Derived.Test.YtcjhkpcnhnnjbaaDoorChA
import Derived.Test.YtcjhkpcnhnnjbaaDoorLabCmpL
import Derived.Deep.QuietTactic
import Derived.BigQuiet
namespace Go.Proofs.YtcjhkpcnhnnjbaaDoor
open Go.RowKit Go.Joins
open Cd (Sam Sm canS encS samD SamOK IsPack BitsTab DbTab)
set_option linter.unusedVariables false
def lsAt (l : List (List Lab × List Sam)) (i : Nat) : List Lab := (l.getD i ([], [])).1
def smAt (l : List (List Lab × List Sam)) (i : Nat) : List Sam := (l.getD i ([], [])).2
def serAt (l : List (List Lab × List Sam)) (i : Nat) : Bool := canOK (lsAt l i) && (decide (0 < (smAt l i).length) && (canS (smAt l i) && (decide (i = 0) || decide (cmpL (lsAt l (i - 1)) (lsAt l i) < 0))))
/-- Whether series may stand in a stream. -/
def canSr (l : List (List Lab × List Sam)) : Bool := (List.range l.length).all (serAt l)
def Ser.pl (s : Ser) : List Lab × List Sam := (s.ls, s.sm)
theorem lsAt_map {l : List Ser} {i : Nat} {s : Ser} (h : l[i]? = some s) : lsAt (l.map Ser.pl) i = s.ls ∧ smAt (l.map Ser.pl) i = s.sm := by
  unfold lsAt smAt
  rw [List.getD_eq_getElem?_getD, List.getElem?_map, h]
  exact ⟨rfl, rfl⟩
theorem canSr_take (l : List (List Lab × List Sam)) (k : Nat) (hk : k < l.length) (h : serAt l k = false) : canSr l = false := by
  rw [Bool.eq_false_iff]
  intro e
  have := List.all_eq_true.1 e k (List.mem_range.2 hk)
  rw [h] at this
  cases this
set_option maxHeartbeats 4000000 in
set_option maxRecDepth 100000 in
theorem canSr_any (a : Option Addr) (len cap : Nat) (l : List Ser) (w : World) (h : Srs w a len l) :
    Calls Tryd.prog 13 #[.slice a len cap] w fun e w' => e = .returned (.bool (canSr (l.map Ser.pl))) ∧ Below w.heap.size w w' := by
  have hlen := hidn h.1
  have hlm := h.2.1
  unfold maxLen at hlm
  obtain ⟨Z, hZ⟩ : ∃ Z, Z = canSr (l.map Ser.pl) := ⟨_, rfl⟩
  rw [← hZ]
  have HZ := hidn hZ
  clear hZ
  go_enter Tryd.func13, Tryd.ntmps13
  go_wp2_with fail
  go_loopw [7] (fun iv wr => ∃ j : Nat, iv = .int .i64 (j : Int) ∧ j ≤ len ∧ Below w.heap.size w wr ∧ Hid (∀ i, i < j → serAt (l.map Ser.pl) i = true)) (fun iv _ => len - (intOf iv).toNat)
  case atStart => exact ⟨0, rfl, Nat.zero_le _, Below.refl _ _, hidn (fun i hi => by omega)⟩
  case round =>
    obtain ⟨j, rfl, hj, hb, hall⟩ := hrel
    by_cases hlt : j < len
    · have hlt2 : (j : Int) < (len : Int) := by omega
      obtain ⟨s, hs⟩ : ∃ s, l[j]? = some s := ⟨_, List.getElem?_eq_getElem (by rw [hlen.out]; exact hlt)⟩
      obtain ⟨b, off, rfl, hbk, c0, c1, hok⟩ := (h.below hb).at hs
      have hno : Hid (serAt (l.map Ser.pl) j = false → Z = false) := hidn (fun e => by rw [HZ.out]; exact canSr_take _ j (by rw [List.length_map, hlen.out]; exact hlt) e)
      have hst : Hid (serAt (l.map Ser.pl) j = (canOK s.ls && (decide (0 < s.sm.length) && (canS s.sm && (decide (j = 0) || decide (cmpL (lsAt (l.map Ser.pl) (j - 1)) s.ls < 0)))))) := hidn (by
        unfold serAt; rw [(lsAt_map hs).1, (lsAt_map hs).2])
      have hnx : Hid (serAt (l.map Ser.pl) j = true → ∀ i, i < j + 1 → serAt (l.map Ser.pl) i = true) := hidn (fun e i hi => by
        by_cases hij : i = j
        · rw [hij]; exact e
        · exact hall.out i (by omega))
      have HPRE : Hid (∀ i, j = i + 1 → ∃ q, l[i]? = some q ∧ lsAt (l.map Ser.pl) (j - 1) = q.ls) := hidn (fun i hi => by
        obtain ⟨q, hq⟩ : ∃ q, l[i]? = some q := ⟨_, List.getElem?_eq_getElem (by rw [hlen.out]; omega)⟩
        refine ⟨q, hq, ?_⟩
        rw [show j - 1 = i from by omega]
        exact (lsAt_map hq).1)
      generalize serAt (l.map Ser.pl) j = sj at *
      clear hs hall
      obtain ⟨la, ll, lc, ls, sa, sl, sc, sm⟩ := s
      obtain ⟨hL, hll, hS, hsc, hscm⟩ := hok
      simp only at c0 c1 hL hll hS hsc hscm hst
      obtain ⟨wA, hwA⟩ : ∃ wA, wA = wr.alloc (.cells #[.slice la ll lc, .slice sa sl sc] 55) := ⟨_, rfl⟩
      have bA : Below wr.heap.size wr wA := by rw [hwA]; exact (Below.refl _ wr).alloc (Nat.le_refl _) _
      have qA : wA.heap[wr.heap.size]? = some (.cells #[.slice la ll lc, .slice sa sl sc] 55 (0, 0)) := by rw [hwA]; exact heap_alloc_new wr _
      have BA := hb.trans (bA.mono hb.size)
      have HCL := hidn (can_any la ll lc ls wA (hL.below bA) hll)
      have HWA := hidn hwA
      clear hwA
      generalize canOK ls = cl at *
      go_wp2_with fail
      rw [← HWA.out]
      refine HCL.out.mono ?_
      rintro e w1 ⟨rfl, b1⟩
      have B1 := BA.trans (b1.mono BA.size)
      have q1 := (b1.block _ (Array.getElem?_eq_some_iff.1 qA).1).trans qA
      have d0 : w1.cell? ⟨wr.heap.size, 0, none⟩ = some (.slice la ll lc) := cell_of_row _ _ _ _ _ _ q1
      have d1 : w1.cell? ⟨wr.heap.size, 1, none⟩ = some (.slice sa sl sc) := cell_of_row _ _ _ _ _ _ q1
      cases cl with
      | false =>
        have hx : Hid (Z = false) := hidn (hno.out (by rw [hst.out]; rfl))
        go_wp2_with fail
        exact bodyPost_ret (v := .bool false) (by simp [results, Tryd.results13, go_sem]) rfl ⟨by rw [hx.out], B1⟩
      | true =>
        by_cases s0 : sl = 0
        · have hx : Hid (Z = false) := hidn (hno.out (by rw [hst.out, decide_eq_false (show ¬ 0 < sm.length by rw [hS.1]; omega)]; rfl))
          subst s0
          go_wp2_with fail
          exact bodyPost_ret (v := .bool false) (by simp [results, Tryd.results13, go_sem]) rfl ⟨by rw [hx.out], B1⟩
        · have s1 : ((sl : Int) == 0) = false := beq_eq_false_iff_ne.2 (by omega)
          have hst2 : Hid (sj = (canS sm && (decide (j = 0) || decide (cmpL (lsAt (l.map Ser.pl) (j - 1)) ls < 0)))) := hidn (by rw [hst.out, decide_eq_true (show 0 < sm.length by rw [hS.1]; omega)]; rfl)
          have HCS := hidn (Cd.scan_any sa sl sc sm w1 ((hS.below bA).below b1))
          clear hst s0
          generalize canS sm = cs at *
          go_wp2_with fail
          refine HCS.out.mono ?_
          rintro e w2 ⟨rfl, b2⟩
          have B2 := B1.trans (b2.mono B1.size)
          have q2 := (b2.block _ (Array.getElem?_eq_some_iff.1 q1).1).trans q1
          have e0 : w2.cell? ⟨wr.heap.size, 0, none⟩ = some (.slice la ll lc) := cell_of_row _ _ _ _ _ _ q2
          cases cs with
          | false =>
            have hx : Hid (Z = false) := hidn (hno.out (by rw [hst2.out]; rfl))
            go_wp2_with fail
            exact bodyPost_ret (v := .bool false) (by simp [results, Tryd.results13, go_sem]) rfl ⟨by rw [hx.out], B2⟩
          | true =>
            cases j with
            | zero =>
              have hx : Hid (∀ i, i < 0 + 1 → serAt (l.map Ser.pl) i = true) := hidn (hnx.out (by rw [hst2.out]; rfl))
              go_wp2_with fail
              go_quiet (fail)
              go_wp2_with fail
              exact ⟨⟨1, by simp, by omega, below_drewN B2 _, hx⟩, by simp [intOf]; omega⟩
            | succ i =>
              obtain ⟨q, hq, hql⟩ := HPRE.out i rfl
              obtain ⟨b', off', e', hbk', p0, _, hok'⟩ := (h.below B2).at hq
              cases e'
              have HCM := hidn (compare_any q.la q.ll q.lc q.ls la ll lc ls w2.drew (hok'.1.below ((Below.refl _ w2).drew)) ((((hL.below bA).below b1).below b2).below ((Below.refl _ w2).drew)) hok'.2.1 hll)
              have hst3 : Hid (sj = decide (cmpL q.ls ls < 0)) := hidn (by rw [hst2.out, hql]; simp)
              obtain ⟨qa, ql, qc, hqc⟩ : ∃ qa ql qc, (Value.slice q.la q.ll q.lc) = .slice qa ql qc := ⟨_, _, _, rfl⟩
              generalize cmpL q.ls ls = cc at *
              have hen : ∀ args w, (callFunc 36 args).run Tryd.prog w = .ok (.enter 36 args) w := enters_of Tryd.func36 (by kernel_rfl) rfl
              have hi0 : ((i + 1 : Nat) : Int) = (i : Int) + 1 := by omega
              have hgt : decide (0 < (i : Int) + 1) = true := decide_eq_true (by omega)
              have hil : (i : Int) < (len : Int) := by omega
              have hil2 : i < len := by omega
              rw [hi0]
              clear c0 c1 hst2
              go_wp2_with fail
              refine wp_region_noPanic ?_
              refine wp_region_held_drew (S := fun w' => w'.cell? ⟨b, off + i * 2, none⟩ = some (.slice q.la q.ll q.lc) ∧ w'.cell? ⟨wr.heap.size, 0, none⟩ = some (.slice la ll lc)) (by kernel_rfl) (⟨p0, e0⟩) (fun hHeld => ?_)
              refine drawn_take (i := 0) (v := .int .i64 ((i : Int) + 1)) (some 28) rfl rfl (by kernel_rfl) (by kernel_rfl) (by kernel_rfl) (fun _ _ _ h => h) (Or.inl ⟨by kernel_rfl, fun wq hw => by go_simp⟩) hHeld ?_
              simp only [Act.put, List.setIfInBounds_toArray, List.set_cons_succ, List.set_cons_zero]
              refine drawn_take (i := 1) (v := .bool true) (some 29) rfl rfl (by kernel_rfl) (by kernel_rfl) (by kernel_rfl) (fun _ _ _ h => h) (Or.inl ⟨by kernel_rfl, fun wq hw => by go_simp⟩) hHeld ?_
              simp only [Act.put, List.setIfInBounds_toArray, List.set_cons_succ, List.set_cons_zero]
              refine drawn_take (i := 2) (v := .bool true) (some 30) rfl rfl (by kernel_rfl) (by kernel_rfl) (by kernel_rfl) (fun _ _ _ h => h) (Or.inl ⟨by kernel_rfl, fun wq hw => by go_simp⟩) hHeld ?_
              simp only [Act.put, List.setIfInBounds_toArray, List.set_cons_succ, List.set_cons_zero]
              refine drawn_take (i := 3) (v := .slice (some ⟨b, off, none⟩) len cap) (some 31) rfl rfl (by kernel_rfl) (by kernel_rfl) (by kernel_rfl) (fun _ _ _ h => h) (Or.inl ⟨by kernel_rfl, fun wq hw => by go_simp⟩) hHeld ?_
              simp only [Act.put, List.setIfInBounds_toArray, List.set_cons_succ, List.set_cons_zero]
              refine drawn_take (i := 4) (v := .int .i64 ((i : Int) + 1)) (some 32) rfl rfl (by kernel_rfl) (by kernel_rfl) (by kernel_rfl) (fun _ _ _ h => h) (Or.inl ⟨by kernel_rfl, fun wq hw => by go_simp⟩) hHeld ?_
              simp only [Act.put, List.setIfInBounds_toArray, List.set_cons_succ, List.set_cons_zero]
              refine drawn_take (i := 5) (v := .int .i64 (i : Int)) (some 33) rfl rfl (by kernel_rfl) (by kernel_rfl) (by kernel_rfl) (fun _ _ _ h => h) (Or.inl ⟨by kernel_rfl, fun wq hw => by go_simp; rw [IntKind.wrap_i64]; omega⟩) hHeld ?_
              simp only [Act.put, List.setIfInBounds_toArray, List.set_cons_succ, List.set_cons_zero]
              refine drawn_take (i := 6) (v := .pointer (some ⟨b, off + i * 2, none⟩)) (some 34) rfl rfl (by kernel_rfl) (by kernel_rfl) (by kernel_rfl) (fun _ _ _ h => h) (Or.inl ⟨by kernel_rfl, fun wq hw => by go_simp⟩) hHeld ?_
              simp only [Act.put, List.setIfInBounds_toArray, List.set_cons_succ, List.set_cons_zero]
              refine drawn_take (i := 7) (v := .pointer (some ⟨b, off + i * 2, none⟩)) (some 35) rfl rfl (by kernel_rfl) (by kernel_rfl) (by kernel_rfl) (fun _ _ _ h => h) (Or.inl ⟨by kernel_rfl, fun wq hw => by go_simp⟩) hHeld ?_
              simp only [Act.put, List.setIfInBounds_toArray, List.set_cons_succ, List.set_cons_zero]
              refine drawn_take (i := 8) (v := .slice q.la q.ll q.lc) (some 36) rfl rfl (by kernel_rfl) (by kernel_rfl) (by kernel_rfl) (fun _ _ _ h => h) (Or.inl ⟨by kernel_rfl, fun wq hw => by obtain ⟨g1, g2⟩ := hw; go_simp⟩) hHeld ?_
              simp only [Act.put, List.setIfInBounds_toArray, List.set_cons_succ, List.set_cons_zero]
              refine drawn_take (i := 9) (v := .pointer (some ⟨wr.heap.size, 0, none⟩)) (some 37) rfl rfl (by kernel_rfl) (by kernel_rfl) (by kernel_rfl) (fun _ _ _ h => h) (Or.inl ⟨by kernel_rfl, fun wq hw => by go_simp⟩) hHeld ?_
              simp only [Act.put, List.setIfInBounds_toArray, List.set_cons_succ, List.set_cons_zero]
              refine drawn_take (i := 10) (v := .slice la ll lc) (some 38) rfl rfl (by kernel_rfl) (by kernel_rfl) (by kernel_rfl) (fun _ _ _ h => h) (Or.inl ⟨by kernel_rfl, fun wq hw => by obtain ⟨g1, g2⟩ := hw; go_simp⟩) hHeld ?_
              simp only [Act.put, List.setIfInBounds_toArray, List.set_cons_succ, List.set_cons_zero]
              refine wpAnyH_ready (rs := [11]) (by kernel_rfl) (by simp) ?_
              refine rdy_callw (i := 11) rfl (by kernel_rfl) (some 39) rfl 36 #[.slice q.la q.ll q.lc, .slice la ll lc] (call2_run (x := 36) (y := 38) (ts := #[39, 39]) (by kernel_rfl) hen (by kernel_rfl) (by kernel_rfl)) (fun v w' => v = .int .i64 cc ∧ Below w2.heap.size w2 w') (HCM.out.mono fun e w' h => ⟨_, h.1, rfl, ((Below.refl _ w2).drew).trans h.2⟩) (fun r w9 hR => ?_) rdy_nil
              obtain ⟨rfl, b9⟩ := hR
              refine ⟨⟨(b9.cell (p := ⟨b, off + i * 2, none⟩) hbk').trans p0, (b9.cell (p := ⟨wr.heap.size, 0, none⟩) (Array.getElem?_eq_some_iff.1 q2).1).trans e0⟩, fun hHeld => ?_⟩
              simp only [Act.put, List.setIfInBounds_toArray, List.set_cons_succ, List.set_cons_zero]
              have B9 := B2.trans (b9.mono B2.size)
              by_cases hcc : 0 ≤ cc
              · have hx : Hid (Z = false) := hidn (hno.out (by rw [hst3.out]; simp; omega))
                refine drawn_take (i := 12) (v := .bool true) (some 40) rfl rfl (by kernel_rfl) (by kernel_rfl) (by kernel_rfl) (fun _ _ _ h => h) (Or.inl ⟨by kernel_rfl, fun wq hw => by go_simp⟩) hHeld ?_
                simp only [Act.put, List.setIfInBounds_toArray, List.set_cons_succ, List.set_cons_zero]
                refine drawn_take (i := 13) (v := .bool true) (some 41) rfl rfl (by kernel_rfl) (by kernel_rfl) (by kernel_rfl) (fun _ _ _ h => h) (Or.inl ⟨by kernel_rfl, fun wq hw => by go_simp⟩) hHeld ?_
                simp only [Act.put, List.setIfInBounds_toArray, List.set_cons_succ, List.set_cons_zero]
                refine wpAnyH_done (by kernel_rfl) ?_ _
                refine NoPanic.normal ?_
                clear hHeld
                go_wp2_with fail
                exact bodyPost_ret (v := .bool false) (by simp [results, Tryd.results13, go_sem]) rfl ⟨by rw [hx.out], B9⟩
              · have hx : Hid (∀ k, k < i + 1 + 1 → serAt (l.map Ser.pl) k = true) := hidn (hnx.out (by rw [hst3.out]; simp; omega))
                refine drawn_take (i := 12) (v := .bool false) (some 40) rfl rfl (by kernel_rfl) (by kernel_rfl) (by kernel_rfl) (fun _ _ _ h => h) (Or.inl ⟨by kernel_rfl, fun wq hw => by go_simp⟩) hHeld ?_
                simp only [Act.put, List.setIfInBounds_toArray, List.set_cons_succ, List.set_cons_zero]
                refine drawn_take (i := 13) (v := .bool false) (some 41) rfl rfl (by kernel_rfl) (by kernel_rfl) (by kernel_rfl) (fun _ _ _ h => h) (Or.inl ⟨by kernel_rfl, fun wq hw => by go_simp⟩) hHeld ?_
                simp only [Act.put, List.setIfInBounds_toArray, List.set_cons_succ, List.set_cons_zero]
                refine wpAnyH_done (by kernel_rfl) ?_ _
                refine NoPanic.normal ?_
                clear hHeld
                go_wp2_with fail
                exact ⟨⟨i + 1 + 1, by simp, by omega, B9, hx⟩, by simp [intOf]; omega⟩
    · have hlt2 : ¬ (j : Int) < (len : Int) := by omega
      have hZt : Hid (Z = true) := hidn (by
        rw [HZ.out]
        unfold canSr
        rw [List.all_eq_true]
        intro i hi
        have := List.mem_range.1 hi
        rw [List.length_map, hlen.out] at this
        exact hall.out i (by omega))
      go_wp2_with fail
      exact bodyPost_ret (v := .bool true) (by simp [results, Tryd.results13, go_sem]) rfl ⟨by rw [hZt.out], hb⟩
end Go.Proofs.YtcjhkpcnhnnjbaaDoor
