/- dryrotplain.Few: series cut to few, over the caller's own labels and samples. -/
import Derived.Test.YtcjhkpcnhnnjbaaDoorMf
import Derived.Test.YtcjhkpcnhnnjbaaDoorAppK
namespace Go.Proofs.YtcjhkpcnhnnjbaaDoor
open Go.RowKit Go.Joins
open Cd (Sam Sm canS encS samD SamOK IsPack BitsTab DbTab)
set_option linter.unusedVariables false
def svs (l : List Ser) : List Value := (l.map Ser.cells).flatten
theorem svs_cons (s : Ser) (l : List Ser) : svs (s :: l) = .slice s.la s.ll s.lc :: .slice s.sa s.sl s.sc :: svs l := rfl
theorem svs_length (l : List Ser) : (svs l).length = l.length * 2 := by
  induction l with
  | nil => rfl
  | cons d t ih => rw [svs_cons]; simp only [List.length_cons, ih]; omega
theorem svs_append (l m : List Ser) : svs (l ++ m) = svs l ++ svs m := by simp [svs]
theorem svs_get (l : List Ser) : ∀ (j : Nat) (d : Ser), l[j]? = some d → ∀ k v, d.cells[k]? = some v → (svs l)[j * 2 + k]? = some v := by
  induction l with
  | nil => intro j s h; simp at h
  | cons x t ih =>
    intro j s h k v hk
    rw [svs_cons]
    cases j with
    | zero =>
      simp at h
      subst h
      have : k < 2 := (List.getElem?_eq_some_iff.1 hk).1
      match k, this with
      | 0, _ => simpa [Ser.cells] using hk
      | 1, _ => simpa [Ser.cells] using hk
    | succ j =>
      have := ih j s (by simpa using h) k v hk
      rw [show (j + 1) * 2 + k = (j * 2 + k) + 2 from by omega]
      exact this
theorem seInfo : ∃ i0 z, Tryd.prog.info? 55 = some i0 ∧ i0.zero = some z ∧ i0.size = 2 ∧ i0.bytes = 48 ∧ z.cells.size = 2 := by
  have h : (Tryd.prog.info? 55).map (fun i => (i.zero, i.size, i.bytes)) = some (some (.agg #[.slice none 0 0, .slice none 0 0]), 2, 48) := by kernel_rfl
  cases hi : Tryd.prog.info? 55 with
  | none => rw [hi] at h; cases h
  | some i0 =>
    rw [hi] at h
    simp only [Option.map_some, Option.some.injEq, Prod.mk.injEq] at h
    exact ⟨i0, _, rfl, h.1, h.2.1, h.2.2, rfl⟩
/-- A row of series of one's own, whose labels and samples lie elsewhere. -/
theorem srs_of_own {w : World} {base : Nat} {v : Value} {l : List Ser} (h : w.ownsRow base 55 2 v l.length (svs l)) (hk : ∀ s ∈ l, s.ok w) : ∃ a c, v = .slice a l.length c ∧ Srs w a l.length l := by
  have h' := h
  rcases h.2 with ⟨rfl, h0⟩ | ⟨g, cap, cur, rfl, hg, hh, hnc, hcm, hcs, htk⟩
  · rw [h0]
    exact ⟨none, 0, rfl, h0, Nat.zero_le _, fun _ => rfl, hk, fun x hx => by cases hx⟩
  · refine ⟨_, cap, rfl, rfl, by omega, (fun h => by cases h), hk, fun x hx j d hd k v hv => ?_⟩
    cases hx
    exact h'.cells (g := g) rfl _ _ (svs_get l j d hd k v hv)
/-- A series cut to so many samples. -/
def Ser.cut (s : Ser) (m : Nat) : Ser := { s with sl := min s.sl m, sm := s.sm.take m }
theorem Ser.cut_ok {w : World} {s : Ser} (h : s.ok w) (m : Nat) : (s.cut m).ok w := by
  obtain ⟨h1, h2, h3, h4, h5⟩ := h
  obtain ⟨g1, g2, g3, g4, g5⟩ := h3
  have hD : ∀ j, j < min s.sl m → samD (s.sm.take m) j = samD s.sm j := by
    intro j hj
    unfold samD
    rw [List.getD_eq_getElem?_getD, List.getD_eq_getElem?_getD, List.getElem?_take, if_pos (by omega)]
  refine ⟨h1, h2, ⟨?_, ?_, ?_, ?_, ?_⟩, ?_, h5⟩
  · show (s.sm.take m).length = min s.sl m
    rw [List.length_take, g1]; omega
  · show min s.sl m ≤ maxLen
    omega
  · intro i
    show SamOK (samD (s.sm.take m) i)
    by_cases hi : i < min s.sl m
    · rw [hD i hi]; exact g3 _
    · unfold samD
      rw [List.getD_eq_getElem?_getD, List.getElem?_eq_none (by rw [List.length_take, g1]; omega)]
      exact Cd.samOK_zero
  · intro e
    show min s.sl m = 0
    have := g4 e
    omega
  · intro x hx j hj
    have hj' : j < min s.sl m := hj
    show w.cell? (x.add (j * 2)) = some (.int .i64 (samD (s.sm.take m) j).t) ∧ w.cell? (x.add (j * 2 + 1)) = some (.int .u64 (samD (s.sm.take m) j).v)
    rw [hD j hj']
    exact g5 x hx j (by omega)
  · show min s.sl m ≤ s.sc
    omega
def fewL (l : List Ser) (most m : Nat) : List Ser := ((l.take most).filter fun s => decide (s.ll ≤ 10)).map fun s => s.cut m
theorem fewL_step (l : List Ser) (most m j : Nat) (s : Ser) (h : l[j]? = some s) : fewL (l.take (j + 1)) most m = fewL (l.take j) most m ++ (if j < most ∧ s.ll ≤ 10 then [s.cut m] else []) := by
  unfold fewL
  rw [List.take_take, List.take_take]
  by_cases hj : j < most
  · rw [Nat.min_eq_right (by omega), Nat.min_eq_right (by omega), List.take_add_one, h, List.filter_append, List.map_append]
    by_cases hl : s.ll ≤ 10
    · simp [hl, hj]
    · simp [hl]
  · rw [Nat.min_eq_left (by omega), Nat.min_eq_left (by omega)]
    simp [hj]
theorem fewL_nil (most m : Nat) : fewL [] most m = [] := by simp [fewL]
theorem app_runC {o : Oper} {a : Act} {w w' : World} {t u : TypeId} {x y : Operand} {vx vy v : Value} (ho : o.op = .call { callee := .builtin .append, args := #[x, y], argTypes := #[t, u] }) (hx : a.eval x = vx) (hy : a.eval y = vy) (hr : (Builtin.append_ #[t, u] o.type #[vx, vy]).run Tryd.prog w = .ok v w') : (execOp a.eval o).run Tryd.prog w = .ok (.value v) w' := by
  simp [execOp, ho, resolve, invoke, builtin, hx, hy, hr, Result.andThen]
def FewP (w : World) (L : List Ser) (e : Ending) (w' : World) : Prop := ∃ v, e = .returned v ∧ w'.ownsRow w.heap.size 55 2 v L.length (svs L) ∧ Below w.heap.size w w'
theorem fewL_len (l : List Ser) (most m : Nat) : (fewL l most m).length ≤ most := by
  unfold fewL
  rw [List.length_map]
  exact Nat.le_trans (List.length_filter_le _ _) (by rw [List.length_take]; omega)
set_option maxHeartbeats 4000000 in
set_option maxRecDepth 100000 in
theorem few_any (a : Option Addr) (len cap most m : Nat) (l : List Ser) (w : World) (h : Srs w a len l) (hm : most ≤ 1000) (hmm : m ≤ 1000) :
    Calls Tryd.prog 9 #[.slice a len cap, .int .i64 (most : Int), .int .i64 (m : Int)] w (FewP w (fewL l most m)) := by
  obtain ⟨i0, z, hi, hz0, hz1, hz2, hzc⟩ := seInfo
  have hlen := hidn h.1
  have hlm := h.2.1
  unfold maxLen at hlm
  go_enter Tryd.func9, Tryd.ntmps9
  go_wp2_with fail
  go_loopw [7, 12] (fun hv iv wr => ∃ (j : Nat) (v : Value), j ≤ len ∧ iv = .int .i64 (j : Int) ∧ hv = v ∧ Hid (wr.ownsRow w.heap.size 55 2 v (fewL (l.take j) most m).length (svs (fewL (l.take j) most m))) ∧ Below w.heap.size w wr) (fun _ iv _ => len - (intOf iv).toNat)
  case atStart => exact ⟨0, _, Nat.zero_le _, rfl, rfl, hidn (by rw [List.take_zero, fewL_nil]; exact World.ownsRow_nil _ _ _ _), Below.refl _ _⟩
  case round =>
    obtain ⟨j, v, hj, rfl, rfl, hO, hb⟩ := hrel
    by_cases hlt : j < len
    · have hlt2 : (j : Int) < (len : Int) := by omega
      obtain ⟨s, hs⟩ : ∃ s, l[j]? = some s := ⟨_, List.getElem?_eq_getElem (by rw [hlen.out]; exact hlt)⟩
      obtain ⟨b, off, rfl, hbk, c0, c1, hok⟩ := (h.below hb).at hs
      have hst := hidn (fewL_step l most m j s hs)
      have hfl := fewL_len (l.take j) most m
      clear hs
      obtain ⟨L, hL⟩ : ∃ L, L = fewL (l.take j) most m := ⟨_, rfl⟩
      rw [← hL] at hO hst hfl
      clear hL
      obtain ⟨la, ll, lc, ls, sa, sl, sc, sm⟩ := s
      obtain ⟨hLs, hll, hS, hsc, hscm⟩ := hok
      simp only at c0 c1 hst hsc hscm
      obtain ⟨wA, hwA⟩ : ∃ wA, wA = wr.alloc (.cells #[.slice la ll lc, .slice sa sl sc] 55) := ⟨_, rfl⟩
      have bA : Below wr.heap.size wr wA := by rw [hwA]; exact (Below.refl _ wr).alloc (Nat.le_refl _) _
      have BA := hb.trans (bA.mono hb.size)
      obtain ⟨bx, hbx⟩ : ∃ bx, bx = wr.heap.size := ⟨_, rfl⟩
      have qA : wA.heap[bx]? = some (.cells #[.slice la ll lc, .slice sa sl sc] 55 (0, 0)) := by rw [hwA, hbx]; exact heap_alloc_new wr _
      have oA := hidn (own_skip hO.out bA)
      have HWA := hidn hwA
      have HBX := hidn hbx
      clear hwA hbx
      by_cases g1 : j < most
      · have g1i : (j : Int) < (most : Int) := by omega
        by_cases g2 : ll ≤ 10
        · have g2i : (ll : Int) ≤ 10 := by omega
          obtain ⟨va, vc, rfl⟩ := own_slice oA.out
          obtain ⟨n, hn⟩ : ∃ n, n = min sl m := ⟨_, rfl⟩
          have m1 : min (sl : Int) (m : Int) = (n : Int) := by omega
          have m2 : (if (m : Int) < (sl : Int) then (m : Int) else (sl : Int)) = (n : Int) := by rw [hn]; split <;> omega
          have hns : n ≤ sc := by omega
          have hnsi : (n : Int) ≤ (sc : Int) := by omega
          have HNN := hidn hn
          obtain ⟨wD, hwD⟩ : ∃ wD, wD = wA.drew := ⟨_, rfl⟩
          have bD : Below wA.heap.size wA wD := by rw [hwD]; exact (Below.refl _ wA).drew
          have qD : wD.heap[bx]? = some (.cells #[.slice la ll lc, .slice sa sl sc] 55 (0, 0)) := by rw [hwD]; exact qA
          obtain ⟨wE, hwE⟩ : ∃ wE, wE = wD.alloc (.cells #[.slice la ll lc, .slice sa n sc] 55) := ⟨_, rfl⟩
          have bE : Below wD.heap.size wD wE := by rw [hwE]; exact (Below.refl _ wD).alloc (Nat.le_refl _) _
          have BE := BA.trans ((bD.trans (bE.mono bD.size)).mono BA.size)
          have oE := own_skip (own_skip oA.out bD) bE
          have qE : wE.heap[wD.heap.size]? = some (.cells #[.slice la ll lc, .slice sa n sc] 55 (0, 0)) := by rw [hwE]; exact heap_alloc_new wD _
          obtain ⟨g, c', wF, hr, hoF, hgF, _⟩ := appN (P := Tryd.prog) wE 22 22 55 i0 z 2 48 Tryd.underlying22 hi hz0 hz1 hz2 hzc (by decide) (.slice va L.length vc) L.length (svs L) w.heap.size oE BE.size ⟨wD.heap.size, 0, none⟩ 1 1 (by decide) [.slice la ll lc, .slice sa n sc] rfl (fun i u hu => by
              rw [ladd_none, cell_of_row _ _ _ _ _ _ qE]
              match i, hu with
              | 0, hu => simpa using hu
              | 1, hu => simpa using hu) (fun u hu => by simp at hu; rcases hu with rfl | rfl <;> rfl) (by unfold maxLen; omega) (by omega)
          have BF : Below w.heap.size w wF := BE.grown hgF BE.size (fun k hk => (oE.lt k hk).1)
          have HO2 : Hid (wF.ownsRow w.heap.size 55 2 (.slice (some ⟨g, 0, none⟩) (L.length + 1) c') (fewL (l.take (j + 1)) most m).length (svs (fewL (l.take (j + 1)) most m))) := hidn (by
            rw [hst.out, if_pos ⟨g1, g2⟩, svs_append, List.length_append]
            have e : svs [Ser.cut ⟨la, ll, lc, ls, sa, sl, sc, sm⟩ m] = [.slice la ll lc, .slice sa n sc] := by rw [HNN.out]; rfl
            rw [e]
            exact hoF)
          have HRUN := hidn hr
          have qE2 := (bE.block bx (Array.getElem?_eq_some_iff.1 qD).1).trans qD
          have SF := (hgF.block bx (Array.getElem?_eq_some_iff.1 qE2).1 (fun e => by
            have := (hO.out.lt bx e.symm).2
            have := HBX.out
            omega)).trans qE2
          have SW : ∀ W : World, W.heap[bx]? = some (.cells #[.slice la ll lc, .slice sa sl sc] 55 (0, 0)) → W.cell? ⟨bx, 0, none⟩ = some (.slice la ll lc) ∧ W.cell? ⟨bx, 1, none⟩ = some (.slice sa sl sc) := fun W hq => ⟨cell_of_row _ _ _ _ _ _ hq, cell_of_row _ _ _ _ _ _ hq⟩
          have HWD := hidn hwD
          have HWE := hidn hwE
          clear hn hr hoF hgF oE hwD hwE
          go_wp2_with fail
          rw [← HWA.out, ← HBX.out]
          refine wp_region_noPanic ?_
          refine wp_region_held_drew (S := fun w' => w'.cell? ⟨bx, 0, none⟩ = some (.slice la ll lc) ∧ w'.cell? ⟨bx, 1, none⟩ = some (.slice sa sl sc)) (by kernel_rfl) (SW _ qA) (fun hHeld => ?_)
          refine drawn_take (i := 0) (v := .slice va L.length vc) (some 26) rfl rfl (by kernel_rfl) (by kernel_rfl) (by kernel_rfl) (fun _ _ _ h => h) (Or.inl ⟨by kernel_rfl, fun wq hw => by go_simp⟩) hHeld ?_
          simp only [Act.put, List.setIfInBounds_toArray, List.set_cons_succ, List.set_cons_zero]
          refine drawn_take (i := 1) (v := .pointer (some ⟨bx, 0, none⟩)) (some 27) rfl rfl (by kernel_rfl) (by kernel_rfl) (by kernel_rfl) (fun _ _ _ h => h) (Or.inl ⟨by kernel_rfl, fun wq hw => by go_simp⟩) hHeld ?_
          simp only [Act.put, List.setIfInBounds_toArray, List.set_cons_succ, List.set_cons_zero]
          refine drawn_take (i := 2) (v := .slice la ll lc) (some 28) rfl rfl (by kernel_rfl) (by kernel_rfl) (by kernel_rfl) (fun _ _ _ h => h) (Or.inl ⟨by kernel_rfl, fun wq hw => by obtain ⟨g1, g2⟩ := hw; go_simp⟩) hHeld ?_
          simp only [Act.put, List.setIfInBounds_toArray, List.set_cons_succ, List.set_cons_zero]
          refine drawn_take (i := 3) (v := .pointer (some ⟨bx, 1, none⟩)) (some 29) rfl rfl (by kernel_rfl) (by kernel_rfl) (by kernel_rfl) (fun _ _ _ h => h) (Or.inl ⟨by kernel_rfl, fun wq hw => by go_simp⟩) hHeld ?_
          simp only [Act.put, List.setIfInBounds_toArray, List.set_cons_succ, List.set_cons_zero]
          refine drawn_take (i := 4) (v := .slice sa sl sc) (some 30) rfl rfl (by kernel_rfl) (by kernel_rfl) (by kernel_rfl) (fun _ _ _ h => h) (Or.inl ⟨by kernel_rfl, fun wq hw => by obtain ⟨g1, g2⟩ := hw; go_simp⟩) hHeld ?_
          simp only [Act.put, List.setIfInBounds_toArray, List.set_cons_succ, List.set_cons_zero]
          refine drawn_take (i := 5) (v := .pointer (some ⟨bx, 1, none⟩)) (some 31) rfl rfl (by kernel_rfl) (by kernel_rfl) (by kernel_rfl) (fun _ _ _ h => h) (Or.inl ⟨by kernel_rfl, fun wq hw => by go_simp⟩) hHeld ?_
          simp only [Act.put, List.setIfInBounds_toArray, List.set_cons_succ, List.set_cons_zero]
          refine drawn_take (i := 6) (v := .slice sa sl sc) (some 32) rfl rfl (by kernel_rfl) (by kernel_rfl) (by kernel_rfl) (fun _ _ _ h => h) (Or.inl ⟨by kernel_rfl, fun wq hw => by obtain ⟨g1, g2⟩ := hw; go_simp⟩) hHeld ?_
          simp only [Act.put, List.setIfInBounds_toArray, List.set_cons_succ, List.set_cons_zero]
          refine drawn_take (i := 7) (v := .int .i64 (sl : Int)) (some 33) rfl rfl (by kernel_rfl) (by kernel_rfl) (by kernel_rfl) (fun _ _ _ h => h) (Or.inl ⟨by kernel_rfl, fun wq hw => by go_simp⟩) hHeld ?_
          simp only [Act.put, List.setIfInBounds_toArray, List.set_cons_succ, List.set_cons_zero]
          refine drawn_take (i := 8) (v := .int .i64 (m : Int)) (some 34) rfl rfl (by kernel_rfl) (by kernel_rfl) (by kernel_rfl) (fun _ _ _ h => h) (Or.inl ⟨by kernel_rfl, fun wq hw => by go_simp⟩) hHeld ?_
          simp only [Act.put, List.setIfInBounds_toArray, List.set_cons_succ, List.set_cons_zero]
          refine drawn_take (i := 9) (v := .int .i64 (n : Int)) (some 35) rfl rfl (by kernel_rfl) (by kernel_rfl) (by kernel_rfl) (fun _ _ _ h => h) (Or.inl ⟨by kernel_rfl, fun wq hw => by go_simp⟩) hHeld ?_
          simp only [Act.put, List.setIfInBounds_toArray, List.set_cons_succ, List.set_cons_zero]
          refine drawn_take (i := 10) (v := .slice sa n sc) (some 36) rfl rfl (by kernel_rfl) (by kernel_rfl) (by kernel_rfl) (fun _ _ _ h => h) (Or.inl ⟨by kernel_rfl, fun wq hw => by go_simp⟩) hHeld ?_
          simp only [Act.put, List.setIfInBounds_toArray, List.set_cons_succ, List.set_cons_zero]
          refine drawn_take (i := 11) (v := .agg #[.slice la ll lc, .slice sa n sc]) (some 37) rfl rfl (by kernel_rfl) (by kernel_rfl) (by kernel_rfl) (fun _ _ _ h => h) (Or.inl ⟨by kernel_rfl, fun wq hw => by go_simp⟩) hHeld ?_
          simp only [Act.put, List.setIfInBounds_toArray, List.set_cons_succ, List.set_cons_zero]
          refine wpAnyH_ready (rs := [12]) (by kernel_rfl) (by simp) ?_
          refine rdy_val (i := 12) rfl rfl (some 38) rfl (.slice (some ⟨wD.heap.size, 0, none⟩) 1 1) (wE) (by rw [HWE.out, HWD.out]; go_simp) (SW _ qE2) (fun hHeld => ?_) rdy_nil
          simp only [Act.put, List.setIfInBounds_toArray, List.set_cons_succ, List.set_cons_zero]
          refine wpAnyH_ready (rs := [13]) (by kernel_rfl) (by simp) ?_
          refine rdy_val (i := 13) rfl rfl (some 39) rfl (.slice (some ⟨g, 0, none⟩) (L.length + 1) c') (wF) (app_runC (x := .tmp 26) (y := .tmp 38) (by kernel_rfl) (by kernel_rfl) (by kernel_rfl) HRUN.out) (SW _ SF) (fun hHeld => ?_) rdy_nil
          simp only [Act.put, List.setIfInBounds_toArray, List.set_cons_succ, List.set_cons_zero]
          refine drawn_take (i := 14) (v := .slice (some ⟨g, 0, none⟩) (L.length + 1) c') (some 7) rfl rfl (by kernel_rfl) (by kernel_rfl) (by kernel_rfl) (fun _ _ _ h => h) (Or.inl ⟨by kernel_rfl, fun wq hw => by go_simp⟩) hHeld ?_
          simp only [Act.put, List.setIfInBounds_toArray, List.set_cons_succ, List.set_cons_zero]
          refine wpAnyH_done (by kernel_rfl) ?_ _
          refine NoPanic.normal ?_
          clear hHeld
          go_wp2_with fail
          exact ⟨⟨j + 1, _, by omega, by simp, rfl, HO2, BF⟩, by simp [intOf]; omega⟩
        · have g2i : ¬ (ll : Int) ≤ 10 := by omega
          have HO2 : Hid (wA.ownsRow w.heap.size 55 2 u7 (fewL (l.take (j + 1)) most m).length (svs (fewL (l.take (j + 1)) most m))) := hidn (by rw [hst.out, if_neg (fun hh => g2 hh.2), List.append_nil]; exact oA.out)
          go_wp2_with fail
          rw [← HWA.out]
          exact ⟨⟨j + 1, _, by omega, by simp, rfl, HO2, BA⟩, by simp [intOf]; omega⟩
      · have g1i : ¬ (j : Int) < (most : Int) := by omega
        have HO2 : Hid (wA.ownsRow w.heap.size 55 2 u7 (fewL (l.take (j + 1)) most m).length (svs (fewL (l.take (j + 1)) most m))) := hidn (by rw [hst.out, if_neg (fun hh => g1 hh.1), List.append_nil]; exact oA.out)
        go_wp2_with fail
        rw [← HWA.out]
        exact ⟨⟨j + 1, _, by omega, by simp, rfl, HO2, BA⟩, by simp [intOf]; omega⟩
    · have hlt2 : ¬ (j : Int) < (len : Int) := by omega
      have HO2 : Hid (wr.ownsRow w.heap.size 55 2 u7 (fewL l most m).length (svs (fewL l most m))) := hidn (by
        have e := hO.out
        rw [List.take_of_length_le (by rw [hlen.out]; omega)] at e
        exact e)
      go_wp2_with fail
      exact bodyPost_ret (v := u7) (by simp [results, Tryd.results9, go_sem]) rfl ⟨_, rfl, HO2.out, hb⟩
end Go.Proofs.YtcjhkpcnhnnjbaaDoor
