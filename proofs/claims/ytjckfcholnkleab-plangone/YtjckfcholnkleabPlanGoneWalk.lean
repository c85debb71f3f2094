/- PlanGone: the law. -/
import Derived.Test.YtjckfcholnkleabPlF
import Derived.Test.YtjckfcholnkleabPlI
import Derived.Test.YtjckfcholnkleabPlFl
import Derived.Test.YtjckfcholnkleabPlK
namespace Go.Proofs.Ytjckfcholnkleab
open Go.RowKit Go.Joins
set_option linter.unusedVariables false

def leftL (l : List Fo) (fl : Int) : List Fo := l.filter (fun f => !isGone fl f)

theorem leftL_snoc (l : List Fo) (f : Fo) (fl : Int) : leftL (l ++ [f]) fl = leftL l fl ++ (if isGone fl f then [] else [f]) := by
  unfold leftL
  rw [List.filter_append]
  congr 1
  by_cases h : isGone fl f = true <;> simp [List.filter, h]

theorem gone_both (l : List Fo) (fl : Int) : (expL l fl).length + (leftL l fl).length = l.length := by
  unfold expL leftL
  rw [List.length_map]
  induction l with
  | nil => rfl
  | cons x t ih =>
    by_cases h : isGone fl x = true
    · simp [h]; omega
    · simp [h]; omega

theorem exp_left (l : List Fo) (fl : Int) : expL (leftL l fl) fl = [] := by
  unfold expL leftL
  rw [List.map_eq_nil_iff, List.filter_eq_nil_iff]
  intro f hf
  have := (List.mem_filter.1 hf).2
  simpa using this

theorem mem_expL {l : List Fo} {k : Nat} {d : Fo} {fl : Int} (hd : l[k]? = some d) (h : isGone fl d = true) : (expL l fl).contains d.nu = true := by
  rw [List.contains_iff_mem]
  exact List.mem_map.2 ⟨d, List.mem_filter.2 ⟨List.mem_of_getElem? hd, h⟩, rfl⟩

/-- Blocks that may be: plainly. -/
theorem pcL_iff (l : List Fo) : pcL l = true ↔ (∀ f ∈ l, standF f = true) ∧ l.Pairwise (fun f g => f.rk < g.rk) ∧ (l.map Fo.nu).Nodup := by
  unfold pcL
  rw [Bool.and_eq_true, nodupB_iff]
  have key : pcTo l l.length = true ↔ (∀ f ∈ l, standF f = true) ∧ l.Pairwise (fun f g => f.rk < g.rk) := by
    unfold pcTo
    rw [List.all_eq_true]
    constructor
    · intro h
      have hst : ∀ i f, l[i]? = some f → standF f = true ∧ rkOk l i f = true := fun i f hf => by
        have := h i (List.mem_range.2 (List.getElem?_eq_some_iff.1 hf).1)
        rw [pcAt_of hf, Bool.and_eq_true] at this
        exact this
      refine ⟨fun f hf => ?_, ?_⟩
      · obtain ⟨i, hi⟩ := List.mem_iff_getElem?.1 hf
        exact (hst i f hi).1
      · rw [List.pairwise_iff_getElem]
        intro i j hi hj hij
        induction j with
        | zero => omega
        | succ j ih =>
          have h2 := (hst (j + 1) _ (List.getElem?_eq_getElem hj)).2
          rw [rkOk_succ (List.getElem?_eq_getElem (by omega : j < l.length))] at h2
          have h3 := of_decide_eq_true h2
          by_cases e : i = j
          · subst e; exact h3
          · have := ih (by omega) (by omega)
            omega
    · rintro ⟨h1, h2⟩ i hi
      rw [List.mem_range] at hi
      have hf := List.getElem?_eq_getElem hi
      rw [pcAt_of hf, Bool.and_eq_true]
      refine ⟨h1 _ (List.getElem_mem hi), ?_⟩
      cases i with
      | zero => rfl
      | succ j =>
        rw [rkOk_succ (List.getElem?_eq_getElem (by omega : j < l.length))]
        exact decide_eq_true (List.pairwise_iff_getElem.1 h2 j (j + 1) (by omega) hi (by omega))
  rw [key, and_assoc]

theorem pcL_left {l : List Fo} {fl : Int} (h : pcL l = true) : pcL (leftL l fl) = true := by
  rw [pcL_iff] at h ⊢
  have hs : (leftL l fl).Sublist l := List.filter_sublist
  exact ⟨fun f hf => h.1 f (hs.subset hf), h.2.1.sublist hs, h.2.2.sublist (hs.map _)⟩

set_option maxHeartbeats 1000000 in
set_option maxRecDepth 100000 in
theorem planGone_walk (a : Option Addr) (len cap : Nat) (l0 : List Fo) (fl : Int) (w : World) (h0 : Fls w a len l0) (hc0 : len ≤ cap) :
    Calls Try.prog 3 #[.slice a len cap, .int .i64 fl] w fun e w' => e = .returned (.bool true) ∧ Below w.heap.size w w' := by
  obtain ⟨i0, z, hi, hz0, hz1, hz2, hzc⟩ := foInfo
  obtain ⟨n, hn, hn14, HC⟩ := cut_any a len cap w hc0
  have HC2 := hidn HC
  clear HC
  have h := h0.take n hn
  generalize l0.take n = l at *
  have hc : n ≤ cap := by omega
  have hlen := hidn h.1
  have H1 := hidn (expired_any a n cap l fl w h (by omega))
  clear h0 hc0
  go_enter Try.func3, Try.ntmps3
  go_wp2_with fail
  refine HC2.out.mono ?_
  rintro e w0 ⟨rfl, rfl⟩
  go_wp2_with fail
  refine H1.out.mono ?_
  rintro e w1 ⟨v1, rfl, o1, b1⟩
  obtain ⟨a1, c1, rfl, i1, -⟩ := ils_of_own o1
  obtain ⟨m1, hm1⟩ : ∃ m, m = (expL l fl).length := ⟨_, rfl⟩
  rw [← hm1] at i1 ⊢
  have HM1 := hidn hm1
  clear hm1 o1
  have h1 := h.below b1
  go_wp2_with fail
  go_loopw [6, 16] (fun hv iv wr => ∃ (k : Nat) (v : Value) (L' : List Fo), k ≤ n ∧ iv = .int .i64 (k : Int) ∧ hv = v ∧ L'.length ≤ k ∧ Hid (wr.ownsRow w1.heap.size 27 8 v L'.length (fvs L') ∧ L' = leftL (l.take k) fl) ∧ Below w1.heap.size w1 wr) (fun _ iv _ => n - (intOf iv).toNat)
  case atStart => exact ⟨0, _, [], Nat.zero_le _, rfl, rfl, Nat.le_refl _, hidn ⟨World.ownsRow_nil _ _ _ _, rfl⟩, Below.refl _ _⟩
  case round =>
    obtain ⟨k, v, L', hk, rfl, rfl, hl', hO, hb⟩ := hrel
    have hB := b1.trans (hb.mono b1.size)
    by_cases hlt : k < n
    · have hlt2 : (k : Int) < (n : Int) := by omega
      obtain ⟨d, hd⟩ : ∃ d, l[k]? = some d := ⟨_, List.getElem?_eq_getElem (by rw [hlen.out]; exact hlt)⟩
      obtain ⟨b, off, rfl, hbk, q0, q1, q2, q3, q4, q5, q6, q7, hms⟩ := (h1.below hb).at hd
      have HT : Hid (l.take (k + 1) = l.take k ++ [d]) := hidn (by rw [List.take_add_one, hd]; rfl)
      have HME : Hid (isGone fl d = true → (expL l fl).contains d.nu = true) := hidn (mem_expL hd)
      clear hd
      obtain ⟨nu, ge, lv, rk, mn, mx, bt, pa, pl, pc, ps⟩ := d
      simp only at q0 q1 q2 q3 q4 q5 q6 q7 hms HME
      obtain ⟨wA, hwA⟩ : ∃ wA, wA = wr.alloc (.cells #[.int .i64 nu, .int .i64 ge, .int .i64 lv, .int .i64 rk, .int .i64 mn, .int .i64 mx, .int .i64 bt, .slice pa pl pc] 27) := ⟨_, rfl⟩
      have bA : Below wr.heap.size wr wA := by rw [hwA]; exact (Below.refl _ wr).alloc (Nat.le_refl _) _
      have BA := hb.trans (bA.mono hb.size)
      have sA : wA.heap.size = wr.heap.size + 1 := by rw [hwA]; simp
      obtain ⟨w4, hw4⟩ : ∃ w4, w4 = wA.alloc (.cells #[.int .i64 nu, .int .i64 ge, .int .i64 lv, .int .i64 rk, .int .i64 mn, .int .i64 mx, .int .i64 bt, .slice pa pl pc] 27) := ⟨_, rfl⟩
      have b4 : Below wA.heap.size wA w4 := by rw [hw4]; exact (Below.refl _ wA).alloc (Nat.le_refl _) _
      have B4 := BA.trans (b4.mono BA.size)
      have r4 : w4.heap[wr.heap.size + 1]? = some (.cells #[.int .i64 nu, .int .i64 ge, .int .i64 lv, .int .i64 rk, .int .i64 mn, .int .i64 mx, .int .i64 bt, .slice pa pl pc] 27 (0, 0)) := by rw [hw4, ← sA]; exact heap_alloc_new wA _
      have HW : Hid ((wr.alloc (.cells #[.int .i64 nu, .int .i64 ge, .int .i64 lv, .int .i64 rk, .int .i64 mn, .int .i64 mx, .int .i64 bt, .slice pa pl pc] 27)).alloc (.cells #[.int .i64 nu, .int .i64 ge, .int .i64 lv, .int .i64 rk, .int .i64 mn, .int .i64 mx, .int .i64 bt, .slice pa pl pc] 27) = w4) := hidn (by rw [hw4, hwA])
      have hc1 : ∀ (j : Nat) (u : Value), ([.int .i64 nu, .int .i64 ge, .int .i64 lv, .int .i64 rk, .int .i64 mn, .int .i64 mx, .int .i64 bt, .slice pa pl pc] : List Value)[j]? = some u → w4.cell? ((⟨wr.heap.size + 1, 0, none⟩ : Addr).add j) = some u := by
        intro i u hi
        rw [ladd_none, cell_of_row _ _ _ _ _ _ r4, Nat.zero_add, ← hi]
        simp
      have hc2 : ∀ u ∈ ([.int .i64 nu, .int .i64 ge, .int .i64 lv, .int .i64 rk, .int .i64 mn, .int .i64 mx, .int .i64 bt, .slice pa pl pc] : List Value), u.oneCell' = true := by
        intro u hu
        simp at hu
        rcases hu with rfl | rfl | rfl | rfl | rfl | rfl | rfl | rfl <;> rfl
      have hc3 : L'.length + 1 ≤ maxLen := by unfold maxLen; omega
      have hc4 : (L'.length + 1) * 80 ≤ 140737488355328 := by omega
      have HWA := hidn hwA
      obtain ⟨va, vc, rfl⟩ := own_slice hO.out.1
      clear hwA hw4 sA
      by_cases hg : isGone fl ⟨nu, ge, lv, rk, mn, mx, bt, pa, pl, pc, ps⟩ = true
      · have HN : Hid (L' = leftL (l.take (k + 1)) fl) := hidn (by
          rw [HT.out, leftL_snoc, hg, ← hO.out.2]
          simp)
        have OA : Hid (wA.ownsRow w1.heap.size 27 8 (.slice va L'.length vc) L'.length (fvs L') ∧ L' = leftL (l.take (k + 1)) fl) := hidn ⟨own_skip hO.out.1 bA, HN.out⟩
        have HCT := hidn (contains_any a1 m1 c1 (expL l fl) nu wA (by rw [HM1.out] at i1 ⊢; exact i1.below BA))
        rw [HME.out hg] at HCT
        by_cases hmx : mx < fl
        · have hmx' : ¬ fl ≤ mx := by omega
          clear hg HME
          go_wp2_with fail
          rw [← HWA.out]
          refine HCT.out.mono ?_
          rintro e w5 ⟨rfl, rfl⟩
          go_wp2_with fail
          exact ⟨⟨k + 1, _, _, by omega, by simp, rfl, by omega, OA, BA⟩, by simp [intOf]; omega⟩
        · have hmx' : fl ≤ mx := by omega
          have hbt : (bt != 0) = false := by
            simp only [isGone, Bool.or_eq_true, decide_eq_true_eq] at hg
            rcases hg with e | e
            · exact absurd e hmx
            · simp [e]
          clear hg HME
          go_wp2_with fail
          rw [← HWA.out]
          refine HCT.out.mono ?_
          rintro e w5 ⟨rfl, rfl⟩
          go_wp2_with fail
          exact ⟨⟨k + 1, _, _, by omega, by simp, rfl, by omega, OA, BA⟩, by simp [intOf]; omega⟩
      · have hmx' : fl ≤ mx := by
          simp [isGone] at hg
          omega
        have hbt : (bt != 0) = true := by
          simp [isGone] at hg
          simp [hg.2]
        have HN : Hid (L' ++ [(⟨nu, ge, lv, rk, mn, mx, bt, pa, pl, pc, ps⟩ : Fo)] = leftL (l.take (k + 1)) fl) := hidn (by
          rw [HT.out, leftL_snoc, if_neg hg, ← hO.out.2])
        have O4 := own_skip hO.out.1 (bA.trans (b4.mono bA.size))
        clear hg HME
        go_wp2_with (at_builtin; rw [HW.out]; refine wpList_append_own _ rfl _ _ 22 rfl w1.heap.size 27 i0 z 8 80 Try.underlying22 hi hz0 hz1 hz2 hzc (by decide) _ L'.length (fvs L') rfl O4 ⟨wr.heap.size + 1, 0, none⟩ 1 1 [.int .i64 nu, .int .i64 ge, .int .i64 lv, .int .i64 rk, .int .i64 mn, .int .i64 mx, .int .i64 bt, .slice pa pl pc] rfl rfl hc1 hc2 hc3 hc4 B4.size ?_)
        intro v' w5 own5 hgrow5 _
        have HO : Hid (w5.ownsRow w1.heap.size 27 8 v' (L' ++ [(⟨nu, ge, lv, rk, mn, mx, bt, pa, pl, pc, ps⟩ : Fo)]).length (fvs (L' ++ [(⟨nu, ge, lv, rk, mn, mx, bt, pa, pl, pc, ps⟩ : Fo)])) ∧ L' ++ [(⟨nu, ge, lv, rk, mn, mx, bt, pa, pl, pc, ps⟩ : Fo)] = leftL (l.take (k + 1)) fl) := hidn ⟨by rw [fvs_append, List.length_append]; exact own5, HN.out⟩
        have B5 : Below w1.heap.size w1 w5 := B4.grown hgrow5 B4.size (fun k hk => (O4.lt k hk).1)
        clear O4 own5 hgrow5
        go_wp2_with fail
        exact ⟨⟨k + 1, _, _, by omega, by simp, rfl, by simp; omega, HO, B5⟩, by simp [intOf]; omega⟩
    · have hlt2 : ¬ (k : Int) < (n : Int) := by omega
      have HL : Hid (L' = leftL l fl) := hidn (by
        have := hO.out.2
        rw [List.take_of_length_le (by rw [hlen.out]; omega)] at this
        exact this)
      have hX := h1.below hb
      obtain ⟨va, vc, rfl, hF, hvc⟩ := fls_of_own hO.out.1 (fun d hd => hX.2.2.2.1 d (by
        rw [HL.out] at hd
        exact (List.mem_filter.1 hd).1))
      have hsum : m1 + L'.length = n := by rw [HM1.out, HL.out, ← hlen.out]; exact gone_both l fl
      have hsum2 : (m1 : Int) + (L'.length : Int) = (n : Int) := by omega
      have H5 := hidn (expired_any va L'.length vc L' fl wr hF (by omega))
      rw [show expL L' fl = [] from by rw [HL.out]; exact exp_left l fl] at H5
      have HSM := hidn hsum
      obtain ⟨ml, hml⟩ : ∃ ml, ml = L'.length := ⟨_, rfl⟩
      rw [← hml] at hsum2 H5 hF hvc hl' ⊢
      have HML := hidn hml
      clear hml hsum
      go_wp2_with fail
      refine H5.out.mono ?_
      rintro e w5 ⟨v5, rfl, o5, b5⟩
      obtain ⟨a5, c5, rfl, -, -⟩ := ils_of_own o5
      have B5 := hB.trans (b5.mono hB.size)
      have H6 := hidn (can_any a n cap l w5 (hX.below b5) (by omega) hc)
      clear o5
      cases hp : pcL l with
      | false =>
        rw [hp] at H6
        go_wp2_with fail
        refine H6.out.mono ?_
        rintro e w6 ⟨rfl, b6⟩
        have B6 := B5.trans (b6.mono B5.size)
        go_wp2_with fail
        refine (awake16 _).mono ?_
        rintro e w9 ⟨rfl, rfl⟩
        go_wp2_with fail
        exact bodyPost_ret (v := .bool true) (by simp [results, Try.results3, go_sem]) rfl ⟨rfl, B6⟩
      | true =>
        rw [hp] at H6
        have hp2 : Hid (pcL L' = true) := hidn (by rw [HL.out]; exact pcL_left hp)
        go_wp2_with fail
        refine H6.out.mono ?_
        rintro e w6 ⟨rfl, b6⟩
        have B6 := B5.trans (b6.mono B5.size)
        have H7 := hidn (can_any va ml vc L' w6 ((hF.below b5).below b6) (by omega) hvc)
        rw [hp2.out] at H7
        go_wp2_with fail
        refine H7.out.mono ?_
        rintro e w7 ⟨rfl, b7⟩
        have B7 := B6.trans (b7.mono B6.size)
        go_wp2_with fail
        refine (awake16 _).mono ?_
        rintro e w9 ⟨rfl, rfl⟩
        go_wp2_with fail
        exact bodyPost_ret (v := .bool true) (by simp [results, Try.results3, go_sem]) rfl ⟨rfl, B7⟩

end Go.Proofs.Ytjckfcholnkleab
