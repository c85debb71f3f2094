/- PlanEnds: the law. -/
import Derived.Test.YtjckfcholnkleaaPlL
import Derived.Test.YtjckfcholnkleaaPlM
import Derived.Test.YtjckfcholnkleaaPlN
import Derived.Test.YtjckfcholnkleaaPlFl
namespace Go.Proofs.Ytjckfcholnkleaa
open Go.RowKit Go.Joins
set_option linter.unusedVariables false

theorem min20e (len : Nat) : ∃ n : Nat, n ≤ len ∧ n ≤ 20 ∧ min (len : Int) 20 = (n : Int) ∧ (if (20 : Int) < (len : Int) then (20 : Int) else (len : Int)) = (n : Int) := by
  refine ⟨min len 20, by omega, by omega, by omega, ?_⟩
  split <;> omega

theorem endLv (y : Int) : ∃ v : Int, wrap64 (1 + wrap64 ((IntKind.u64.wrap y).tmod 3)) = v ∧ 1 ≤ v ∧ v ≤ 3 := by
  refine ⟨_, rfl, ?_⟩
  have h0 : 0 ≤ IntKind.u64.wrap y := by rw [IntKind.wrap_u64]; omega
  generalize IntKind.u64.wrap y = u at h0
  rw [Int.tmod_eq_emod_of_nonneg h0]
  have h1 : wrap64 (u % 3) = u % 3 := by unfold wrap64; omega
  rw [h1]
  have h2 : wrap64 (1 + u % 3) = 1 + u % 3 := by unfold wrap64; omega
  rw [h2]
  omega

set_option maxHeartbeats 600000 in
set_option maxRecDepth 100000 in
theorem planEnds_walk (a : Option Addr) (len cap : Nat) (ks : List Int) (w : World) (h0 : Ils w a len ks) (hc0 : len ≤ cap) :
    Calls Try.prog 8 #[.slice a len cap] w fun e w' => e = .returned (.bool true) ∧ Below w.heap.size w w' := by
  obtain ⟨i0, z, hi, hz0, hz1, hz2, hzc⟩ := foInfo
  obtain ⟨n, hn1, hn2, hn3, hn4⟩ := min20e len
  have nc : (n : Int) ≤ (cap : Int) := by omega
  have hI := h0.take n hn1
  have hlen := hidn hI.1
  go_enter Try.func8, Try.ntmps8
  go_wp2_with fail
  generalize ks.take n = qs at *
  clear hn3 hn4 nc h0 hc0
  go_loopw [3, 17] (fun hv iv wr => ∃ (k : Nat) (v : Value) (L : List Fo), k ≤ n ∧ iv = .int .i64 (k : Int) ∧ hv = v ∧ L.length = k ∧ Hid (wr.ownsRow w.heap.size 32 8 v L.length (fvs L) ∧ (∀ d ∈ L, d.pa = none ∧ d.pl = 0 ∧ d.pc = 0 ∧ d.ps = []) ∧ EndI L ((k : Int) + 1) ∧ ∀ d ∈ L, d.rk < (k : Int) + 1) ∧ Below w.heap.size w wr) (fun _ iv _ => n - (intOf iv).toNat)
  case atStart => exact ⟨0, _, [], Nat.zero_le _, rfl, rfl, rfl, hidn ⟨World.ownsRow_nil _ _ _ _, (fun d hd => by cases hd), ⟨rfl, (fun d hd => by cases hd)⟩, (fun d hd => by cases hd)⟩, Below.refl _ _⟩
  case round =>
    obtain ⟨k, v, L, hk, rfl, rfl, hLk, hO, hb⟩ := hrel
    by_cases hlt : k < n
    · have hlt2 : (k : Int) < (n : Int) := by omega
      obtain ⟨y, hy⟩ : ∃ y, qs[k]? = some y := ⟨_, List.getElem?_eq_getElem (by rw [hlen.out]; exact hlt)⟩
      obtain ⟨b, off, rfl, ck⟩ := (hI.below hb).at hy
      clear hy
      obtain ⟨va, vc, rfl⟩ := own_slice hO.out.1
      obtain ⟨lv, hlv, hl1, hl3⟩ := endLv y
      obtain ⟨w4, hw4⟩ : ∃ w4, w4 = wr.alloc (.cells #[.int .i64 ((k : Int) + 1), .int .i64 1, .int .i64 lv, .int .i64 ((k : Int) + 1), .int .i64 0, .int .i64 0, .int .i64 0, .slice none 0 0] 32) := ⟨_, rfl⟩
      have b4 : Below wr.heap.size wr w4 := by rw [hw4]; exact (Below.refl _ wr).alloc (Nat.le_refl _) _
      have B4 := hb.trans (b4.mono hb.size)
      have q4 : w4.heap[wr.heap.size]? = some (.cells #[.int .i64 ((k : Int) + 1), .int .i64 1, .int .i64 lv, .int .i64 ((k : Int) + 1), .int .i64 0, .int .i64 0, .int .i64 0, .slice none 0 0] 32 (0, 0)) := by rw [hw4]; exact heap_alloc_new wr _
      have HW := hidn hw4.symm
      have hc1 : ∀ (j : Nat) (u : Value), ([.int .i64 ((k : Int) + 1), .int .i64 1, .int .i64 lv, .int .i64 ((k : Int) + 1), .int .i64 0, .int .i64 0, .int .i64 0, .slice none 0 0] : List Value)[j]? = some u → w4.cell? ((⟨wr.heap.size, 0, none⟩ : Addr).add j) = some u := by
        intro i u hi
        rw [ladd_none, cell_of_row _ _ _ _ _ _ q4, Nat.zero_add, ← hi]
        simp
      have hc2 : ∀ u ∈ ([.int .i64 ((k : Int) + 1), .int .i64 1, .int .i64 lv, .int .i64 ((k : Int) + 1), .int .i64 0, .int .i64 0, .int .i64 0, .slice none 0 0] : List Value), u.oneCell' = true := by
        intro u hu
        simp only [List.mem_cons, List.not_mem_nil, or_false] at hu
        rcases hu with rfl | rfl | rfl | rfl | rfl | rfl | rfl | rfl <;> rfl
      have hc3 : L.length + 1 ≤ maxLen := by unfold maxLen; omega
      have hc4 : (L.length + 1) * 80 ≤ 140737488355328 := by omega
      have O4 := own_skip hO.out.1 b4
      have HC1 := hidn hc1
      have HC2 := hidn hc2
      have HLK := hidn hLk
      have HNX := hidn (endI_snoc (k := k) (v := lv) hO.out.2.2.1 hO.out.2.2.2 (by omega) hl1 hl3)
      clear hw4 hLk hc1 hc2 q4
      go_wp2_with (at_builtin; rw [HW.out]; refine wpList_append_own _ rfl _ _ 22 rfl w.heap.size 32 i0 z 8 80 Try.underlying22 hi hz0 hz1 hz2 hzc (by decide) _ L.length (fvs L) rfl O4 ⟨wr.heap.size, 0, none⟩ 1 1 [.int .i64 ((k : Int) + 1), .int .i64 1, .int .i64 lv, .int .i64 ((k : Int) + 1), .int .i64 0, .int .i64 0, .int .i64 0, .slice none 0 0] rfl rfl HC1.out HC2.out hc3 hc4 B4.size ?_)
      intro v' w5 own5 hgrow5 _
      have HO : Hid (w5.ownsRow w.heap.size 32 8 v' (L ++ [endF k lv]).length (fvs (L ++ [endF k lv])) ∧ (∀ d ∈ L ++ [endF k lv], d.pa = none ∧ d.pl = 0 ∧ d.pc = 0 ∧ d.ps = []) ∧ EndI (L ++ [endF k lv]) (((k + 1 : Nat) : Int) + 1) ∧ ∀ d ∈ L ++ [endF k lv], d.rk < ((k + 1 : Nat) : Int) + 1) := hidn (by
        refine ⟨by rw [fvs_append, List.length_append]; exact own5, fun d hd => ?_, ?_⟩
        · rcases List.mem_append.1 hd with hd | hd
          · exact hO.out.2.1 d hd
          · rw [List.mem_singleton.1 hd]; exact ⟨rfl, rfl, rfl, rfl⟩
        · have := HNX.out
          rw [show ((k + 1 : Nat) : Int) = (k : Int) + 1 from by omega]
          exact this)
      have HLN : Hid ((L ++ [endF k lv]).length = k + 1) := hidn (by rw [List.length_append, HLK.out]; rfl)
      have B5 : Below w.heap.size w w5 := B4.grown hgrow5 B4.size (fun k hk => (O4.lt k hk).1)
      clear O4 own5 hgrow5
      go_wp2_with fail
      exact ⟨⟨k + 1, _, _, by omega, by simp, rfl, HLN.out, HO, B5⟩, by simp [intOf]; omega⟩
    · have hlt2 : ¬ (k : Int) < (n : Int) := by omega
      have hkn : k = n := by omega
      subst hkn
      obtain ⟨va, vc, rfl⟩ := own_slice hO.out.1
      have HLK := hidn hLk
      have hO2 : Hid (wr.ownsRow w.heap.size 32 8 (.slice va L.length vc) L.length (fvs L) ∧ (∀ d ∈ L, Ils wr d.pa d.pl d.ps ∧ d.pl ≤ d.pc) ∧ EndI L (((k + 1 : Nat) : Int))) := hidn (by
        refine ⟨hO.out.1, fun d hd => ?_, ?_⟩
        · obtain ⟨e1, e2, e3, e4⟩ := hO.out.2.1 d hd
          rw [e1, e2, e3, e4]
          exact ⟨⟨rfl, Nat.zero_le _, fun _ => rfl, (fun x hx => by cases hx)⟩, Nat.le_refl _⟩
        · rw [show ((k + 1 : Nat) : Int) = (k : Int) + 1 from by omega]
          exact hO.out.2.2.1)
      have hL20 : L.length ≤ 20 := by omega
      clear hO hLk hlt hlt2
      have hB0 := hb
      go_wp2_with fail
      go_loopw [3, 6, 39] (fun hv nv iv wx => ∃ (r nx : Nat) (v : Value) (L : List Fo), iv = .int .i64 (r : Int) ∧ nv = .int .i64 (nx : Int) ∧ hv = v ∧ 1 ≤ nx ∧ nx ≤ 21 + r ∧ r ≤ 10 ∧ Hid (L.length + 2 * r ≤ 20) ∧ Hid (wx.ownsRow w.heap.size 32 8 v L.length (fvs L) ∧ (∀ d ∈ L, Ils wx d.pa d.pl d.ps ∧ d.pl ≤ d.pc) ∧ EndI L (nx : Int)) ∧ Below w.heap.size w wx) (fun _ _ iv _ => 20 - (intOf iv).toNat)
      case atStart => exact ⟨0, k + 1, _, L, rfl, by rw [HLK.out]; simp, rfl, by omega, by omega, by omega, hidn (by omega), hO2, hB0⟩
      case round =>
        obtain ⟨r, nx, v, L, rfl, rfl, rfl, hx1, hx2, hr10, hR, hO, hb⟩ := hrel
        have hr2 : (r : Int) < 20 := by omega
        obtain ⟨va, vc, rfl, hF, hvc⟩ := fls_of_own hO.out.1 hO.out.2.1
        obtain ⟨ml, hml⟩ : ∃ ml, ml = L.length := ⟨_, rfl⟩
        rw [← hml] at hF hvc ⊢
        have HML := hidn hml
        have hm20 : ml ≤ 20 := by rw [hml]; have := hR.out; omega
        clear hml
        have H1 := hidn (merge_any va ml vc L wr hF (by omega) hvc)
        go_wp2_with fail
        refine H1.out.mono ?_
        rintro e w1 ⟨v1, rfl, o1, b1⟩
        obtain ⟨a1, c1, rfl, i1, -⟩ := ils_of_own o1
        obtain ⟨m1, hm1⟩ : ∃ m, m = (mergeL L).length := ⟨_, rfl⟩
        rw [← hm1] at i1 ⊢
        clear o1
        have B1 := hb.trans (b1.mono hb.size)
        rcases merge_split L with hE | ⟨A, f, g, x, B, hL, hk, hE⟩
        · obtain rfl : m1 = 0 := by rw [hm1, hE]; rfl
          obtain ⟨wB, hwB⟩ : ∃ wB, wB = w1.alloc (.cells #[.slice a1 0 c1] 26) := ⟨_, rfl⟩
          have bB : Below w1.heap.size w1 wB := by rw [hwB]; exact (Below.refl _ w1).alloc (Nat.le_refl _) _
          have BB := B1.trans (bB.mono B1.size)
          have H9 := hidn (merge_any va ml vc L wB ((hF.below b1).below bB) (by omega) hvc)
          rw [hE] at H9
          have HWB := hidn hwB
          clear hwB hm1 hE
          go_wp2_with fail
          rw [← HWB.out]
          refine H9.out.mono ?_
          rintro e w9 ⟨v9, rfl, o9, b9⟩
          obtain ⟨a9, c9, rfl, -, -⟩ := ils_of_own o9
          have B9 := BB.trans (b9.mono BB.size)
          clear o9
          go_wp2_with fail
          refine (awake16 _).mono ?_
          rintro e w10 ⟨rfl, rfl⟩
          go_wp2_with fail
          exact bodyPost_ret (v := .bool true) (by simp [results, Try.results8, go_sem]) rfl ⟨rfl, B9⟩
        · obtain rfl : m1 = 3 := by rw [hm1, hE]; rfl
          obtain ⟨p, hpA⟩ : ∃ p, p = A.length := ⟨_, rfl⟩
          have hp3 : p + 3 ≤ ml := by rw [HML.out, hL, hpA]; simp
          have hfp : L[p]? = some f := by rw [hL, hpA]; simp
          obtain ⟨b, off, rfl, hbk, -, -, lf, -⟩ := hF.at hfp
          obtain ⟨tb, tf, rfl, ct⟩ := i1.at (j := 0) (c := f.nu) (by rw [hE]; rfl)
          rw [Nat.add_zero] at ct
          obtain ⟨wB, hwB⟩ : ∃ wB, wB = w1.alloc (.cells #[.slice (some ⟨tb, tf, none⟩) 3 c1] 26) := ⟨_, rfl⟩
          have bB : Below w1.heap.size w1 wB := by rw [hwB]; exact (Below.refl _ w1).alloc (Nat.le_refl _) _
          have qB : wB.heap[w1.heap.size]? = some (.cells #[.slice (some ⟨tb, tf, none⟩) 3 c1] 26 (0, 0)) := by rw [hwB]; exact heap_alloc_new w1 _
          have eB : wB.cell? ⟨w1.heap.size, 0, none⟩ = some (.slice (some ⟨tb, tf, none⟩) 3 c1) := cell_of_row _ _ _ _ _ _ qB
          have BB := B1.trans (bB.mono B1.size)
          have hFB := (hF.below b1).below bB
          have HI := hidn (endIdx b off ml vc L w1.heap.size tb tf 3 c1 p f.nu wB hFB (by omega) eB ((bB.cell (block_lt_of_cell ct)).trans ct) (by omega) (by omega) (fun y hy => by rw [hfp] at hy; cases hy; simp) (fun j y hj hy => by
            have h9 := hO.out.2.2
            rw [hL] at h9 hy
            exact end_first h9 j y (by omega) hy))
          have HWB := hidn hwB
          have hp0 : ¬ ((p : Int) < 0) := by omega
          obtain ⟨q, hq⟩ : ∃ q, q = p + 3 := ⟨_, rfl⟩
          have hqi : (p : Int) + 3 = (q : Int) := by omega
          have hql : ¬ ((ml : Int) < (q : Int)) := by omega
          have hqc : (q : Int) ≤ (vc : Int) := by omega
          have hpq : (p : Int) ≤ (q : Int) := by omega
          have hqp : q - p = 3 := by omega
          have hpc : ¬ (vc = p) := by omega
          have hpc2 : ¬ ((vc : Int) = (p : Int)) := by omega
          have HQ := hidn hq
          have HPA := hidn hpA
          have HE3 := hidn hE
          have HLL := hidn hL
          have HFP := hidn hfp
          have hD3 : ∀ {W : World}, Fls W (some ⟨b, off, none⟩) ml L → Fls W (some ⟨b, off + p * 8, none⟩) 3 [f, g, x] := fun {W} hW => by
            have h9 := (hW.drop p (by omega)).take 3 (by omega)
            have e9 : (L.drop p).take 3 = [f, g, x] := by rw [HLL.out, HPA.out]; simp
            rw [e9] at h9
            exact h9
          clear hwB hm1 hE hq hpA hL hfp qB
          go_wp2_with fail
          rw [← HWB.out]
          refine HI.out.mono ?_
          rintro e w2 ⟨rfl, b2⟩
          have B2 := BB.trans (b2.mono BB.size)
          have hF2 := hFB.below b2
          have HG := hidn (merged_any (some ⟨b, off + p * 8, none⟩) 3 (vc - p) [f, g, x] (nx : Int) 2 w2 (hD3 hF2) (by omega) (by omega))
          have hEI : EndI (A ++ f :: g :: x :: B) (nx : Int) := by rw [← HLL.out]; exact hO.out.2.2
          rw [mgV_yes (end_ok hEI hk (by omega) (by omega))] at HG
          go_wp2_with fail
          refine HG.out.mono ?_
          rintro e w3 ⟨d, rfl, pd, hd, b3⟩
          simp only [Fo.pv, Prod.mk.injEq] at pd
          obtain ⟨d1, d2, d3, d4, d5, d6, d7, d8⟩ := pd
          have HNX := hidn (end_next (d := d) hEI hk (by omega) (by omega) ⟨d1, d2, d3, d4, d5, d6, d7⟩)
          have B3 := B2.trans (b3.mono B2.size)
          have HD3 := hidn d3
          have HD8 := hidn d8
          clear d1 d2 d3 d4 d5 d6 d7 d8 hEI
          obtain ⟨wD, hwD⟩ : ∃ wD, wD = w3.alloc (.cells #[.int .i64 d.nu, .int .i64 d.ge, .int .i64 d.lv, .int .i64 d.rk, .int .i64 d.mn, .int .i64 d.mx, .int .i64 d.bt, .slice d.pa d.pl d.pc] 32) := ⟨_, rfl⟩
          have bD : Below w3.heap.size w3 wD := by rw [hwD]; exact (Below.refl _ w3).alloc (Nat.le_refl _) _
          have qD : wD.heap[w3.heap.size]? = some (.cells #[.int .i64 d.nu, .int .i64 d.ge, .int .i64 d.lv, .int .i64 d.rk, .int .i64 d.mn, .int .i64 d.mx, .int .i64 d.bt, .slice d.pa d.pl d.pc] 32 (0, 0)) := by rw [hwD]; exact heap_alloc_new w3 _
          have BD := B3.trans (bD.mono B3.size)
          have HWD := hidn hwD
          clear hwD
          simp only [Fo.agg]
          go_wp2_with fail
          rw [← HWD.out]
          have hsB : w1.heap.size < wB.heap.size := block_lt_of_cell eB
          have eD : wD.cell? ⟨w1.heap.size, 0, none⟩ = some (.slice (some ⟨tb, tf, none⟩) 3 c1) := (bD.cell (Nat.lt_of_lt_of_le hsB (Nat.le_trans b2.size b3.size))).trans ((b3.cell (Nat.lt_of_lt_of_le hsB b2.size)).trans ((b2.cell hsB).trans eB))
          have hFD := (hF2.below b3).below bD
          obtain ⟨_, _, e9, hbD, -, -, lfD, -⟩ := hFD.at HFP.out
          cases e9
          have x2 : wD.cell? ⟨w3.heap.size, 2, none⟩ = some (.int .i64 d.lv) := cell_of_row _ _ _ _ _ _ qD
          have x7 : wD.cell? ⟨w3.heap.size, 7, none⟩ = some (.slice d.pa d.pl d.pc) := cell_of_row _ _ _ _ _ _ qD
          have hDs : w3.heap.size < wD.heap.size := (Array.getElem?_eq_some_iff.1 qD).1
          have hpl : d.pl = 3 := by rw [← hd.1.1, HD8.out]; rfl
          obtain ⟨dpa, hdpa⟩ : ∃ y, y = d.pa := ⟨_, rfl⟩
          have hnl : f.lv < 3 ∧ 1 ≤ f.lv := by
            have h7 := okM_lv hk
            have h8 := ((pcL_iff _).1 hO.out.2.2.1).1 f (List.mem_of_getElem? HFP.out)
            exact ⟨h7.2.2, (standF_true h8).2.2.2.1⟩
          have hlv2 : (d.lv != f.lv + 1) = false := by rw [HD3.out]; simp
          have iD : Ils wD d.pa 3 [f.nu, g.nu, x.nu] := by
            have h7 := hd.1.below bD
            rw [hpl, HD8.out] at h7
            exact h7
          have iT : Ils wD (some ⟨tb, tf, none⟩) 3 [f.nu, g.nu, x.nu] := by
            have h7 := (((i1.below bB).below b2).below b3).below bD
            rw [HE3.out] at h7
            exact h7
          rw [hpl] at x7 qD ⊢
          have HEQ := equal_same d.pa (some ⟨tb, tf, none⟩) 3 d.pc c1 [f.nu, g.nu, x.nu] wD.drew iD iT
          have BE : Below w.heap.size w wD.drew := BD.drew
          refine wp_region_noPanic ?_
          refine wp_region_held_drew (S := fun w' => w'.cell? ⟨w3.heap.size, 2, none⟩ = some (.int .i64 d.lv) ∧ w'.cell? ⟨w3.heap.size, 7, none⟩ = some (.slice d.pa 3 d.pc) ∧ w'.cell? ⟨b, off + p * 8 + 2, none⟩ = some (.int .i64 f.lv) ∧ w'.cell? ⟨w1.heap.size, 0, none⟩ = some (.slice (some ⟨tb, tf, none⟩) 3 c1)) (by kernel_rfl) (⟨x2, x7, lfD, eD⟩) (fun hHeld => ?_)
          refine drawn_take (i := 0) (v := .int .i64 0) (some 68) rfl rfl (by kernel_rfl) (by kernel_rfl) (by kernel_rfl) (fun _ _ _ h => h) (Or.inl ⟨by kernel_rfl, fun wq hw => by go_simp⟩) hHeld ?_
          simp only [Act.put, List.setIfInBounds_toArray, List.set_cons_succ, List.set_cons_zero]
          refine drawn_take (i := 1) (v := .bool false) (some 69) rfl rfl (by kernel_rfl) (by kernel_rfl) (by kernel_rfl) (fun _ _ _ h => h) (Or.inl ⟨by kernel_rfl, fun wq hw => by go_simp⟩) hHeld ?_
          simp only [Act.put, List.setIfInBounds_toArray, List.set_cons_succ, List.set_cons_zero]
          refine drawn_take (i := 2) (v := .bool false) (some 70) rfl rfl (by kernel_rfl) (by kernel_rfl) (by kernel_rfl) (fun _ _ _ h => h) (Or.inl ⟨by kernel_rfl, fun wq hw => by go_simp⟩) hHeld ?_
          simp only [Act.put, List.setIfInBounds_toArray, List.set_cons_succ, List.set_cons_zero]
          refine drawn_take (i := 3) (v := .pointer (some ⟨w3.heap.size, 2, none⟩)) (some 71) rfl rfl (by kernel_rfl) (by kernel_rfl) (by kernel_rfl) (fun _ _ _ h => h) (Or.inl ⟨by kernel_rfl, fun wq hw => by go_simp⟩) hHeld ?_
          simp only [Act.put, List.setIfInBounds_toArray, List.set_cons_succ, List.set_cons_zero]
          refine drawn_take (i := 4) (v := .int .i64 d.lv) (some 72) rfl rfl (by kernel_rfl) (by kernel_rfl) (by kernel_rfl) (fun _ _ _ h => h) (Or.inl ⟨by kernel_rfl, fun wq hw => by have q9 := hw.1; go_simp⟩) hHeld ?_
          simp only [Act.put, List.setIfInBounds_toArray, List.set_cons_succ, List.set_cons_zero]
          refine drawn_take (i := 5) (v := .slice (some ⟨b, off, none⟩) ml vc) (some 73) rfl rfl (by kernel_rfl) (by kernel_rfl) (by kernel_rfl) (fun _ _ _ h => h) (Or.inl ⟨by kernel_rfl, fun wq hw => by go_simp⟩) hHeld ?_
          simp only [Act.put, List.setIfInBounds_toArray, List.set_cons_succ, List.set_cons_zero]
          refine drawn_take (i := 6) (v := .int .i64 (p : Int)) (some 74) rfl rfl (by kernel_rfl) (by kernel_rfl) (by kernel_rfl) (fun _ _ _ h => h) (Or.inl ⟨by kernel_rfl, fun wq hw => by go_simp⟩) hHeld ?_
          simp only [Act.put, List.setIfInBounds_toArray, List.set_cons_succ, List.set_cons_zero]
          refine drawn_take (i := 7) (v := .pointer (some ⟨b, off + p * 8, none⟩)) (some 75) rfl rfl (by kernel_rfl) (by kernel_rfl) (by kernel_rfl) (fun _ _ _ h => h) (Or.inl ⟨by kernel_rfl, fun wq hw => by go_simp; intro h9; omega⟩) hHeld ?_
          simp only [Act.put, List.setIfInBounds_toArray, List.set_cons_succ, List.set_cons_zero]
          refine drawn_take (i := 8) (v := .pointer (some ⟨b, off + p * 8 + 2, none⟩)) (some 76) rfl rfl (by kernel_rfl) (by kernel_rfl) (by kernel_rfl) (fun _ _ _ h => h) (Or.inl ⟨by kernel_rfl, fun wq hw => by go_simp⟩) hHeld ?_
          simp only [Act.put, List.setIfInBounds_toArray, List.set_cons_succ, List.set_cons_zero]
          refine drawn_take (i := 9) (v := .int .i64 f.lv) (some 77) rfl rfl (by kernel_rfl) (by kernel_rfl) (by kernel_rfl) (fun _ _ _ h => h) (Or.inl ⟨by kernel_rfl, fun wq hw => by have q9 := hw.2.2.1; go_simp⟩) hHeld ?_
          simp only [Act.put, List.setIfInBounds_toArray, List.set_cons_succ, List.set_cons_zero]
          refine drawn_take (i := 10) (v := .int .i64 (f.lv + 1)) (some 78) rfl rfl (by kernel_rfl) (by kernel_rfl) (by kernel_rfl) (fun _ _ _ h => h) (Or.inl ⟨by kernel_rfl, fun wq hw => by go_simp; rw [IntKind.wrap_i64]; omega⟩) hHeld ?_
          simp only [Act.put, List.setIfInBounds_toArray, List.set_cons_succ, List.set_cons_zero]
          refine drawn_take (i := 11) (v := .bool false) (some 79) rfl rfl (by kernel_rfl) (by kernel_rfl) (by kernel_rfl) (fun _ _ _ h => h) (Or.inl ⟨by kernel_rfl, fun wq hw => by go_simp⟩) hHeld ?_
          simp only [Act.put, List.setIfInBounds_toArray, List.set_cons_succ, List.set_cons_zero]
          refine drawn_take (i := 12) (v := .bool false) (some 80) rfl rfl (by kernel_rfl) (by kernel_rfl) (by kernel_rfl) (fun _ _ _ h => h) (Or.inl ⟨by kernel_rfl, fun wq hw => by go_simp⟩) hHeld ?_
          simp only [Act.put, List.setIfInBounds_toArray, List.set_cons_succ, List.set_cons_zero]
          refine drawn_take (i := 13) (v := .bool false) (some 81) rfl rfl (by kernel_rfl) (by kernel_rfl) (by kernel_rfl) (fun _ _ _ h => h) (Or.inl ⟨by kernel_rfl, fun wq hw => by go_simp⟩) hHeld ?_
          simp only [Act.put, List.setIfInBounds_toArray, List.set_cons_succ, List.set_cons_zero]
          refine drawn_take (i := 14) (v := .pointer (some ⟨w3.heap.size, 7, none⟩)) (some 82) rfl rfl (by kernel_rfl) (by kernel_rfl) (by kernel_rfl) (fun _ _ _ h => h) (Or.inl ⟨by kernel_rfl, fun wq hw => by go_simp⟩) hHeld ?_
          simp only [Act.put, List.setIfInBounds_toArray, List.set_cons_succ, List.set_cons_zero]
          refine drawn_take (i := 15) (v := .slice d.pa 3 d.pc) (some 83) rfl rfl (by kernel_rfl) (by kernel_rfl) (by kernel_rfl) (fun _ _ _ h => h) (Or.inl ⟨by kernel_rfl, fun wq hw => by have q9 := hw.2.1; go_simp⟩) hHeld ?_
          simp only [Act.put, List.setIfInBounds_toArray, List.set_cons_succ, List.set_cons_zero]
          refine drawn_take (i := 16) (v := .slice (some ⟨tb, tf, none⟩) 3 c1) (some 84) rfl rfl (by kernel_rfl) (by kernel_rfl) (by kernel_rfl) (fun _ _ _ h => h) (Or.inl ⟨by kernel_rfl, fun wq hw => by have q9 := hw.2.2.2; go_simp⟩) hHeld ?_
          simp only [Act.put, List.setIfInBounds_toArray, List.set_cons_succ, List.set_cons_zero]
          refine wpAnyH_ready (rs := [17]) (by kernel_rfl) (by simp) ?_
          refine rdy_callw (i := 17) rfl (by kernel_rfl) (some 85) rfl 12 #[.slice d.pa 3 d.pc, .slice (some ⟨tb, tf, none⟩) 3 c1] (call2_run (x := 83) (y := 84) (ts := #[26, 26]) (by kernel_rfl) (fun _ _ => rfl) (by kernel_rfl) (by kernel_rfl)) (fun v w' => v = .bool true ∧ Below wD.drew.heap.size wD.drew w') (HEQ.mono fun e w' hh => ⟨_, hh.1, rfl, hh.2⟩) (fun r w9 hR => ?_) rdy_nil
          obtain ⟨rfl, b9⟩ := hR
          have hsz : wD.drew.heap.size = wD.heap.size := rfl
          refine ⟨⟨(b9.cell hDs).trans x2, (b9.cell hDs).trans x7, (b9.cell hbD).trans lfD, (b9.cell (block_lt_of_cell eD)).trans eD⟩, fun hHeld => ?_⟩
          simp only [Act.put, List.setIfInBounds_toArray, List.set_cons_succ, List.set_cons_zero]
          refine drawn_take (i := 18) (v := .bool false) (some 86) rfl rfl (by kernel_rfl) (by kernel_rfl) (by kernel_rfl) (fun _ _ _ h => h) (Or.inl ⟨by kernel_rfl, fun wq hw => by go_simp⟩) hHeld ?_
          simp only [Act.put, List.setIfInBounds_toArray, List.set_cons_succ, List.set_cons_zero]
          refine drawn_take (i := 19) (v := .bool false) (some 87) rfl rfl (by kernel_rfl) (by kernel_rfl) (by kernel_rfl) (fun _ _ _ h => h) (Or.inl ⟨by kernel_rfl, fun wq hw => by go_simp⟩) hHeld ?_
          simp only [Act.put, List.setIfInBounds_toArray, List.set_cons_succ, List.set_cons_zero]
          refine wpAnyH_done (by kernel_rfl) ?_ _
          refine NoPanic.normal ?_
          clear hHeld
          have B9 := BE.trans (b9.mono BE.size)
          have q9 : w9.heap[w3.heap.size]? = some (.cells #[.int .i64 d.nu, .int .i64 d.ge, .int .i64 d.lv, .int .i64 d.rk, .int .i64 d.mn, .int .i64 d.mx, .int .i64 d.bt, .slice d.pa 3 d.pc] 32 (0, 0)) := (b9.block _ hDs).trans qD
          have bE9 : Below wD.heap.size wD w9 := (Below.refl _ wD).drew.trans b9
          have hF9 : Fls w9 (some ⟨b, off, none⟩) ml L := hFD.below bE9
          have i9 : Ils w9 d.pa 3 [f.nu, g.nu, x.nu] := iD.below bE9
          clear x2 x7 lfD eD qD HEQ
          obtain ⟨o3, ho3⟩ : ∃ o3, o3 = if vc = q then off else off + q * 8 := ⟨_, rfl⟩
          have HO3 : Hid ((vc = q ∧ o3 = off) ∨ (¬ (vc = q) ∧ o3 = off + q * 8)) := hidn (by
            by_cases hvq : vc = q
            · exact .inl ⟨hvq, by rw [ho3, if_pos hvq]⟩
            · exact .inr ⟨hvq, by rw [ho3, if_neg hvq]⟩)
          clear ho3
          have hqml : (q : Int) ≤ (ml : Int) := by omega
          have hmv : (ml : Int) ≤ (vc : Int) := by omega
          have hpv : (p : Int) ≤ (vc : Int) := by omega
          obtain ⟨wX, hwX⟩ : ∃ wX, wX = w9.drew.alloc (.cells #[.int .i64 d.nu, .int .i64 d.ge, .int .i64 d.lv, .int .i64 d.rk, .int .i64 d.mn, .int .i64 d.mx, .int .i64 d.bt, .slice d.pa 3 d.pc] 32) := ⟨_, rfl⟩
          have bX : Below w9.heap.size w9 wX := by rw [hwX]; exact (Below.refl _ w9).drew.alloc (Nat.le_refl _) _
          have qX : wX.heap[w9.heap.size]? = some (.cells #[.int .i64 d.nu, .int .i64 d.ge, .int .i64 d.lv, .int .i64 d.rk, .int .i64 d.mn, .int .i64 d.mx, .int .i64 d.bt, .slice d.pa 3 d.pc] 32 (0, 0)) := by rw [hwX]; exact heap_alloc_new w9.drew _
          have sX : wX.heap.size = w9.heap.size + 1 := by rw [hwX]; simp
          obtain ⟨wY, hwY⟩ : ∃ wY, wY = wX.alloc (.cells #[.slice (some ⟨b, off, none⟩) p vc, .slice (some ⟨w9.heap.size, 0, none⟩) 1 1, .slice (some ⟨b, o3, none⟩) (ml - q) (vc - q)] 22) := ⟨_, rfl⟩
          have bY : Below wX.heap.size wX wY := by rw [hwY]; exact (Below.refl _ wX).alloc (Nat.le_refl _) _
          have qY : wY.heap[wX.heap.size]? = some (.cells #[.slice (some ⟨b, off, none⟩) p vc, .slice (some ⟨w9.heap.size, 0, none⟩) 1 1, .slice (some ⟨b, o3, none⟩) (ml - q) (vc - q)] 22 (0, 0)) := by rw [hwY]; exact heap_alloc_new wX _
          have hFY := (hF9.below bX).below bY
          have hs9 : w3.heap.size < w9.heap.size := (Array.getElem?_eq_some_iff.1 q9).1
          have k0 : ∀ j, w9.drew.cell? ⟨w3.heap.size, j, none⟩ = #[.int .i64 d.nu, .int .i64 d.ge, .int .i64 d.lv, .int .i64 d.rk, .int .i64 d.mn, .int .i64 d.mx, .int .i64 d.bt, .slice d.pa 3 d.pc][j]? := fun j => cell_of_row _ _ _ _ _ _ q9
          have kX : ∀ j, wX.cell? ⟨w3.heap.size, j, none⟩ = #[.int .i64 d.nu, .int .i64 d.ge, .int .i64 d.lv, .int .i64 d.rk, .int .i64 d.mn, .int .i64 d.mx, .int .i64 d.bt, .slice d.pa 3 d.pc][j]? := fun j => cell_of_row _ _ _ _ _ _ ((bX.block _ hs9).trans q9)
          have kY : ∀ j, wY.cell? ⟨w3.heap.size, j, none⟩ = #[.int .i64 d.nu, .int .i64 d.ge, .int .i64 d.lv, .int .i64 d.rk, .int .i64 d.mn, .int .i64 d.mx, .int .i64 d.bt, .slice d.pa 3 d.pc][j]? := fun j => cell_of_row _ _ _ _ _ _ ((bY.block _ (by omega)).trans ((bX.block _ hs9).trans q9))
          have HS0 : Hid (w9.drew.cell? ⟨w3.heap.size, 0, none⟩ = some (.int .i64 d.nu) ∧ w9.drew.cell? ⟨w3.heap.size, 1, none⟩ = some (.int .i64 d.ge) ∧ w9.drew.cell? ⟨w3.heap.size, 2, none⟩ = some (.int .i64 d.lv) ∧ w9.drew.cell? ⟨w3.heap.size, 3, none⟩ = some (.int .i64 d.rk) ∧ w9.drew.cell? ⟨w3.heap.size, 4, none⟩ = some (.int .i64 d.mn) ∧ w9.drew.cell? ⟨w3.heap.size, 5, none⟩ = some (.int .i64 d.mx) ∧ w9.drew.cell? ⟨w3.heap.size, 6, none⟩ = some (.int .i64 d.bt) ∧ w9.drew.cell? ⟨w3.heap.size, 7, none⟩ = some (.slice d.pa 3 d.pc)) := hidn ⟨k0 0, k0 1, k0 2, k0 3, k0 4, k0 5, k0 6, k0 7⟩
          have HC : Calls Try.prog 29 #[.slice (some ⟨wX.heap.size, 0, none⟩) 3 3] wY fun e w' => ∃ v, e = .returned v ∧ w'.ownsRow wY.heap.size 32 8 v (A ++ d :: B).length (fvs (A ++ d :: B)) ∧ Below wY.heap.size wY w' := by
            have hA : L.take p = A := by rw [HLL.out, HPA.out]; simp
            have hBd : L.drop q = B := by rw [HLL.out, HQ.out, HPA.out]; simp [List.drop_append]
            have hBl : ml - q = B.length := by rw [← hBd, List.length_drop, ← HML.out]
            have cat : catL [⟨b, off, p, vc, A⟩, ⟨w9.heap.size, 0, 1, 1, [d]⟩, ⟨b, o3, ml - q, vc - q, B⟩] = A ++ d :: B := by simp [catL]
            have hcl : (A ++ d :: B).length ≤ 1000 := by
              have h8 := HML.out
              rw [HLL.out] at h8
              simp at h8 ⊢
              omega
            have := concat_any wX.heap.size 3 3 [⟨b, off, p, vc, A⟩, ⟨w9.heap.size, 0, 1, 1, [d]⟩, ⟨b, o3, ml - q, vc - q, B⟩] wY (fun k s hs => by
              match k, hs with
              | 0, hs =>
                simp at hs
                subst hs
                refine ⟨cell_of_row _ _ _ _ _ _ qY, ?_⟩
                have h8 := hFY.take p (by omega)
                rw [hA] at h8
                exact h8
              | 1, hs =>
                simp at hs
                subst hs
                refine ⟨cell_of_row _ _ _ _ _ _ qY, rfl, (by show 1 ≤ maxLen; decide), (fun e => by cases e), fun y hy => ?_, fun y hy j e he k v hv => ?_⟩
                · rw [List.mem_singleton.1 hy]
                  refine ⟨?_, hd.2⟩
                  rw [hpl, HD8.out]
                  exact (i9.below bX).below bY
                · cases hy
                  have hj : j = 0 := by
                    have := (List.getElem?_eq_some_iff.1 he).1
                    simpa using this
                  subst hj
                  simp at he
                  subst he
                  rw [ladd_none, cell_of_row _ _ _ _ _ _ ((bY.block _ (by omega)).trans qX)]
                  simp only [Fo.cells, hpl] at hv
                  rw [Nat.zero_mul, Nat.zero_add, Nat.zero_add, ← hv]
                  simp
              | 2, hs =>
                simp at hs
                subst hs
                refine ⟨cell_of_row _ _ _ _ _ _ qY, ?_⟩
                rcases HO3.out with ⟨h8, h9⟩ | ⟨h8, h9⟩
                · have e0 : ml - q = 0 := by omega
                  have eB : B = [] := List.length_eq_zero_iff.1 (by omega)
                  show Fls wY (some ⟨b, o3, none⟩) (ml - q) B
                  rw [e0, eB]
                  exact ⟨rfl, Nat.zero_le _, (fun e => by cases e), (fun y hy => by cases hy), fun y hy j e he => by simp at he⟩
                · show Fls wY (some ⟨b, o3, none⟩) (ml - q) B
                  rw [h9, ← hBd]
                  exact hFY.drop q (by omega)
              | k + 3, hs => simp at hs) rfl (by rw [cat]; exact hcl) (by omega)
            rw [cat] at this
            exact this
          have BY : Below w.heap.size w wY := (B9.trans (bX.mono B9.size)).trans (bY.mono (by have := B9.size; omega))
          have HWX := hidn hwX
          have HWY := hidn hwY
          have hXs : w.heap.size ≤ wY.heap.size := BY.size
          have KX := hidn kX
          have KY := hidn kY
          clear hwX hwY k0 kX kY
          go_wp2_with fail
          refine wp_region_noPanic ?_
          refine wp_region_held_drew (S := fun w' => w'.cell? ⟨w3.heap.size, 0, none⟩ = some (.int .i64 d.nu) ∧ w'.cell? ⟨w3.heap.size, 1, none⟩ = some (.int .i64 d.ge) ∧ w'.cell? ⟨w3.heap.size, 2, none⟩ = some (.int .i64 d.lv) ∧ w'.cell? ⟨w3.heap.size, 3, none⟩ = some (.int .i64 d.rk) ∧ w'.cell? ⟨w3.heap.size, 4, none⟩ = some (.int .i64 d.mn) ∧ w'.cell? ⟨w3.heap.size, 5, none⟩ = some (.int .i64 d.mx) ∧ w'.cell? ⟨w3.heap.size, 6, none⟩ = some (.int .i64 d.bt) ∧ w'.cell? ⟨w3.heap.size, 7, none⟩ = some (.slice d.pa 3 d.pc)) (by kernel_rfl) (HS0.out) (fun hHeld => ?_)
          refine drawn_take (i := 0) (v := .slice (some ⟨b, off, none⟩) ml vc) (some 88) rfl rfl (by kernel_rfl) (by kernel_rfl) (by kernel_rfl) (fun _ _ _ h => h) (Or.inl ⟨by kernel_rfl, fun wq hw => by go_simp⟩) hHeld ?_
          simp only [Act.put, List.setIfInBounds_toArray, List.set_cons_succ, List.set_cons_zero]
          refine drawn_take (i := 1) (v := .int .i64 (p : Int)) (some 89) rfl rfl (by kernel_rfl) (by kernel_rfl) (by kernel_rfl) (fun _ _ _ h => h) (Or.inl ⟨by kernel_rfl, fun wq hw => by go_simp⟩) hHeld ?_
          simp only [Act.put, List.setIfInBounds_toArray, List.set_cons_succ, List.set_cons_zero]
          refine drawn_take (i := 2) (v := .slice (some ⟨b, off, none⟩) p vc) (some 90) rfl rfl (by kernel_rfl) (by kernel_rfl) (by kernel_rfl) (fun _ _ _ h => h) (Or.inl ⟨by kernel_rfl, fun wq hw => by go_simp⟩) hHeld ?_
          simp only [Act.put, List.setIfInBounds_toArray, List.set_cons_succ, List.set_cons_zero]
          refine drawn_take (i := 3) (v := .agg #[.int .i64 d.nu, .int .i64 d.ge, .int .i64 d.lv, .int .i64 d.rk, .int .i64 d.mn, .int .i64 d.mx, .int .i64 d.bt, .slice d.pa 3 d.pc]) (some 91) rfl rfl (by kernel_rfl) (by kernel_rfl) (by kernel_rfl) (fun _ _ _ h => h) (Or.inl ⟨by kernel_rfl, fun wq hw => by obtain ⟨q0, q1, q2, q3, q4, q5, q6, q7⟩ := hw; go_simp⟩) hHeld ?_
          simp only [Act.put, List.setIfInBounds_toArray, List.set_cons_succ, List.set_cons_zero]
          refine drawn_take (i := 5) (v := .slice (some ⟨b, off, none⟩) ml vc) (some 93) rfl rfl (by kernel_rfl) (by kernel_rfl) (by kernel_rfl) (fun _ _ _ h => h) (Or.inl ⟨by kernel_rfl, fun wq hw => by go_simp⟩) hHeld ?_
          simp only [Act.put, List.setIfInBounds_toArray, List.set_cons_succ, List.set_cons_zero]
          refine drawn_take (i := 6) (v := .int .i64 (p : Int)) (some 94) rfl rfl (by kernel_rfl) (by kernel_rfl) (by kernel_rfl) (fun _ _ _ h => h) (Or.inl ⟨by kernel_rfl, fun wq hw => by go_simp⟩) hHeld ?_
          simp only [Act.put, List.setIfInBounds_toArray, List.set_cons_succ, List.set_cons_zero]
          refine drawn_take (i := 7) (v := .int .i64 (q : Int)) (some 95) rfl rfl (by kernel_rfl) (by kernel_rfl) (by kernel_rfl) (fun _ _ _ h => h) (Or.inl ⟨by kernel_rfl, fun wq hw => by go_simp; first | (rw [IntKind.wrap_i64]; omega) | (unfold wrap64; omega)⟩) hHeld ?_
          simp only [Act.put, List.setIfInBounds_toArray, List.set_cons_succ, List.set_cons_zero]
          refine drawn_take (i := 8) (v := .slice (some ⟨b, o3, none⟩) (ml - q) (vc - q)) (some 96) rfl rfl (by kernel_rfl) (by kernel_rfl) (by kernel_rfl) (fun _ _ _ h => h) (Or.inl ⟨by kernel_rfl, fun wq hw => by rcases HO3.out with ⟨h8, h9⟩ | ⟨h8, h9⟩ <;> (rw [h9]; go_simp)⟩) hHeld ?_
          simp only [Act.put, List.setIfInBounds_toArray, List.set_cons_succ, List.set_cons_zero]
          refine wpAnyH_ready (rs := [4]) (by kernel_rfl) (by simp) ?_
          refine rdy_val (i := 4) rfl rfl (some 92) rfl (.slice (some ⟨w9.heap.size, 0, none⟩) 1 1) (wX) (by rw [HWX.out]; go_simp) (⟨KX.out 0, KX.out 1, KX.out 2, KX.out 3, KX.out 4, KX.out 5, KX.out 6, KX.out 7⟩) (fun hHeld => ?_) rdy_nil
          simp only [Act.put, List.setIfInBounds_toArray, List.set_cons_succ, List.set_cons_zero]
          refine wpAnyH_ready (rs := [9]) (by kernel_rfl) (by simp) ?_
          refine rdy_val (i := 9) rfl rfl (some 97) rfl (.slice (some ⟨wX.heap.size, 0, none⟩) 3 3) (wY) (by rw [HWY.out]; go_simp) (⟨KY.out 0, KY.out 1, KY.out 2, KY.out 3, KY.out 4, KY.out 5, KY.out 6, KY.out 7⟩) (fun hHeld => ?_) rdy_nil
          simp only [Act.put, List.setIfInBounds_toArray, List.set_cons_succ, List.set_cons_zero]
          refine wpAnyH_ready (rs := [10]) (by kernel_rfl) (by simp) ?_
          refine rdy_call (i := 10) rfl rfl (some 98) rfl 29 #[.slice (some ⟨wX.heap.size, 0, none⟩) 3 3] (call1_run (x := 97) (ts := #[61]) (by kernel_rfl) (fun _ _ => rfl) (by kernel_rfl)) (fun v w' => w'.ownsRow wY.heap.size 32 8 v (A ++ d :: B).length (fvs (A ++ d :: B)) ∧ Below wY.heap.size wY w') (HC) (fun r w9 hR => ?_) rdy_nil
          obtain ⟨o10, b10⟩ := hR
          obtain ⟨xa, xc, rfl⟩ := own_slice o10
          have hYs : w3.heap.size < wY.heap.size := block_lt_of_cell (KY.out 0)
          refine ⟨⟨(b10.cell hYs).trans (KY.out 0), (b10.cell hYs).trans (KY.out 1), (b10.cell hYs).trans (KY.out 2), (b10.cell hYs).trans (KY.out 3), (b10.cell hYs).trans (KY.out 4), (b10.cell hYs).trans (KY.out 5), (b10.cell hYs).trans (KY.out 6), (b10.cell hYs).trans (KY.out 7)⟩, fun hHeld => ?_⟩
          simp only [Act.put, List.setIfInBounds_toArray, List.set_cons_succ, List.set_cons_zero]
          refine drawn_take (i := 11) (v := .slice xa (A ++ d :: B).length xc) (some 3) rfl rfl (by kernel_rfl) (by kernel_rfl) (by kernel_rfl) (fun _ _ _ h => h) (Or.inl ⟨by kernel_rfl, fun wq hw => by go_simp⟩) hHeld ?_
          simp only [Act.put, List.setIfInBounds_toArray, List.set_cons_succ, List.set_cons_zero]
          refine wpAnyH_done (by kernel_rfl) ?_ _
          refine NoPanic.normal ?_
          clear hHeld
          have B10 := BY.trans (b10.mono BY.size)
          have hPar : ∀ y ∈ A ++ d :: B, Ils w9 y.pa y.pl y.ps ∧ y.pl ≤ y.pc := fun y hy => by
            rcases List.mem_append.1 hy with hy | hy
            · have h8 := hFY.2.2.2.1 y (by rw [HLL.out]; exact List.mem_append_left _ hy)
              exact ⟨h8.1.below b10, h8.2⟩
            · rcases List.mem_cons.1 hy with rfl | hy
              · refine ⟨?_, hd.2⟩
                rw [hpl, HD8.out]
                exact ((i9.below bX).below bY).below b10
              · have h8 := hFY.2.2.2.1 y (by rw [HLL.out]; simp [hy])
                exact ⟨h8.1.below b10, h8.2⟩
          obtain ⟨_, _, e10, hF10, hxc⟩ := fls_of_own o10 hPar
          cases e10
          have hlen2 : (A ++ d :: B).length + 2 = ml := by rw [HML.out, HLL.out]; simp; omega
          have HO10 : Hid (w9.ownsRow w.heap.size 32 8 (.slice xa (A ++ d :: B).length xc) (A ++ d :: B).length (fvs (A ++ d :: B))) := hidn (own_lower o10 hXs)
          have HPar := hidn hPar
          have HR2 : Hid ((A ++ d :: B).length + 2 * (r + 1) ≤ 20) := hidn (by have := hR.out; have := HML.out; omega)
          have hr9 : r + 1 ≤ 10 := by have := hR.out; have := HML.out; omega
          generalize A ++ d :: B = L2 at *
          obtain ⟨m2, hm2⟩ : ∃ m, m = L2.length := ⟨_, rfl⟩
          have HCN := hidn (can_any xa L2.length xc L2 w9 hF10 (by omega) hxc)
          rw [HNX.out.1] at HCN
          rw [← hm2] at HCN ⊢
          have HM2 := hidn hm2
          clear o10 hF10 hPar hm2 hlen2
          go_wp2_with fail
          refine HCN.out.mono ?_
          rintro e w11 ⟨rfl, b11⟩
          have B11 := B10.trans (b11.mono B10.size)
          have HOF : Hid (w11.ownsRow w.heap.size 32 8 (.slice xa m2 xc) L2.length (fvs L2) ∧ (∀ y ∈ L2, Ils w11 y.pa y.pl y.ps ∧ y.pl ≤ y.pc) ∧ EndI L2 ((nx + 1 : Nat) : Int)) := hidn ⟨by rw [HM2.out]; exact own_skip HO10.out b11, fun y hy => ⟨(HPar.out y hy).1.below b11, (HPar.out y hy).2⟩, by have := HNX.out; rw [show ((nx + 1 : Nat) : Int) = (nx : Int) + 1 from by omega]; exact this⟩
          go_wp2_with fail
          exact ⟨⟨r + 1, nx + 1, _, L2, by simp, by simp, rfl, by omega, by omega, hr9, HR2, HOF, B11⟩, by simp [intOf]; omega⟩

end Go.Proofs.Ytjckfcholnkleaa
