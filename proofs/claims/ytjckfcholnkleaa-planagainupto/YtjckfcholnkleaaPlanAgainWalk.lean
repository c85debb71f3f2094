/- PlanAgain: the law. -/
import Derived.Test.YtjckfcholnkleaaPlX
import Derived.Test.YtjckfcholnkleaaPlY
import Derived.Test.YtjckfcholnkleaaPlFl
import Derived.Test.YtjckfcholnkleaaPlK
namespace Go.Proofs.Ytjckfcholnkleaa
open Go.RowKit Go.Joins
set_option linter.unusedVariables false

/-- What the second Live is told of the first one's answer. -/
theorem again_facts {l l' : List Fo} {gen fl : Int} {n : Nat} {w : World} {a : Option Addr} (h : Fls w a n l) (hW : FoW l) (hps : ∀ d ∈ l, d.pl ≤ 1048576) (hpv : l'.map Fo.pv = (liveTo l gen fl (heirsTo l gen n) n).map Fo.pv) :
    (sortE l').Pairwise Rk ∧ (sortE l').Pairwise Rs ∧ FoW (sortE l') ∧ (∀ d ∈ sortE l', d.ge ≤ gen ∧ ¬ (d.mx < fl ∧ d.bt ≠ 0)) ∧ ∀ d ∈ sortE l', d.ps.length ≤ 1048576 := by
  have hy : ∀ d ∈ sortE l', ∃ y ∈ l, y.pv = d.pv ∧ y.ge ≤ gen ∧ ¬ (y.mx < fl ∧ y.bt ≠ 0) := fun d hd => by
    obtain ⟨y, hy, he⟩ := pv_mem hpv ((sortE_perm l').mem_iff.1 hd)
    obtain ⟨k, hk, hx⟩ := liveTo_mem hy
    obtain ⟨h1, h2, h3, _⟩ := liveAt_mem hx
    exact ⟨y, List.mem_of_getElem? h1, he, h2, h3⟩
  refine ⟨sort_pairs (pv_pairs hpv (live_pairs l gen fl n n (Nat.le_refl _))), sortE_sorted l', fun d hd => ?_, fun d hd => ?_, fun d hd => ?_⟩
  · obtain ⟨y, hm, he, _⟩ := hy d hd
    simp only [Fo.pv, Prod.mk.injEq] at he
    obtain ⟨e1, e2, e3, e4, e5, e6, e7, e8⟩ := he
    rw [← e1, ← e8]
    exact hW y hm
  · obtain ⟨y, hm, he, h2, h3⟩ := hy d hd
    simp only [Fo.pv, Prod.mk.injEq] at he
    obtain ⟨e1, e2, e3, e4, e5, e6, e7, e8⟩ := he
    rw [← e2, ← e6, ← e7]
    exact ⟨h2, h3⟩
  · obtain ⟨y, hm, he, h2, h3⟩ := hy d hd
    simp only [Fo.pv, Prod.mk.injEq] at he
    obtain ⟨e1, e2, e3, e4, e5, e6, e7, e8⟩ := he
    rw [← e8, (h.2.2.2.1 y hm).1.1]
    exact hps y hm

set_option maxHeartbeats 2000000 in
set_option maxRecDepth 100000 in
theorem planAgain_walk (a : Option Addr) (len cap : Nat) (l0 : List Fo) (gen fl : Int) (w : World) (h0 : Fls w a len l0) (hW0 : FoW l0) (hc0 : len ≤ cap) (hps0 : ∀ d ∈ l0, d.pl ≤ 1048576) :
    Calls Try.prog 6 #[.slice a len cap, .int .i64 gen, .int .i64 fl] w fun e w' => e = .returned (.bool true) ∧ Below w.heap.size w w' := by
  obtain ⟨n, hn, hn14, HC⟩ := cut_any a len cap w hc0
  have HC2 := hidn HC
  clear HC
  have h := h0.take n hn
  have hW : FoW (l0.take n) := fun d hd => hW0 d (List.mem_of_mem_take hd)
  have hps : ∀ d ∈ l0.take n, d.pl ≤ 1048576 := fun d hd => hps0 d (List.mem_of_mem_take hd)
  generalize l0.take n = l at *
  have H1 := hidn (live_any a n cap l gen fl w h hW (by omega) hps)
  clear h0 hc0 hW0 hps0
  go_enter Try.func6, Try.ntmps6
  go_wp2_with fail
  refine HC2.out.mono ?_
  rintro e w0 ⟨rfl, rfl⟩
  go_wp2_with fail
  refine H1.out.mono ?_
  rintro e w1 ⟨v, l', rfl, hO, hpv, hl14, b1⟩
  obtain ⟨hP, hR, hWM, hK, hPM⟩ := again_facts h hW hps hpv
  have hq14 : (sortE l').length ≤ 14 := by rw [sortE_len]; exact hl14
  clear hpv hl14 H1 hps hW h
  generalize sortE l' = M at *
  obtain ⟨va, vc, rfl, hF, hvc⟩ := hO.fls
  obtain ⟨q, hq0⟩ : ∃ q, q = M.length := ⟨_, rfl⟩
  rw [← hq0] at hF hvc hq14 ⊢
  have hq := hidn hq0.symm
  have hpM : ∀ d ∈ M, d.pl ≤ 1048576 := fun d hd => by rw [← (hO.2 d hd).2]; exact hPM d hd
  have HP := hidn hP
  have HR := hidn hR
  have HK := hidn hK
  have H2 := fun w2 (b : Below w1.heap.size w1 w2) => live_any va q vc M gen fl w2 (hF.below b) hWM hq14 hpM
  rw [again_all hq.out hP hK] at H2
  have HH2 := hidn H2
  clear hq0 hP hR hK H2 hPM hpM hO
  go_wp2_with fail
  go_loopw [20] (fun iv wr => ∃ (i : Nat), i ≤ q ∧ iv = .int .i64 (i : Int) ∧ Below w1.heap.size w1 wr) (fun iv _ => q - (intOf iv).toNat)
  case atStart => exact ⟨0, Nat.zero_le _, rfl, Below.refl _ _⟩
  case round =>
    obtain ⟨wo, hwo⟩ : ∃ wo, wo = wr := ⟨wr, rfl⟩
    subst hwo
    obtain ⟨i, hi, rfl, hb⟩ := hrel
    by_cases hlt : i < q
    · have hlt2 : (i : Int) < (q : Int) := by omega
      obtain ⟨d, hd⟩ : ∃ d, M[i]? = some d := ⟨_, List.getElem?_eq_getElem (by rw [hq.out]; exact hlt)⟩
      obtain ⟨b, off, rfl, hbk, c0, c1, c2, c3, c4, c5, c6, c7, hms⟩ := (hF.below hb).at hd
      have hg' : ¬ gen < d.ge := by
        have := (HK.out d (List.mem_of_getElem? hd)).1
        omega
      have HNP : Hid (∀ j o, ¬ j = i → M[j]? = some o → o.ps.contains d.nu = false) := hidn (fun j o hji ho => by
        obtain ⟨h1, h1'⟩ := List.getElem?_eq_some_iff.1 hd
        obtain ⟨h2, h2'⟩ := List.getElem?_eq_some_iff.1 ho
        have hp2 := List.pairwise_iff_getElem.1 HP.out
        have hnot : d.nu ∉ o.ps := by
          rcases Nat.lt_or_gt_of_ne hji with hx | hx
          · have := (hp2 j i h2 h1 hx).2
            rw [h1', h2'] at this
            exact this
          · have := (hp2 i j h1 h2 hx).1
            rw [h1', h2'] at this
            exact this
        cases hc : o.ps.contains d.nu with
        | false => rfl
        | true => exact absurd (List.contains_iff_mem.1 hc) hnot)
      obtain ⟨wA, hwA⟩ : ∃ wA, wA = wo.alloc (.cells #[.int .i64 d.nu, .int .i64 d.ge, .int .i64 d.lv, .int .i64 d.rk, .int .i64 d.mn, .int .i64 d.mx, .int .i64 d.bt, .slice d.pa d.pl d.pc] 32) := ⟨_, rfl⟩
      have bA : Below wo.heap.size wo wA := by rw [hwA]; exact (Below.refl _ wo).alloc (Nat.le_refl _) _
      have BA := hb.trans (bA.mono hb.size)
      have HQA : Hid (wA.heap[wo.heap.size]? = some (.cells #[.int .i64 d.nu, .int .i64 d.ge, .int .i64 d.lv, .int .i64 d.rk, .int .i64 d.mn, .int .i64 d.mx, .int .i64 d.bt, .slice d.pa d.pl d.pc] 32 (0, 0))) := hidn (by rw [hwA]; exact heap_alloc_new wo _)
      have f1 : wA.cell? ⟨wo.heap.size, 1, none⟩ = some (.int .i64 d.ge) := cell_of_row _ _ _ _ _ _ HQA.out
      have f3 : wA.cell? ⟨wo.heap.size, 3, none⟩ = some (.int .i64 d.rk) := cell_of_row _ _ _ _ _ _ HQA.out
      have HWA := hidn hwA
      have BA0 := BA
      clear hwA
      by_cases hi0 : i = 0
      · have hi1 : ¬ (0 : Int) < (i : Int) := by omega
        clear hi0 hd
        go_wp2_with fail
        rw [← HWA.out]
        refine wp_region_noPanic ?_
        refine wp_region_held_drew (S := fun w' => w'.cell? ⟨wo.heap.size, 1, none⟩ = some (.int .i64 d.ge)) (by kernel_rfl) (f1) (fun hHeld => ?_)
        refine drawn_take (i := 0) (v := .pointer (some ⟨wo.heap.size, 1, none⟩)) (some 25) rfl rfl (by kernel_rfl) (by kernel_rfl) (by kernel_rfl) (fun _ _ _ h => h) (Or.inl ⟨by kernel_rfl, fun wq hw => by go_simp⟩) hHeld ?_
        simp only [Act.put, List.setIfInBounds_toArray, List.set_cons_succ, List.set_cons_zero]
        refine drawn_take (i := 1) (v := .int .i64 d.ge) (some 26) rfl rfl (by kernel_rfl) (by kernel_rfl) (by kernel_rfl) (fun _ _ _ h => h) (Or.inl ⟨by kernel_rfl, fun wq hw => by have q9 := hw; go_simp⟩) hHeld ?_
        simp only [Act.put, List.setIfInBounds_toArray, List.set_cons_succ, List.set_cons_zero]
        refine drawn_take (i := 2) (v := .int .i64 gen) (some 27) rfl rfl (by kernel_rfl) (by kernel_rfl) (by kernel_rfl) (fun _ _ _ h => h) (Or.inl ⟨by kernel_rfl, fun wq hw => by go_simp⟩) hHeld ?_
        simp only [Act.put, List.setIfInBounds_toArray, List.set_cons_succ, List.set_cons_zero]
        refine drawn_take (i := 3) (v := .bool false) (some 28) rfl rfl (by kernel_rfl) (by kernel_rfl) (by kernel_rfl) (fun _ _ _ h => h) (Or.inl ⟨by kernel_rfl, fun wq hw => by go_simp⟩) hHeld ?_
        simp only [Act.put, List.setIfInBounds_toArray, List.set_cons_succ, List.set_cons_zero]
        refine drawn_take (i := 4) (v := .bool false) (some 29) rfl rfl (by kernel_rfl) (by kernel_rfl) (by kernel_rfl) (fun _ _ _ h => h) (Or.inl ⟨by kernel_rfl, fun wq hw => by go_simp⟩) hHeld ?_
        simp only [Act.put, List.setIfInBounds_toArray, List.set_cons_succ, List.set_cons_zero]
        refine drawn_take (i := 5) (v := .int .i64 (i : Int)) (some 30) rfl rfl (by kernel_rfl) (by kernel_rfl) (by kernel_rfl) (fun _ _ _ h => h) (Or.inl ⟨by kernel_rfl, fun wq hw => by go_simp⟩) hHeld ?_
        simp only [Act.put, List.setIfInBounds_toArray, List.set_cons_succ, List.set_cons_zero]
        refine drawn_take (i := 6) (v := .bool false) (some 31) rfl rfl (by kernel_rfl) (by kernel_rfl) (by kernel_rfl) (fun _ _ _ h => h) (Or.inl ⟨by kernel_rfl, fun wq hw => by go_simp; omega⟩) hHeld ?_
        simp only [Act.put, List.setIfInBounds_toArray, List.set_cons_succ, List.set_cons_zero]
        refine drawn_take (i := 7) (v := .bool false) (some 32) rfl rfl (by kernel_rfl) (by kernel_rfl) (by kernel_rfl) (fun _ _ _ h => h) (Or.inl ⟨by kernel_rfl, fun wq hw => by go_simp⟩) hHeld ?_
        simp only [Act.put, List.setIfInBounds_toArray, List.set_cons_succ, List.set_cons_zero]
        refine drawn_take (i := 8) (v := undef) (some 33) rfl rfl (by kernel_rfl) (by kernel_rfl) (by kernel_rfl) (fun _ _ _ h => h) (Or.inr ⟨by kernel_rfl, rfl⟩) hHeld ?_
        simp only [Act.put, List.setIfInBounds_toArray, List.set_cons_succ, List.set_cons_zero]
        refine drawn_take (i := 9) (v := undef) (some 34) rfl rfl (by kernel_rfl) (by kernel_rfl) (by kernel_rfl) (fun _ _ _ h => h) (Or.inr ⟨by kernel_rfl, rfl⟩) hHeld ?_
        simp only [Act.put, List.setIfInBounds_toArray, List.set_cons_succ, List.set_cons_zero]
        refine drawn_take (i := 10) (v := undef) (some 35) rfl rfl (by kernel_rfl) (by kernel_rfl) (by kernel_rfl) (fun _ _ _ h => h) (Or.inr ⟨by kernel_rfl, rfl⟩) hHeld ?_
        simp only [Act.put, List.setIfInBounds_toArray, List.set_cons_succ, List.set_cons_zero]
        refine drawn_take (i := 11) (v := undef) (some 36) rfl rfl (by kernel_rfl) (by kernel_rfl) (by kernel_rfl) (fun _ _ _ h => h) (Or.inr ⟨by kernel_rfl, rfl⟩) hHeld ?_
        simp only [Act.put, List.setIfInBounds_toArray, List.set_cons_succ, List.set_cons_zero]
        refine drawn_take (i := 12) (v := undef) (some 37) rfl rfl (by kernel_rfl) (by kernel_rfl) (by kernel_rfl) (fun _ _ _ h => h) (Or.inr ⟨by kernel_rfl, rfl⟩) hHeld ?_
        simp only [Act.put, List.setIfInBounds_toArray, List.set_cons_succ, List.set_cons_zero]
        refine drawn_take (i := 13) (v := undef) (some 38) rfl rfl (by kernel_rfl) (by kernel_rfl) (by kernel_rfl) (fun _ _ _ h => h) (Or.inr ⟨by kernel_rfl, rfl⟩) hHeld ?_
        simp only [Act.put, List.setIfInBounds_toArray, List.set_cons_succ, List.set_cons_zero]
        refine drawn_take (i := 14) (v := undef) (some 39) rfl rfl (by kernel_rfl) (by kernel_rfl) (by kernel_rfl) (fun _ _ _ h => h) (Or.inr ⟨by kernel_rfl, rfl⟩) hHeld ?_
        simp only [Act.put, List.setIfInBounds_toArray, List.set_cons_succ, List.set_cons_zero]
        refine drawn_take (i := 15) (v := undef) (some 40) rfl rfl (by kernel_rfl) (by kernel_rfl) (by kernel_rfl) (fun _ _ _ h => h) (Or.inr ⟨by kernel_rfl, rfl⟩) hHeld ?_
        simp only [Act.put, List.setIfInBounds_toArray, List.set_cons_succ, List.set_cons_zero]
        refine drawn_take (i := 16) (v := undef) (some 41) rfl rfl (by kernel_rfl) (by kernel_rfl) (by kernel_rfl) (fun _ _ _ h => h) (Or.inr ⟨by kernel_rfl, rfl⟩) hHeld ?_
        simp only [Act.put, List.setIfInBounds_toArray, List.set_cons_succ, List.set_cons_zero]
        refine drawn_take (i := 17) (v := .bool false) (some 42) rfl rfl (by kernel_rfl) (by kernel_rfl) (by kernel_rfl) (fun _ _ _ h => h) (Or.inl ⟨by kernel_rfl, fun wq hw => by go_simp⟩) hHeld ?_
        simp only [Act.put, List.setIfInBounds_toArray, List.set_cons_succ, List.set_cons_zero]
        refine drawn_take (i := 18) (v := .bool false) (some 43) rfl rfl (by kernel_rfl) (by kernel_rfl) (by kernel_rfl) (fun _ _ _ h => h) (Or.inl ⟨by kernel_rfl, fun wq hw => by go_simp⟩) hHeld ?_
        simp only [Act.put, List.setIfInBounds_toArray, List.set_cons_succ, List.set_cons_zero]
        refine wpAnyH_done (by kernel_rfl) ?_ _
        refine NoPanic.normal ?_
        clear hHeld
        clear f1 f3 c0 c1 c2 c3 c4 c5 c6 c7 hms bA hbk
        go_wp2_with fail
        go_loopw [46] (fun jv wr => ∃ (j : Nat), j ≤ q ∧ jv = .int .i64 (j : Int) ∧ Hid (wr.heap[wo.heap.size]? = some (.cells #[.int .i64 d.nu, .int .i64 d.ge, .int .i64 d.lv, .int .i64 d.rk, .int .i64 d.mn, .int .i64 d.mx, .int .i64 d.bt, .slice d.pa d.pl d.pc] 32 (0, 0))) ∧ Below w1.heap.size w1 wr) (fun jv _ => q - (intOf jv).toNat)
        case atStart => exact ⟨0, Nat.zero_le _, rfl, HQA, BA.drew⟩
        case round =>
          obtain ⟨j, hj, rfl, hQ, hb2⟩ := hrel
          by_cases hjl : j < q
          · have hjl2 : (j : Int) < (q : Int) := by omega
            obtain ⟨o, ho⟩ : ∃ o, M[j]? = some o := ⟨_, List.getElem?_eq_getElem (by rw [hq.out]; exact hjl)⟩
            obtain ⟨b2, o2, he2, hbk2, y0, y1, y2, y3, y4, y5, y6, y7, hmo⟩ := (hF.below hb2).at ho
            obtain ⟨rfl, rfl⟩ : b = b2 ∧ off = o2 := by
              injection he2 with he2
              injection he2 with e1 e2
              exact ⟨e1, e2⟩
            clear he2
            obtain ⟨wB, hwB⟩ : ∃ wB, wB = wr.alloc (.cells #[.int .i64 o.nu, .int .i64 o.ge, .int .i64 o.lv, .int .i64 o.rk, .int .i64 o.mn, .int .i64 o.mx, .int .i64 o.bt, .slice o.pa o.pl o.pc] 32) := ⟨_, rfl⟩
            have bB : Below wr.heap.size wr wB := by rw [hwB]; exact (Below.refl _ wr).alloc (Nat.le_refl _) _
            have BB := hb2.trans (bB.mono hb2.size)
            have hoB : wo.heap.size < wr.heap.size := (Array.getElem?_eq_some_iff.1 hQ.out).1
            have HQB := hidn ((bB.block _ hoB).trans hQ.out)
            have x0 : wr.cell? ⟨wo.heap.size, 0, none⟩ = some (.int .i64 d.nu) := cell_of_row _ _ _ _ _ _ hQ.out
            have HWB := hidn hwB
            have hne0 : wo.heap.size ≠ wr.heap.size := by omega
            by_cases hji : j = i
            · have hji2 : ((j : Int) != (i : Int)) = false := by simp [hji]
              clear hji hwB ho
              go_wp2_with fail
              rw [← HWB.out]
              exact ⟨⟨j + 1, by omega, by simp, HQB, BB⟩, by simp [intOf]; omega⟩
            · have hji2 : ((j : Int) != (i : Int)) = true := by
                simp
                omega
              have HCT := hidn (contains_any o.pa o.pl o.pc o.ps d.nu wB (hmo.1.below bB))
              rw [show o.ps.contains d.nu = false from HNP.out j o hji ho] at HCT
              clear hji hwB ho
              go_wp2_with fail
              rw [← HWB.out]
              refine HCT.out.mono ?_
              rintro e w5 ⟨rfl, rfl⟩
              go_wp2_with fail
              exact ⟨⟨j + 1, by omega, by simp, HQB, BB⟩, by simp [intOf]; omega⟩
          · have hjl2 : ¬ (j : Int) < (q : Int) := by omega
            go_wp2_with fail
            exact ⟨⟨i + 1, by omega, by simp, hb2⟩, by simp [intOf]; omega⟩
      · obtain ⟨p, hp⟩ : ∃ p, i = p + 1 := ⟨i - 1, by omega⟩
        obtain ⟨x, hx⟩ : ∃ x, M[p]? = some x := ⟨_, List.getElem?_eq_getElem (by rw [hq.out]; omega)⟩
        have hrk : ¬ d.rk < x.rk := by
          obtain ⟨h1, h1'⟩ := List.getElem?_eq_some_iff.1 hd
          obtain ⟨h2, h2'⟩ := List.getElem?_eq_some_iff.1 hx
          have := List.pairwise_iff_getElem.1 HR.out p i h2 h1 (by omega)
          rw [h1', h2'] at this
          unfold Rs at this
          omega
        obtain ⟨b3, o3, he3, hbk3, _, _, _, g3, _⟩ := (hF.below BA).at hx
        obtain ⟨rfl, rfl⟩ : b = b3 ∧ off = o3 := by
          injection he3 with he3
          injection he3 with e1 e2
          exact ⟨e1, e2⟩
        have hi1 : (0 : Int) < (i : Int) := by omega
        have hpi : (i : Int) - 1 = (p : Int) := by omega
        have hpq : (p : Int) < (q : Int) := by omega
        clear hi0 hd hx hp he3
        go_wp2_with fail
        rw [← HWA.out]
        refine wp_region_noPanic ?_
        refine wp_region_held_drew (S := fun w' => w'.cell? ⟨wo.heap.size, 1, none⟩ = some (.int .i64 d.ge) ∧ w'.cell? ⟨wo.heap.size, 3, none⟩ = some (.int .i64 d.rk) ∧ w'.cell? ⟨b, off + p * 8 + 3, none⟩ = some (.int .i64 x.rk)) (by kernel_rfl) (⟨f1, f3, g3⟩) (fun hHeld => ?_)
        refine drawn_take (i := 0) (v := .pointer (some ⟨wo.heap.size, 1, none⟩)) (some 25) rfl rfl (by kernel_rfl) (by kernel_rfl) (by kernel_rfl) (fun _ _ _ h => h) (Or.inl ⟨by kernel_rfl, fun wq hw => by go_simp⟩) hHeld ?_
        simp only [Act.put, List.setIfInBounds_toArray, List.set_cons_succ, List.set_cons_zero]
        refine drawn_take (i := 1) (v := .int .i64 d.ge) (some 26) rfl rfl (by kernel_rfl) (by kernel_rfl) (by kernel_rfl) (fun _ _ _ h => h) (Or.inl ⟨by kernel_rfl, fun wq hw => by have q9 := hw.1; go_simp⟩) hHeld ?_
        simp only [Act.put, List.setIfInBounds_toArray, List.set_cons_succ, List.set_cons_zero]
        refine drawn_take (i := 2) (v := .int .i64 gen) (some 27) rfl rfl (by kernel_rfl) (by kernel_rfl) (by kernel_rfl) (fun _ _ _ h => h) (Or.inl ⟨by kernel_rfl, fun wq hw => by go_simp⟩) hHeld ?_
        simp only [Act.put, List.setIfInBounds_toArray, List.set_cons_succ, List.set_cons_zero]
        refine drawn_take (i := 3) (v := .bool false) (some 28) rfl rfl (by kernel_rfl) (by kernel_rfl) (by kernel_rfl) (fun _ _ _ h => h) (Or.inl ⟨by kernel_rfl, fun wq hw => by go_simp⟩) hHeld ?_
        simp only [Act.put, List.setIfInBounds_toArray, List.set_cons_succ, List.set_cons_zero]
        refine drawn_take (i := 4) (v := .bool false) (some 29) rfl rfl (by kernel_rfl) (by kernel_rfl) (by kernel_rfl) (fun _ _ _ h => h) (Or.inl ⟨by kernel_rfl, fun wq hw => by go_simp⟩) hHeld ?_
        simp only [Act.put, List.setIfInBounds_toArray, List.set_cons_succ, List.set_cons_zero]
        refine drawn_take (i := 5) (v := .int .i64 (i : Int)) (some 30) rfl rfl (by kernel_rfl) (by kernel_rfl) (by kernel_rfl) (fun _ _ _ h => h) (Or.inl ⟨by kernel_rfl, fun wq hw => by go_simp⟩) hHeld ?_
        simp only [Act.put, List.setIfInBounds_toArray, List.set_cons_succ, List.set_cons_zero]
        refine drawn_take (i := 6) (v := .bool true) (some 31) rfl rfl (by kernel_rfl) (by kernel_rfl) (by kernel_rfl) (fun _ _ _ h => h) (Or.inl ⟨by kernel_rfl, fun wq hw => by go_simp; omega⟩) hHeld ?_
        simp only [Act.put, List.setIfInBounds_toArray, List.set_cons_succ, List.set_cons_zero]
        refine drawn_take (i := 7) (v := .bool true) (some 32) rfl rfl (by kernel_rfl) (by kernel_rfl) (by kernel_rfl) (fun _ _ _ h => h) (Or.inl ⟨by kernel_rfl, fun wq hw => by go_simp⟩) hHeld ?_
        simp only [Act.put, List.setIfInBounds_toArray, List.set_cons_succ, List.set_cons_zero]
        refine drawn_take (i := 8) (v := .slice (some ⟨b, off, none⟩) q vc) (some 33) rfl rfl (by kernel_rfl) (by kernel_rfl) (by kernel_rfl) (fun _ _ _ h => h) (Or.inl ⟨by kernel_rfl, fun wq hw => by go_simp⟩) hHeld ?_
        simp only [Act.put, List.setIfInBounds_toArray, List.set_cons_succ, List.set_cons_zero]
        refine drawn_take (i := 9) (v := .int .i64 (i : Int)) (some 34) rfl rfl (by kernel_rfl) (by kernel_rfl) (by kernel_rfl) (fun _ _ _ h => h) (Or.inl ⟨by kernel_rfl, fun wq hw => by go_simp⟩) hHeld ?_
        simp only [Act.put, List.setIfInBounds_toArray, List.set_cons_succ, List.set_cons_zero]
        refine drawn_take (i := 10) (v := .int .i64 (p : Int)) (some 35) rfl rfl (by kernel_rfl) (by kernel_rfl) (by kernel_rfl) (fun _ _ _ h => h) (Or.inl ⟨by kernel_rfl, fun wq hw => by go_simp; first | (rw [IntKind.wrap_i64]; omega) | (unfold wrap64; omega)⟩) hHeld ?_
        simp only [Act.put, List.setIfInBounds_toArray, List.set_cons_succ, List.set_cons_zero]
        refine drawn_take (i := 11) (v := .pointer (some ⟨b, off + p * 8, none⟩)) (some 36) rfl rfl (by kernel_rfl) (by kernel_rfl) (by kernel_rfl) (fun _ _ _ h => h) (Or.inl ⟨by kernel_rfl, fun wq hw => by go_simp⟩) hHeld ?_
        simp only [Act.put, List.setIfInBounds_toArray, List.set_cons_succ, List.set_cons_zero]
        refine drawn_take (i := 12) (v := .pointer (some ⟨b, off + p * 8 + 3, none⟩)) (some 37) rfl rfl (by kernel_rfl) (by kernel_rfl) (by kernel_rfl) (fun _ _ _ h => h) (Or.inl ⟨by kernel_rfl, fun wq hw => by go_simp⟩) hHeld ?_
        simp only [Act.put, List.setIfInBounds_toArray, List.set_cons_succ, List.set_cons_zero]
        refine drawn_take (i := 13) (v := .int .i64 x.rk) (some 38) rfl rfl (by kernel_rfl) (by kernel_rfl) (by kernel_rfl) (fun _ _ _ h => h) (Or.inl ⟨by kernel_rfl, fun wq hw => by have q9 := hw.2.2; go_simp⟩) hHeld ?_
        simp only [Act.put, List.setIfInBounds_toArray, List.set_cons_succ, List.set_cons_zero]
        refine drawn_take (i := 14) (v := .pointer (some ⟨wo.heap.size, 3, none⟩)) (some 39) rfl rfl (by kernel_rfl) (by kernel_rfl) (by kernel_rfl) (fun _ _ _ h => h) (Or.inl ⟨by kernel_rfl, fun wq hw => by go_simp⟩) hHeld ?_
        simp only [Act.put, List.setIfInBounds_toArray, List.set_cons_succ, List.set_cons_zero]
        refine drawn_take (i := 15) (v := .int .i64 d.rk) (some 40) rfl rfl (by kernel_rfl) (by kernel_rfl) (by kernel_rfl) (fun _ _ _ h => h) (Or.inl ⟨by kernel_rfl, fun wq hw => by have q9 := hw.2.1; go_simp⟩) hHeld ?_
        simp only [Act.put, List.setIfInBounds_toArray, List.set_cons_succ, List.set_cons_zero]
        refine drawn_take (i := 16) (v := .bool false) (some 41) rfl rfl (by kernel_rfl) (by kernel_rfl) (by kernel_rfl) (fun _ _ _ h => h) (Or.inl ⟨by kernel_rfl, fun wq hw => by go_simp⟩) hHeld ?_
        simp only [Act.put, List.setIfInBounds_toArray, List.set_cons_succ, List.set_cons_zero]
        refine drawn_take (i := 17) (v := .bool false) (some 42) rfl rfl (by kernel_rfl) (by kernel_rfl) (by kernel_rfl) (fun _ _ _ h => h) (Or.inl ⟨by kernel_rfl, fun wq hw => by go_simp⟩) hHeld ?_
        simp only [Act.put, List.setIfInBounds_toArray, List.set_cons_succ, List.set_cons_zero]
        refine drawn_take (i := 18) (v := .bool false) (some 43) rfl rfl (by kernel_rfl) (by kernel_rfl) (by kernel_rfl) (fun _ _ _ h => h) (Or.inl ⟨by kernel_rfl, fun wq hw => by go_simp⟩) hHeld ?_
        simp only [Act.put, List.setIfInBounds_toArray, List.set_cons_succ, List.set_cons_zero]
        refine wpAnyH_done (by kernel_rfl) ?_ _
        refine NoPanic.normal ?_
        clear hHeld
        clear f1 f3 c0 c1 c2 c3 c4 c5 c6 c7 hms bA hbk g3 hrk hpi hpq hi1
        go_wp2_with fail
        go_loopw [46] (fun jv wr => ∃ (j : Nat), j ≤ q ∧ jv = .int .i64 (j : Int) ∧ Hid (wr.heap[wo.heap.size]? = some (.cells #[.int .i64 d.nu, .int .i64 d.ge, .int .i64 d.lv, .int .i64 d.rk, .int .i64 d.mn, .int .i64 d.mx, .int .i64 d.bt, .slice d.pa d.pl d.pc] 32 (0, 0))) ∧ Below w1.heap.size w1 wr) (fun jv _ => q - (intOf jv).toNat)
        case atStart => exact ⟨0, Nat.zero_le _, rfl, HQA, BA.drew⟩
        case round =>
          obtain ⟨j, hj, rfl, hQ, hb2⟩ := hrel
          by_cases hjl : j < q
          · have hjl2 : (j : Int) < (q : Int) := by omega
            obtain ⟨o, ho⟩ : ∃ o, M[j]? = some o := ⟨_, List.getElem?_eq_getElem (by rw [hq.out]; exact hjl)⟩
            obtain ⟨b2, o2, he2, hbk2, y0, y1, y2, y3, y4, y5, y6, y7, hmo⟩ := (hF.below hb2).at ho
            obtain ⟨rfl, rfl⟩ : b = b2 ∧ off = o2 := by
              injection he2 with he2
              injection he2 with e1 e2
              exact ⟨e1, e2⟩
            clear he2
            obtain ⟨wB, hwB⟩ : ∃ wB, wB = wr.alloc (.cells #[.int .i64 o.nu, .int .i64 o.ge, .int .i64 o.lv, .int .i64 o.rk, .int .i64 o.mn, .int .i64 o.mx, .int .i64 o.bt, .slice o.pa o.pl o.pc] 32) := ⟨_, rfl⟩
            have bB : Below wr.heap.size wr wB := by rw [hwB]; exact (Below.refl _ wr).alloc (Nat.le_refl _) _
            have BB := hb2.trans (bB.mono hb2.size)
            have hoB : wo.heap.size < wr.heap.size := (Array.getElem?_eq_some_iff.1 hQ.out).1
            have HQB := hidn ((bB.block _ hoB).trans hQ.out)
            have x0 : wr.cell? ⟨wo.heap.size, 0, none⟩ = some (.int .i64 d.nu) := cell_of_row _ _ _ _ _ _ hQ.out
            have HWB := hidn hwB
            have hne0 : wo.heap.size ≠ wr.heap.size := by omega
            by_cases hji : j = i
            · have hji2 : ((j : Int) != (i : Int)) = false := by simp [hji]
              clear hji hwB ho
              go_wp2_with fail
              rw [← HWB.out]
              exact ⟨⟨j + 1, by omega, by simp, HQB, BB⟩, by simp [intOf]; omega⟩
            · have hji2 : ((j : Int) != (i : Int)) = true := by
                simp
                omega
              have HCT := hidn (contains_any o.pa o.pl o.pc o.ps d.nu wB (hmo.1.below bB))
              rw [show o.ps.contains d.nu = false from HNP.out j o hji ho] at HCT
              clear hji hwB ho
              go_wp2_with fail
              rw [← HWB.out]
              refine HCT.out.mono ?_
              rintro e w5 ⟨rfl, rfl⟩
              go_wp2_with fail
              exact ⟨⟨j + 1, by omega, by simp, HQB, BB⟩, by simp [intOf]; omega⟩
          · have hjl2 : ¬ (j : Int) < (q : Int) := by omega
            go_wp2_with fail
            exact ⟨⟨i + 1, by omega, by simp, hb2⟩, by simp [intOf]; omega⟩
    · have hlt2 : ¬ (i : Int) < (q : Int) := by omega
      have HL2 := hidn (HH2.out wo hb)
      go_wp2_with fail
      refine HL2.out.mono ?_
      rintro e w2 ⟨v2, l2, rfl, hO2, hpv2, hl214, b2⟩
      have hs2 : sortE l2 = l2 := sortE_id (pv_sorted hpv2 HR.out)
      rw [hs2] at hO2
      obtain ⟨va2, vc2, rfl, hF2, hvc2⟩ := hO2.fls
      have hlq : l2.length = q := by
        have := congrArg List.length hpv2
        simp only [List.length_map] at this
        rw [this, hq.out]
      rw [hlq] at hF2 ⊢
      have B2 := hb.trans (b2.mono hb.size)
      have HSF := hidn (sameFooters_same va2 va q vc2 vc l2 M w2 hF2 (hF.below B2) hpv2 hq14)
      have B20 : Below w0.heap.size w0 w2 := b1.trans (B2.mono b1.size)
      clear hpv2 hs2 hO2 hlq hF2 hvc2 hl214
      go_wp2_with fail
      refine HSF.out.mono ?_
      rintro e w3 ⟨rfl, b3⟩
      have B3 := B20.trans (b3.mono B20.size)
      go_wp2_with fail
      refine (awake16 _).mono ?_
      rintro e w9 ⟨rfl, rfl⟩
      go_wp2_with fail
      exact bodyPost_ret (v := .bool true) (by simp [results, Try.results6, go_sem]) rfl ⟨rfl, B3⟩

end Go.Proofs.Ytjckfcholnkleaa
