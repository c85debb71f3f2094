/- head.New, Append at one row; awake. -/
import Derived.Test.YtbobhekbfaghpaaGreatHdC
namespace Go.Proofs.YtbobhekbfaghpaaGreat
open Go.RowKit Go.Joins Go.Maps
set_option linter.unusedVariables false

theorem mapP_below {w w' : World} {b n : Nat} {D : DataW Unit} (h : w.ownsMap Tryz.prog 9 hdP b n D) (hb : Below w.heap.size w w') : w'.ownsMap Tryz.prog 9 hdP b n D := by
  have hlt := h.lt
  obtain ⟨es, clock, hbk, F, hs, hD⟩ := h
  exact ⟨es, clock, (hb.block b hlt).trans hbk, F, hs, hD⟩

set_option maxHeartbeats 600000 in
set_option maxRecDepth 100000 in
theorem append1 (w : World) (h bm B : Nat) (v : Value) (la : Option Addr) (lc : Nat) (n y : ByteArray) (t x : Int) (hh : w.cell? ⟨h, 0, none⟩ = some (.map (some bm))) (hm : w.ownsMap Tryz.prog 9 hdP bm 0 (.map [])) (hR : One w v [.slice la 1 lc, .int .i64 t, .int .u64 x]) (hL : One w (.slice la 1 lc) [.string n, .string y])
    (hn : n.size ≤ maxLen) (hy : y.size ≤ maxLen) (hc : canOK [(n, y)] = true) (hB : B ≤ bm) :
    Calls Tryz.prog 4 #[.pointer (some ⟨h, 0, none⟩), v] w fun e w' => e = .returned (.int .i64 0) ∧ Head1 w' h ∧ Below B w w' := by
  have HMY := hidn (isMade_yes w h bm hh)
  have hbm := hm.lt
  have HR := hidn hR
  obtain ⟨rb, ro, rc, rfl, hrc, hcc⟩ := hR
  have c0 : w.cell? ⟨rb, ro, none⟩ = some (.slice la 1 lc) := hcc 0 _ rfl
  have c1 : w.cell? ⟨rb, ro + 1, none⟩ = some (.int .i64 t) := hcc 1 _ rfl
  have c2 : w.cell? ⟨rb, ro + 2, none⟩ = some (.int .u64 x) := hcc 2 _ rfl
  obtain ⟨_, _, e0, hLs⟩ := ls_one hL hn hy
  cases e0
  clear hcc
  go_enter Tryz.func4, Tryz.ntmps4
  go_wp2_with fail
  refine HMY.out.mono ?_
  rintro e w0 ⟨rfl, rfl⟩
  go_wp2_with fail
  go_loopw [14] (fun iv wr => ∃ k : Nat, k ≤ 1 ∧ iv = .int .i64 (k : Int) ∧ Below w0.heap.size w0 wr) (fun iv _ => 1 - (intOf iv).toNat)
  case atStart => exact ⟨0, by omega, rfl, Below.refl _ _⟩
  case round =>
    obtain ⟨k, hk, rfl, hb⟩ := hrel
    by_cases hk0 : k = 0
    · subst hk0
      have d0 : wr.cell? ⟨rb, ro, none⟩ = some (.slice la 1 lc) := (hb.cell (block_lt_of_cell c0)).trans c0
      have d1 : wr.cell? ⟨rb, ro + 1, none⟩ = some (.int .i64 t) := (hb.cell (block_lt_of_cell c1)).trans c1
      have d2 : wr.cell? ⟨rb, ro + 2, none⟩ = some (.int .u64 x) := (hb.cell (block_lt_of_cell c2)).trans c2
      obtain ⟨wA, hwA⟩ : ∃ wA, wA = wr.alloc (.cells #[.slice la 1 lc, .int .i64 t, .int .u64 x] 44) := ⟨_, rfl⟩
      have bA : Below wr.heap.size wr wA := by rw [hwA]; exact (Below.refl _ wr).alloc (Nat.le_refl _) _
      have BA := hb.trans (bA.mono hb.size)
      have HC := hidn (can_any la 1 lc [(n, y)] wA (hLs.below BA) (by decide))
      rw [hc] at HC
      have HWA := hidn hwA
      clear hwA
      go_wp2_with fail
      rw [← HWA.out]
      refine HC.out.mono ?_
      rintro e w1 ⟨rfl, b1⟩
      have B1 := BA.trans (b1.mono BA.size)
      go_wp2_with fail
      exact ⟨⟨1, by omega, by simp, B1⟩, by simp [intOf]⟩
    · obtain rfl : k = 1 := by omega
      have HSO := hidn (seriesOf1 wr (.slice (some ⟨rb, ro, none⟩) 1 rc) la 1 lc t x (HR.out.below hb))
      clear hk0
      go_wp2_with fail
      refine HSO.out.mono ?_
      rintro e w1 ⟨v1, rfl, o1, b1⟩
      have B1 := hb.trans (b1.mono hb.size)
      have HME := hidn (merge1 w1 v1 la lc n y t x o1 (hL.below B1))
      have o1' := o1
      obtain ⟨pv1, ⟨sb, so, sc, rfl, -, -⟩, -⟩ := o1'
      go_wp2_with fail
      refine HME.out.mono ?_
      rintro e w2 ⟨v2, rfl, o2, b2⟩
      have B2 := B1.trans (b2.mono B1.size)
      obtain ⟨lv, pv, own2, ⟨k1, k2⟩, l2, p2⟩ := o2
      obtain ⟨mb, mo, mc, rfl, hmc, hmm⟩ := one_of_own own2
      obtain ⟨lb, lo, lcc, rfl, -, -⟩ := id l2
      obtain ⟨qb, qo, qc, rfl, -, -⟩ := id p2
      have s0 : w2.cell? ⟨mb, mo, none⟩ = some (.slice (some ⟨lb, lo, none⟩) 1 lcc) := hmm 0 _ rfl
      have s1 : w2.cell? ⟨mb, mo + 1, none⟩ = some (.slice (some ⟨qb, qo, none⟩) 1 qc) := hmm 1 _ rfl
      have hh2 : w2.cell? ⟨h, 0, none⟩ = some (.map (some bm)) := (B2.cell (block_lt_of_cell hh)).trans hh
      have hm2 := mapP_below hm B2
      clear hmm own2
      go_wp2_with fail
      go_loopw [27] (fun iv wr => ∃ k : Nat, k ≤ 1 ∧ iv = .int .i64 (k : Int) ∧ Hid (k = 0 → w2 = wr) ∧ Hid (k = 1 → Head1 wr h ∧ Below B w0 wr)) (fun iv _ => 1 - (intOf iv).toNat)
      case atStart => exact ⟨0, by omega, rfl, hidn (fun _ => rfl), hidn (fun h => by cases h)⟩
      case round =>
        obtain ⟨k, hk, rfl, hX, hY⟩ := hrel
        by_cases hk0 : k = 0
        · subst hk0
          obtain rfl := hX.out rfl
          clear hX hY
          obtain ⟨wA, hwA⟩ : ∃ wA, wA = w2.alloc (.cells #[.slice (some ⟨lb, lo, none⟩) 1 lcc, .slice (some ⟨qb, qo, none⟩) 1 qc] 50) := ⟨_, rfl⟩
          have bA : Below w2.heap.size w2 wA := by rw [hwA]; exact (Below.refl _ w2).alloc (Nat.le_refl _) _
          have HP := hidn (put1 wA h bm B (.slice (some ⟨lb, lo, none⟩) 1 lcc) (.slice (some ⟨qb, qo, none⟩) 1 qc) n y t x ((bA.cell (block_lt_of_cell hh2)).trans hh2) (mapP_below hm2 bA) (l2.below bA) (p2.below bA) hn hy hc hB)
          have BA := B2.trans (bA.mono B2.size)
          have HWA := hidn hwA
          clear hwA
          go_wp2_with fail
          rw [← HWA.out]
          refine HP.out.mono ?_
          rintro e w5 ⟨rfl, h5, b5⟩
          have HF : Hid (Head1 w5 h ∧ Below B w0 w5) := hidn ⟨h5, (BA.mono (by omega)).trans b5⟩
          clear h5
          go_wp2_with fail
          exact ⟨⟨1, by omega, by simp, hidn (fun h => by cases h), hidn (fun _ => HF.out)⟩, by simp [intOf]⟩
        · obtain rfl : k = 1 := by omega
          have HF := hidn (hY.out rfl)
          clear hX hY hk0
          go_wp2_with fail
          exact bodyPost_ret (v := .int .i64 0) (by simp [results, Tryz.results4, go_sem]) rfl ⟨rfl, HF.out⟩

set_option maxHeartbeats 600000 in
set_option maxRecDepth 100000 in
theorem awake15 (w : World) : Calls Tryz.prog 10 #[] w fun e w' => e = .returned (.bool true) ∧ Below w.heap.size w w' := by
  obtain ⟨w1, hw1⟩ : ∃ w1, w1 = (w.alloc (.map #[] 0)).alloc (.cells #[.map (some w.heap.size)] 29) := ⟨_, rfl⟩
  have b1 : Below w.heap.size w w1 := by rw [hw1]; exact ((Below.refl _ w).alloc (Nat.le_refl _) _).alloc (by simp) _
  have m1 : w1.ownsMap Tryz.prog 9 hdP w.heap.size 0 (.map []) := by
    have := World.ownsMap_made (H := Unit) w Tryz.prog 9 hdP
    rw [hw1]
    exact mapP_below this ((Below.refl _ _).alloc (Nat.le_refl _) _)
  have s1 : w1.heap.size = w.heap.size + 2 := by rw [hw1]; simp
  have h1 : w1.cell? ⟨w.heap.size + 1, 0, none⟩ = some (.map (some w.heap.size)) := by
    have q : w1.heap[w.heap.size + 1]? = some (.cells #[.map (some w.heap.size)] 29 (0, 0)) := by rw [hw1]; exact heap_alloc2_new w _ _
    exact cell_of_row _ _ _ _ _ _ q
  have HN : Hid (Calls Tryz.prog 24 #[] w fun e w' => e = .returned (.pointer (some ⟨w.heap.size + 1, 0, none⟩)) ∧ w' = w1) := hidn (by
    have HW1 := hidn hw1
    clear hw1 b1 m1 s1 h1
    have hmk : (Instr.makeMap 27 none).run Tryz.prog w = .ok (.map (some w.heap.size)) (w.alloc (.map #[] 0)) := rfl
    go_enter Tryz.func24, Tryz.ntmps24
    go_wp2_with fail
    rw [← HW1.out]
    exact bodyPost_ret (v := .pointer (some ⟨w.heap.size + 1, 0, none⟩)) (by simp [results, Tryz.results24, go_sem]) rfl ⟨rfl, rfl⟩)
  obtain ⟨w2, hw2⟩ : ∃ w2, w2 = (w1.alloc (.cells #[.string ⟨#[97]⟩, .string ⟨#[120]⟩] 60)).alloc (.cells #[.slice (some ⟨w1.heap.size, 0, none⟩) 1 1, .int .i64 5, .int .u64 7] 44) := ⟨_, rfl⟩
  have b2 : Below w1.heap.size w1 w2 := by rw [hw2]; exact ((Below.refl _ w1).alloc (Nat.le_refl _) _).alloc (by simp) _
  have qL : w2.heap[w1.heap.size]? = some (.cells #[.string ⟨#[97]⟩, .string ⟨#[120]⟩] 60 (0, 0)) := by rw [hw2]; exact heap_alloc2_old w1 _ _
  have qR : w2.heap[w1.heap.size + 1]? = some (.cells #[.slice (some ⟨w1.heap.size, 0, none⟩) 1 1, .int .i64 5, .int .u64 7] 44 (0, 0)) := by rw [hw2]; exact heap_alloc2_new w1 _ _
  have oL : One w2 (.slice (some ⟨w1.heap.size, 0, none⟩) 1 1) [.string ⟨#[97]⟩, .string ⟨#[120]⟩] := ⟨_, 0, 1, rfl, Nat.le_refl _, fun i u hu => by rw [Nat.zero_add, cell_of_row _ _ _ _ _ _ qL, ← hu]; simp⟩
  have oR : One w2 (.slice (some ⟨w1.heap.size + 1, 0, none⟩) 1 1) [.slice (some ⟨w1.heap.size, 0, none⟩) 1 1, .int .i64 5, .int .u64 7] := ⟨_, 0, 1, rfl, Nat.le_refl _, fun i u hu => by rw [Nat.zero_add, cell_of_row _ _ _ _ _ _ qR, ← hu]; simp⟩
  have HA := hidn (append1 w2 (w.heap.size + 1) w.heap.size w.heap.size (.slice (some ⟨w1.heap.size + 1, 0, none⟩) 1 1) (some ⟨w1.heap.size, 0, none⟩) 1 ⟨#[97]⟩ ⟨#[120]⟩ 5 7 ((b2.cell (block_lt_of_cell h1)).trans h1) (mapP_below m1 b2) oR oL (by decide) (by decide) (by decide) (Nat.le_refl _))
  have HW2 := hidn hw2
  have HB2 := hidn (b1.trans (b2.mono b1.size))
  clear hw1 hw2 qL qR oL oR m1 h1 s1
  go_enter Tryz.func10, Tryz.ntmps10
  go_wp2_with fail
  refine HN.out.mono ?_
  rintro e w9 ⟨rfl, rfl⟩
  go_wp2_with fail
  rw [← HW2.out]
  refine HA.out.mono ?_
  rintro e w5 ⟨rfl, h5, b5⟩
  have HS := hidn (samples1 w5 (w.heap.size + 1) h5)
  have B5 := HB2.out.trans b5
  clear h5
  go_wp2_with fail
  refine HS.out.mono ?_
  rintro e w6 ⟨rfl, b6⟩
  have B6 := B5.trans (b6.mono B5.size)
  go_wp2_with fail
  exact bodyPost_ret (v := .bool true) (by simp [results, Tryz.results10, go_sem]) rfl ⟨rfl, B6⟩

end Go.Proofs.YtbobhekbfaghpaaGreat
