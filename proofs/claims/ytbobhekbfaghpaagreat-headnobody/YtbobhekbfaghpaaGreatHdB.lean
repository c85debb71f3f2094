/- head.seriesOf, ownSeries, Merge at one row. -/
import Derived.Test.YtbobhekbfaghpaaGreatHdA
import Derived.Laws.MakeOwn
namespace Go.Proofs.YtbobhekbfaghpaaGreat
open Go.RowKit Go.Joins
set_option linter.unusedVariables false

/-- One series: its labels, and one sample. -/
def OneS (w : World) (v : Value) (la : Option Addr) (ll lc : Nat) (t x : Int) : Prop := ∃ pv, One w v [.slice la ll lc, pv] ∧ One w pv [.int .i64 t, .int .u64 x]

theorem OneS.below {w w' : World} {v : Value} {la : Option Addr} {ll lc : Nat} {t x : Int} (h : OneS w v la ll lc t x) (hb : Below w.heap.size w w') : OneS w' v la ll lc t x := by
  obtain ⟨pv, h1, h2⟩ := h
  exact ⟨pv, h1.below hb, h2.below hb⟩

theorem mkSer (w : World) : (Instr.makeSlice 35 (.int .i64 1) (.int .i64 1)).run Tryz.prog w = .ok (.slice (some ⟨w.heap.size, 0, none⟩) 1 1) (w.alloc (.cells #[.slice none 0 0, .slice none 0 0] 50)) := by
  have h : (Tryz.prog.info? 50).map (fun i => (i.zero, i.size, i.bytes)) = some (some (.agg #[.slice none 0 0, .slice none 0 0]), 2, 48) := by kernel_rfl
  cases hi : Tryz.prog.info? 50 with
  | none => rw [hi] at h; cases h
  | some i0 =>
    rw [hi] at h
    simp only [Option.map_some, Option.some.injEq, Prod.mk.injEq] at h
    have hr := run_makeSlice (P := Tryz.prog) w 35 50 i0 _ Tryz.underlying35 hi h.1 .i64 .i64 1 1 (by decide) (by decide) (by rw [h.2.1]; decide) (by rw [h.2.2]; decide) (by decide)
    rw [h.2.1, show madeCells (Value.agg #[.slice none 0 0, .slice none 0 0]).cells (Int.toNat 1 * 2) = #[.slice none 0 0, .slice none 0 0] from by kernel_rfl] at hr
    exact hr

set_option maxHeartbeats 600000 in
set_option maxRecDepth 100000 in
theorem seriesOf1 (w : World) (v : Value) (la : Option Addr) (ll lc : Nat) (t x : Int) (h : One w v [.slice la ll lc, .int .i64 t, .int .u64 x]) :
    Calls Tryz.prog 14 #[v] w fun e w' => ∃ v, e = .returned v ∧ OneS w' v la ll lc t x ∧ Below w.heap.size w w' := by
  obtain ⟨i0, z, hi, hz0, hz1, hz2, hzc⟩ := seInfo1
  obtain ⟨b, off, c, rfl, hc1, hcc⟩ := h
  have c0 : w.cell? ⟨b, off, none⟩ = some (.slice la ll lc) := hcc 0 _ rfl
  have c1 : w.cell? ⟨b, off + 1, none⟩ = some (.int .i64 t) := hcc 1 _ rfl
  have c2 : w.cell? ⟨b, off + 2, none⟩ = some (.int .u64 x) := hcc 2 _ rfl
  have hbl := block_lt_of_cell c0
  clear hcc
  have hmk := mkSer w
  obtain ⟨w1, hw1⟩ : ∃ w1, w1 = w.alloc (.cells #[.slice none 0 0, .slice none 0 0] 50) := ⟨_, rfl⟩
  rw [← hw1] at hmk
  have b1 : Below w.heap.size w w1 := by rw [hw1]; exact (Below.refl _ w).alloc (Nat.le_refl _) _
  have q1 : w1.heap[w.heap.size]? = some (.cells #[.slice none 0 0, .slice none 0 0] 50 (0, 0)) := by rw [hw1]; exact heap_alloc_new w _
  obtain ⟨g, hg⟩ : ∃ g, g = w.heap.size := ⟨_, rfl⟩
  rw [← hg] at q1 hmk
  have HG := hidn hg
  have d0 : w1.cell? ⟨b, off, none⟩ = some (.slice la ll lc) := (b1.cell (block_lt_of_cell c0)).trans c0
  have d1 : w1.cell? ⟨b, off + 1, none⟩ = some (.int .i64 t) := (b1.cell (block_lt_of_cell c1)).trans c1
  have d2 : w1.cell? ⟨b, off + 2, none⟩ = some (.int .u64 x) := (b1.cell (block_lt_of_cell c2)).trans c2
  have e0 : w1.cell? ⟨g, 0, none⟩ = some (.slice none 0 0) := cell_of_row _ _ _ _ _ _ q1
  have e1 : w1.cell? ⟨g, 1, none⟩ = some (.slice none 0 0) := cell_of_row _ _ _ _ _ _ q1
  have ef : ∀ o, w1.frozen? ⟨g, o, none⟩ = false := fun o => by simp [World.frozen?, q1]
  have hgl : g < w1.heap.size := (Array.getElem?_eq_some_iff.1 q1).1
  clear hw1 hg c0 c1 c2
  go_enter Tryz.func14, Tryz.ntmps14
  go_wp2_with fail
  go_loopw [11] (fun iv wr => ∃ k : Nat, k ≤ 1 ∧ iv = .int .i64 (k : Int) ∧ Hid (k = 0 → w1 = wr) ∧ Hid (k = 1 → OneS wr (.slice (some ⟨g, 0, none⟩) 1 1) la ll lc t x ∧ Below w.heap.size w wr)) (fun iv _ => 1 - (intOf iv).toNat)
  case atStart => exact ⟨0, by omega, rfl, hidn (fun _ => rfl), hidn (fun h => by cases h)⟩
  case round =>
    obtain ⟨k, hk, rfl, hA, hB⟩ := hrel
    by_cases hk0 : k = 0
    · subst hk0
      obtain rfl := hA.out rfl
      clear hA hB
      obtain ⟨wS, hwS⟩ : ∃ wS, wS = (w1.setCell ⟨g, 0, none⟩ (.slice la ll lc)).setCell ⟨g, 1, none⟩ (.slice (some ⟨w1.heap.size + 1, 0, none⟩) 1 1) := ⟨_, rfl⟩
      have qS : wS.heap[g]? = some (.cells #[.slice la ll lc, .slice (some ⟨w1.heap.size + 1, 0, none⟩) 1 1] 50 (0, 0)) := by rw [hwS]; exact block_setCell (i := 1) (block_setCell (i := 0) q1 _) _
      have sS : wS.heap.size = w1.heap.size := by rw [hwS]; simp
      have bS : Below w.heap.size w wS := by rw [hwS]; exact (b1.setCell (p := ⟨g, 0, none⟩) (by show w.heap.size ≤ g; rw [HG.out]; exact Nat.le_refl _) _).setCell (p := ⟨g, 1, none⟩) (by show w.heap.size ≤ g; rw [HG.out]; exact Nat.le_refl _) _
      obtain ⟨wF, hwF⟩ : ∃ wF, wF = (wS.alloc (.cells #[.slice la ll lc, .int .i64 t, .int .u64 x] 44)).alloc (.cells #[.int .i64 t, .int .u64 x] 63) := ⟨_, rfl⟩
      have bF : Below wS.heap.size wS wF := by rw [hwF]; exact ((Below.refl _ wS).alloc (Nat.le_refl _) _).alloc (by simp) _
      have qF : wF.heap[w1.heap.size + 1]? = some (.cells #[.int .i64 t, .int .u64 x] 63 (0, 0)) := by rw [hwF, ← sS]; exact heap_alloc2_new wS _ _
      have qG : wF.heap[g]? = some (.cells #[.slice la ll lc, .slice (some ⟨w1.heap.size + 1, 0, none⟩) 1 1] 50 (0, 0)) := (bF.block _ (by rw [sS]; exact hgl)).trans qS
      have HP : Hid (OneS wF (.slice (some ⟨g, 0, none⟩) 1 1) la ll lc t x ∧ Below w.heap.size w wF) := hidn (by
        refine ⟨⟨_, ⟨g, 0, 1, rfl, Nat.le_refl _, fun i u hu => ?_⟩, ⟨w1.heap.size + 1, 0, 1, rfl, Nat.le_refl _, fun i u hu => ?_⟩⟩, bS.trans (bF.mono bS.size)⟩
        · rw [Nat.zero_add, cell_of_row _ _ _ _ _ _ qG, ← hu]; simp
        · rw [Nat.zero_add, cell_of_row _ _ _ _ _ _ qF, ← hu]; simp)
      rw [hwF, hwS] at HP
      clear hwS qS sS bS hwF bF qF qG
      go_wp2_with fail
      exact ⟨⟨1, by omega, by simp, hidn (fun h => by cases h), hidn (fun _ => HP.out)⟩, by simp [intOf]⟩
    · obtain rfl : k = 1 := by omega
      have hP := hB.out rfl
      clear hA hB hk0
      go_wp2_with fail
      exact bodyPost_ret (v := .slice (some ⟨g, 0, none⟩) 1 1) (by simp [results, Tryz.results14, go_sem]) rfl ⟨_, rfl, hP.1, hP.2⟩

/-- One series in a row of its own, with labels and a sample of its own. -/
def OwnS (w : World) (base : Nat) (v : Value) (n y : ByteArray) (t x : Int) : Prop := ∃ lv pv, w.ownsRow base 50 2 v 1 [lv, pv] ∧ (lv.oneCell' = true ∧ pv.oneCell' = true) ∧ One w lv [.string n, .string y] ∧ One w pv [.int .i64 t, .int .u64 x]

theorem OwnS.below {w w' : World} {base : Nat} {v : Value} {n y : ByteArray} {t x : Int} (h : OwnS w base v n y t x) (hb : Below w.heap.size w w') : OwnS w' base v n y t x := by
  obtain ⟨lv, pv, h1, h2, h3, h4⟩ := h
  exact ⟨lv, pv, own_skip h1 hb, h2, h3.below hb, h4.below hb⟩

theorem own_low {w : World} {base base' e size n : Nat} {v : Value} {xs : List Value} (h : w.ownsRow base' e size v n xs) (hb : base ≤ base') : w.ownsRow base e size v n xs := by
  refine ⟨h.1, ?_⟩
  rcases h.2 with hn | ⟨g, cap, cur, rfl, hbb, rest⟩
  · exact .inl hn
  · exact .inr ⟨g, cap, cur, rfl, by omega, rest⟩

theorem one_cell {w : World} {v : Value} {cs : List Value} (h : One w v cs) : v.oneCell' = true := by
  obtain ⟨b, off, c, rfl, _⟩ := h
  rfl

theorem two_one {a b : Value} (ha : a.oneCell' = true) (hb : b.oneCell' = true) : ∀ u ∈ [a, b], u.oneCell' = true := by
  intro u hu
  simp only [List.mem_cons, List.not_mem_nil, or_false] at hu
  rcases hu with rfl | rfl
  · exact ha
  · exact hb

theorem ownSeries0 (w : World) : Calls Tryz.prog 28 #[.slice none 0 0] w fun e w' => e = .returned (.slice none 0 0) ∧ w' = w := by
  go_enter Tryz.func28, Tryz.ntmps28
  go_wp2_with fail
  go_loopw [3, 9] (fun hv iv wr => hv = .slice none 0 0 ∧ iv = .int .i64 0 ∧ Hid (w = wr)) (fun _ _ _ => 0)
  case atStart => exact ⟨rfl, rfl, hidn rfl⟩
  case round =>
    obtain ⟨rfl, rfl, hw⟩ := hrel
    obtain rfl := hw.out
    clear hw
    go_wp2_with fail
    exact bodyPost_ret (v := .slice none 0 0) (by simp [results, Tryz.results28, go_sem]) rfl ⟨rfl, rfl⟩

set_option maxHeartbeats 600000 in
set_option maxRecDepth 100000 in
theorem ownSeries1 (w : World) (v : Value) (la : Option Addr) (lc : Nat) (n y : ByteArray) (t x : Int) (h : OneS w v la 1 lc t x) (hL : One w (.slice la 1 lc) [.string n, .string y]) :
    Calls Tryz.prog 28 #[v] w fun e w' => ∃ v, e = .returned v ∧ OwnS w' w.heap.size v n y t x ∧ Below w.heap.size w w' := by
  obtain ⟨i0, z, hi, hz0, hz1, hz2, hzc⟩ := seInfo1
  obtain ⟨pv, h1, h2⟩ := h
  obtain ⟨b, off, c, rfl, hc1, hcc⟩ := h1
  have c0 : w.cell? ⟨b, off, none⟩ = some (.slice la 1 lc) := hcc 0 _ rfl
  have c1 : w.cell? ⟨b, off + 1, none⟩ = some pv := hcc 1 _ rfl
  have h2' := h2
  obtain ⟨pb, po, pc, rfl, -, -⟩ := h2'
  clear hcc
  obtain ⟨wA, hwA⟩ : ∃ wA, wA = w.alloc (.cells #[.slice la 1 lc, .slice (some ⟨pb, po, none⟩) 1 pc] 50) := ⟨_, rfl⟩
  have bA : Below w.heap.size w wA := by rw [hwA]; exact (Below.refl _ w).alloc (Nat.le_refl _) _
  have qA : wA.heap[w.heap.size]? = some (.cells #[.slice la 1 lc, .slice (some ⟨pb, po, none⟩) 1 pc] 50 (0, 0)) := by rw [hwA]; exact heap_alloc_new w _
  have hAs : w.heap.size < wA.heap.size := (Array.getElem?_eq_some_iff.1 qA).1
  have HR := hidn (fun vf vj => saRising1 wA (.slice (some ⟨pb, po, none⟩) 1 pc) vf vj _ (h2.below bA) rfl (two_one rfl rfl))
  have HWA := hidn hwA
  clear hwA
  go_enter Tryz.func28, Tryz.ntmps28
  go_wp2_with fail
  go_loopw [3, 9] (fun hv iv wr => ∃ k : Nat, k ≤ 1 ∧ iv = .int .i64 (k : Int) ∧ Hid (k = 0 → hv = .slice none 0 0 ∧ w = wr) ∧ Hid (k = 1 → OwnS wr w.heap.size hv n y t x ∧ Below w.heap.size w wr)) (fun _ iv _ => 1 - (intOf iv).toNat)
  case atStart => exact ⟨0, by omega, rfl, hidn (fun _ => ⟨rfl, rfl⟩), hidn (fun h => by cases h)⟩
  case round =>
    obtain ⟨k, hk, rfl, hX, hY⟩ := hrel
    by_cases hk0 : k = 0
    · subst hk0
      obtain ⟨rfl, rfl⟩ := hX.out rfl
      clear hX hY
      go_wp2_with fail
      rw [← HWA.out]
      refine (HR.out _ _).mono ?_
      rintro e w2 ⟨v2, rfl, o2, b2⟩
      have B2 := bA.trans (b2.mono bA.size)
      have q2 : w2.heap[w.heap.size]? = some (.cells #[.slice la 1 lc, .slice (some ⟨pb, po, none⟩) 1 pc] 50 (0, 0)) := (b2.block _ hAs).trans qA
      have x0 : w2.cell? ⟨w.heap.size, 0, none⟩ = some (.slice la 1 lc) := cell_of_row _ _ _ _ _ _ q2
      have HL2 := hidn (laClone1 w2 (.slice la 1 lc) _ ((hL.below bA).below b2) rfl (two_one rfl rfl))
      obtain ⟨a2, c2, rfl⟩ := own_slice o2
      have P2 := one_of_own o2
      clear q2 o2
      go_wp2_with fail
      refine HL2.out.mono ?_
      rintro e w3 ⟨v3, rfl, o3, b3⟩
      have B3 := B2.trans (b3.mono B2.size)
      obtain ⟨a3, c3, rfl⟩ := own_slice o3
      have P3 := one_of_own o3
      have P2' := P2.below b3
      obtain ⟨w4, hw4⟩ : ∃ w4, w4 = w3.alloc (.cells #[.slice a3 1 c3, .slice a2 1 c2] 50) := ⟨_, rfl⟩
      have b4 : Below w3.heap.size w3 w4 := by rw [hw4]; exact (Below.refl _ w3).alloc (Nat.le_refl _) _
      have B4 := B3.trans (b4.mono B3.size)
      have q4 : w4.heap[w3.heap.size]? = some (.cells #[.slice a3 1 c3, .slice a2 1 c2] 50 (0, 0)) := by rw [hw4]; exact heap_alloc_new w3 _
      have HW := hidn hw4.symm
      have HC1 : Hid (∀ (j : Nat) (u : Value), ([.slice a3 1 c3, .slice a2 1 c2] : List Value)[j]? = some u → w4.cell? ((⟨w3.heap.size, 0, none⟩ : Addr).add j) = some u) := hidn (by
        intro i u hi
        rw [ladd_none, cell_of_row _ _ _ _ _ _ q4, Nat.zero_add, ← hi]
        simp)
      have HC2 : Hid (∀ u ∈ ([.slice a3 1 c3, .slice a2 1 c2] : List Value), u.oneCell' = true) := hidn (two_one rfl rfl)
      have O4 : w4.ownsRow w.heap.size 50 2 (.slice none 0 0) 0 [] := World.ownsRow_nil _ _ _ _
      have Q2 := P2'.below b4
      have Q3 := P3.below b4
      clear hw4 q4 o3 P2 P3 P2'
      go_wp2_with (at_builtin; rw [HW.out]; refine wpList_append_own _ rfl _ _ 35 rfl w.heap.size 50 i0 z 2 48 Tryz.underlying35 hi hz0 hz1 hz2 hzc (by decide) _ 0 [] rfl O4 ⟨w3.heap.size, 0, none⟩ 1 1 [.slice a3 1 c3, .slice a2 1 c2] rfl rfl HC1.out HC2.out (by decide) (by decide) B4.size ?_)
      intro v' w5 own5 hgrow5 _
      have b5 : Below w4.heap.size w4 w5 := (Below.refl _ w4).grown hgrow5 (Nat.le_refl _) (fun k hk => by simp [Value.ownBlock] at hk)
      have HO : Hid (OwnS w5 w.heap.size v' n y t x ∧ Below w.heap.size w w5) := hidn ⟨⟨_, _, by simpa using own5, ⟨rfl, rfl⟩, Q3.below b5, Q2.below b5⟩, B4.trans (b5.mono B4.size)⟩
      clear O4 own5 hgrow5
      go_wp2_with fail
      exact ⟨⟨1, by omega, by simp, hidn (fun h => by cases h), hidn (fun _ => HO.out)⟩, by simp [intOf]⟩
    · obtain rfl : k = 1 := by omega
      have hP := hidn (hY.out rfl)
      clear hX hY hk0
      go_wp2_with fail
      exact bodyPost_ret (v := u3) (by simp [results, Tryz.results28, go_sem]) rfl ⟨_, rfl, hP.out.1, hP.out.2⟩

set_option maxHeartbeats 600000 in
set_option maxRecDepth 100000 in
theorem merge1 (w : World) (v : Value) (la : Option Addr) (lc : Nat) (n y : ByteArray) (t x : Int) (h : OneS w v la 1 lc t x) (hL : One w (.slice la 1 lc) [.string n, .string y]) :
    Calls Tryz.prog 13 #[.slice none 0 0, v] w fun e w' => ∃ v, e = .returned v ∧ OwnS w' w.heap.size v n y t x ∧ Below w.heap.size w w' := by
  obtain ⟨i0, z, hi, hz0, hz1, hz2, hzc⟩ := seInfo1
  have H0 := hidn (ownSeries0 w)
  have H1 := hidn (ownSeries1 w v la lc n y t x h hL)
  have hv := h
  obtain ⟨pv, ⟨b, off, c, rfl, -, -⟩, -⟩ := hv
  clear h hL
  go_enter Tryz.func13, Tryz.ntmps13
  go_wp2_with fail
  refine H0.out.mono ?_
  rintro e w1 ⟨rfl, rfl⟩
  go_wp2_with fail
  refine H1.out.mono ?_
  rintro e w2 ⟨v2, rfl, hO, b2⟩
  obtain ⟨lv, pv, o2, ⟨k1, k2⟩, l2, p2⟩ := hO
  have One2 := one_of_own o2
  have One2' := One2
  obtain ⟨b2', f2, c2, rfl, hc2, hcc⟩ := One2'
  have HC1 : Hid (∀ (j : Nat) (u : Value), ([lv, pv] : List Value)[j]? = some u → w2.cell? ((⟨b2', f2, none⟩ : Addr).add j) = some u) := hidn (fun j u hj => by rw [ladd_none]; exact hcc j u hj)
  have HC2 := hidn (two_one k1 k2)
  have O4 : w2.ownsRow w1.heap.size 50 2 (.slice none 0 0) 0 [] := World.ownsRow_nil _ _ _ _
  clear hcc o2
  go_wp2_with (at_builtin; refine wpList_append_own _ rfl _ _ 35 rfl w1.heap.size 50 i0 z 2 48 Tryz.underlying35 hi hz0 hz1 hz2 hzc (by decide) _ 0 [] rfl O4 ⟨b2', f2, none⟩ 1 c2 [lv, pv] rfl rfl HC1.out HC2.out (by decide) (by decide) b2.size ?_)
  intro v' w5 own5 hgrow5 _
  have b5 : Below w2.heap.size w2 w5 := (Below.refl _ w2).grown hgrow5 (Nat.le_refl _) (fun k hk => by simp [Value.ownBlock] at hk)
  have own5' : w5.ownsRow w1.heap.size 50 2 v' 1 [lv, pv] := by simpa using own5
  have B5 := b2.trans (b5.mono b2.size)
  have HR := hidn (fun vf vj => seRising1 w5 v' vf vj [lv, pv] (one_of_own own5') rfl HC2.out)
  have L5 := l2.below b5
  have P5 := p2.below b5
  clear O4 own5 own5' hgrow5
  go_wp2_with fail
  refine (HR.out _ _).mono ?_
  rintro e w6 ⟨v6, rfl, o6, b6⟩
  have B6 := B5.trans (b6.mono B5.size)
  have HF : Hid (OwnS w6 w1.heap.size v6 n y t x ∧ Below w1.heap.size w1 w6) := hidn ⟨⟨lv, pv, own_low o6 B5.size, ⟨k1, k2⟩, L5.below b6, P5.below b6⟩, B6⟩
  clear o6
  go_wp2_with fail
  exact bodyPost_ret (v := v6) (by simp [results, Tryz.results13, go_sem]) rfl ⟨_, rfl, HF.out.1, HF.out.2⟩

end Go.Proofs.YtbobhekbfaghpaaGreat
