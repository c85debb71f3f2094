/- plan.Expired, and the document's. -/
import Derived.Test.YtjckfcholnkleaaPlA
namespace Go.Proofs.Ytjckfcholnkleaa
open Go.RowKit Go.Joins
set_option linter.unusedVariables false
/-- Numbers in a row of their own. -/
def OwnI (w : World) (L : List Int) (e : Ending) (w' : World) : Prop := ∃ v, e = .returned v ∧ w'.ownsRow w.heap.size 3 1 v L.length (ivs L) ∧ Below w.heap.size w w'
def isGone (fl : Int) (f : Fo) : Bool := decide (f.mx < fl) || decide (f.bt = 0)
def expL (l : List Fo) (fl : Int) : List Int := (l.filter (isGone fl)).map Fo.nu
theorem expL_snoc (l : List Fo) (f : Fo) (fl : Int) : expL (l ++ [f]) fl = expL l fl ++ (if isGone fl f then [f.nu] else []) := by
  unfold expL
  rw [List.filter_append, List.map_append]
  congr 1
  by_cases h : isGone fl f = true <;> simp [List.filter, h]
theorem ivs_length (l : List Int) : (ivs l).length = l.length := by simp [ivs]
set_option maxHeartbeats 2000000 in
set_option maxRecDepth 100000 in
theorem expired_any (a : Option Addr) (len cap : Nat) (l : List Fo) (fl : Int) (w : World) (h : Fls w a len l) (hm : len ≤ 1000000) :
    Calls Try.prog 13 #[.slice a len cap, .int .i64 fl] w (OwnI w (expL l fl)) := by
  obtain ⟨i0, z, hi, hz0, hz1, hz2, hzc⟩ := iInfo
  have hlen := hidn h.1
  go_enter Try.func13, Try.ntmps13
  go_wp2_with fail
  go_loopw [5, 10] (fun hv iv wr => ∃ (k : Nat) (v : Value) (L' : List Int), k ≤ len ∧ iv = .int .i64 (k : Int) ∧ hv = v ∧ L'.length ≤ k ∧ Hid (wr.ownsRow w.heap.size 3 1 v L'.length (ivs L') ∧ L' = expL (l.take k) fl) ∧ Below w.heap.size w wr) (fun _ iv _ => len - (intOf iv).toNat)
  case atStart => exact ⟨0, _, [], Nat.zero_le _, rfl, rfl, Nat.le_refl _, hidn ⟨World.ownsRow_nil _ _ _ _, rfl⟩, Below.refl _ _⟩
  case round =>
    obtain ⟨k, v, L', hk, rfl, rfl, hl', hO, hb⟩ := hrel
    by_cases hlt : k < len
    · have hlt2 : (k : Int) < (len : Int) := by omega
      obtain ⟨d, hd⟩ : ∃ d, l[k]? = some d := ⟨_, List.getElem?_eq_getElem (by rw [hlen.out]; exact hlt)⟩
      obtain ⟨b, off, rfl, hbk, c0, c1, c2, c3, c4, c5, c6, c7, hms⟩ := (h.below hb).at hd
      have HT : Hid (l.take (k + 1) = l.take k ++ [d]) := hidn (by rw [List.take_add_one, hd]; rfl)
      clear hd
      obtain ⟨nu, ge, lv, rk, mn, mx, bt, pa, pl, pc, ps⟩ := d
      simp only at c0 c1 c2 c3 c4 c5 c6 c7 hms
      obtain ⟨wA, hwA⟩ : ∃ wA, wA = wr.alloc (.cells #[.int .i64 nu, .int .i64 ge, .int .i64 lv, .int .i64 rk, .int .i64 mn, .int .i64 mx, .int .i64 bt, .slice pa pl pc] 32) := ⟨_, rfl⟩
      have bA : Below wr.heap.size wr wA := by rw [hwA]; exact (Below.refl _ wr).alloc (Nat.le_refl _) _
      have BA := hb.trans (bA.mono hb.size)
      have sA : wA.heap.size = wr.heap.size + 1 := by rw [hwA]; simp
      obtain ⟨w4, hw4⟩ : ∃ w4, w4 = wA.alloc (.cells #[.int .i64 nu] 3) := ⟨_, rfl⟩
      have b4 : Below wA.heap.size wA w4 := by rw [hw4]; exact (Below.refl _ wA).alloc (Nat.le_refl _) _
      have B4 := BA.trans (b4.mono BA.size)
      have q4 : w4.heap[wr.heap.size + 1]? = some (.cells #[.int .i64 nu] 3 (0, 0)) := by rw [hw4, ← sA]; exact heap_alloc_new wA _
      have HW : Hid ((wr.alloc (.cells #[.int .i64 nu, .int .i64 ge, .int .i64 lv, .int .i64 rk, .int .i64 mn, .int .i64 mx, .int .i64 bt, .slice pa pl pc] 32)).alloc (.cells #[.int .i64 nu] 3) = w4) := hidn (by rw [hw4, hwA])
      have hc1 : ∀ (j : Nat) (u : Value), ([.int .i64 nu] : List Value)[j]? = some u → w4.cell? ((⟨wr.heap.size + 1, 0, none⟩ : Addr).add j) = some u := by
        intro i u hi
        rw [ladd_none, cell_of_row _ _ _ _ _ _ q4]
        match i, hi with
        | 0, hi => simpa using hi
      have hc2 : ∀ u ∈ ([.int .i64 nu] : List Value), u.oneCell' = true := by
        intro u hu
        simp at hu
        subst hu
        rfl
      have hc3 : L'.length + 1 ≤ maxLen := by unfold maxLen; omega
      have hc4 : (L'.length + 1) * 8 ≤ 140737488355328 := by omega
      have HWA := hidn hwA
      obtain ⟨va, vc, rfl⟩ := own_slice hO.out.1
      clear hwA hw4 sA
      by_cases hmx : mx < fl
      · have HG : Hid (isGone fl ⟨nu, ge, lv, rk, mn, mx, bt, pa, pl, pc, ps⟩ = true) := hidn (by simp [isGone, hmx])
        have HN : Hid (L' ++ [nu] = expL (l.take (k + 1)) fl) := hidn (by
          rw [HT.out, expL_snoc, HG.out, ← hO.out.2]
          rfl)
        have O4 := own_skip hO.out.1 (bA.trans (b4.mono bA.size))
        go_wp2_with (at_builtin; rw [HW.out]; refine wpList_append_own _ rfl _ _ 26 rfl w.heap.size 3 i0 z 1 8 Try.underlying26 hi hz0 hz1 hz2 hzc (by decide) _ L'.length (ivs L') rfl O4 ⟨wr.heap.size + 1, 0, none⟩ 1 1 [.int .i64 nu] rfl rfl hc1 hc2 hc3 hc4 B4.size ?_)
        intro v' w5 own5 hgrow5 _
        have HO : Hid (w5.ownsRow w.heap.size 3 1 v' (L' ++ [nu]).length (ivs (L' ++ [nu])) ∧ L' ++ [nu] = expL (l.take (k + 1)) fl) := hidn ⟨by rw [ivs_append, List.length_append]; exact own5, HN.out⟩
        have B5 : Below w.heap.size w w5 := B4.grown hgrow5 B4.size (fun k hk => (O4.lt k hk).1)
        clear O4 own5 hgrow5
        go_wp2_with fail
        exact ⟨⟨k + 1, _, _, by omega, by simp, rfl, by simp; omega, HO, B5⟩, by simp [intOf]; omega⟩
      · by_cases hbt : bt = 0
        · have HG : Hid (isGone fl ⟨nu, ge, lv, rk, mn, mx, bt, pa, pl, pc, ps⟩ = true) := hidn (by simp [isGone, hbt])
          have HN : Hid (L' ++ [nu] = expL (l.take (k + 1)) fl) := hidn (by
            rw [HT.out, expL_snoc, HG.out, ← hO.out.2]
            rfl)
          have O4 := own_skip hO.out.1 (bA.trans (b4.mono bA.size))
          have hbt2 : (bt == 0) = true := beq_iff_eq.2 hbt
          clear hbt
          go_wp2_with (at_builtin; rw [HW.out]; refine wpList_append_own _ rfl _ _ 26 rfl w.heap.size 3 i0 z 1 8 Try.underlying26 hi hz0 hz1 hz2 hzc (by decide) _ L'.length (ivs L') rfl O4 ⟨wr.heap.size + 1, 0, none⟩ 1 1 [.int .i64 nu] rfl rfl hc1 hc2 hc3 hc4 B4.size ?_)
          intro v' w5 own5 hgrow5 _
          have HO : Hid (w5.ownsRow w.heap.size 3 1 v' (L' ++ [nu]).length (ivs (L' ++ [nu])) ∧ L' ++ [nu] = expL (l.take (k + 1)) fl) := hidn ⟨by rw [ivs_append, List.length_append]; exact own5, HN.out⟩
          have B5 : Below w.heap.size w w5 := B4.grown hgrow5 B4.size (fun k hk => (O4.lt k hk).1)
          clear O4 own5 hgrow5
          go_wp2_with fail
          exact ⟨⟨k + 1, _, _, by omega, by simp, rfl, by simp; omega, HO, B5⟩, by simp [intOf]; omega⟩
        · have hbt2 : (bt == 0) = false := beq_eq_false_iff_ne.2 hbt
          have HG : Hid (isGone fl ⟨nu, ge, lv, rk, mn, mx, bt, pa, pl, pc, ps⟩ = false) := hidn (by simp [isGone, hmx, hbt])
          have HN : Hid (L' = expL (l.take (k + 1)) fl) := hidn (by
            rw [HT.out, expL_snoc, HG.out, ← hO.out.2]
            simp)
          have OA : Hid (wA.ownsRow w.heap.size 3 1 (.slice va L'.length vc) L'.length (ivs L') ∧ L' = expL (l.take (k + 1)) fl) := hidn ⟨own_skip hO.out.1 bA, HN.out⟩
          clear hbt
          go_wp2_with fail
          rw [← HWA.out]
          exact ⟨⟨k + 1, _, _, by omega, by simp, rfl, by omega, OA, BA⟩, by simp [intOf]; omega⟩
    · have hlt2 : ¬ (k : Int) < (len : Int) := by omega
      have HN : Hid (L' = expL l fl) := hidn (by
        have := hO.out.2
        rw [List.take_of_length_le (by rw [hlen.out]; omega)] at this
        exact this)
      go_wp2_with fail
      exact bodyPost_ret (v := u5) (by simp [results, Try.results13, go_sem]) rfl ⟨_, rfl, by rw [← HN.out]; exact hO.out.1, hb⟩

set_option maxHeartbeats 2000000 in
set_option maxRecDepth 100000 in
theorem refExpired_any (a : Option Addr) (len cap : Nat) (l : List Fo) (fl : Int) (w : World) (h : Fls w a len l) (hm : len ≤ 1000000) :
    Calls Try.prog 14 #[.slice a len cap, .int .i64 fl] w (OwnI w (expL l fl)) := by
  obtain ⟨i0, z, hi, hz0, hz1, hz2, hzc⟩ := iInfo
  have hlen := hidn h.1
  go_enter Try.func14, Try.ntmps14
  go_wp2_with fail
  go_loopw [5, 10] (fun hv iv wr => ∃ (k : Nat) (v : Value) (L' : List Int), k ≤ len ∧ iv = .int .i64 (k : Int) ∧ hv = v ∧ L'.length ≤ k ∧ Hid (wr.ownsRow w.heap.size 3 1 v L'.length (ivs L') ∧ L' = expL (l.take k) fl) ∧ Below w.heap.size w wr) (fun _ iv _ => len - (intOf iv).toNat)
  case atStart => exact ⟨0, _, [], Nat.zero_le _, rfl, rfl, Nat.le_refl _, hidn ⟨World.ownsRow_nil _ _ _ _, rfl⟩, Below.refl _ _⟩
  case round =>
    obtain ⟨k, v, L', hk, rfl, rfl, hl', hO, hb⟩ := hrel
    by_cases hlt : k < len
    · have hlt2 : (k : Int) < (len : Int) := by omega
      obtain ⟨d, hd⟩ : ∃ d, l[k]? = some d := ⟨_, List.getElem?_eq_getElem (by rw [hlen.out]; exact hlt)⟩
      obtain ⟨b, off, rfl, hbk, c0, c1, c2, c3, c4, c5, c6, c7, hms⟩ := (h.below hb).at hd
      have HT : Hid (l.take (k + 1) = l.take k ++ [d]) := hidn (by rw [List.take_add_one, hd]; rfl)
      clear hd
      obtain ⟨nu, ge, lv, rk, mn, mx, bt, pa, pl, pc, ps⟩ := d
      simp only at c0 c1 c2 c3 c4 c5 c6 c7 hms
      obtain ⟨wA, hwA⟩ : ∃ wA, wA = wr.alloc (.cells #[.int .i64 nu, .int .i64 ge, .int .i64 lv, .int .i64 rk, .int .i64 mn, .int .i64 mx, .int .i64 bt, .slice pa pl pc] 32) := ⟨_, rfl⟩
      have bA : Below wr.heap.size wr wA := by rw [hwA]; exact (Below.refl _ wr).alloc (Nat.le_refl _) _
      have BA := hb.trans (bA.mono hb.size)
      have sA : wA.heap.size = wr.heap.size + 1 := by rw [hwA]; simp
      obtain ⟨w4, hw4⟩ : ∃ w4, w4 = wA.alloc (.cells #[.int .i64 nu] 3) := ⟨_, rfl⟩
      have b4 : Below wA.heap.size wA w4 := by rw [hw4]; exact (Below.refl _ wA).alloc (Nat.le_refl _) _
      have B4 := BA.trans (b4.mono BA.size)
      have q4 : w4.heap[wr.heap.size + 1]? = some (.cells #[.int .i64 nu] 3 (0, 0)) := by rw [hw4, ← sA]; exact heap_alloc_new wA _
      have HW : Hid ((wr.alloc (.cells #[.int .i64 nu, .int .i64 ge, .int .i64 lv, .int .i64 rk, .int .i64 mn, .int .i64 mx, .int .i64 bt, .slice pa pl pc] 32)).alloc (.cells #[.int .i64 nu] 3) = w4) := hidn (by rw [hw4, hwA])
      have hc1 : ∀ (j : Nat) (u : Value), ([.int .i64 nu] : List Value)[j]? = some u → w4.cell? ((⟨wr.heap.size + 1, 0, none⟩ : Addr).add j) = some u := by
        intro i u hi
        rw [ladd_none, cell_of_row _ _ _ _ _ _ q4]
        match i, hi with
        | 0, hi => simpa using hi
      have hc2 : ∀ u ∈ ([.int .i64 nu] : List Value), u.oneCell' = true := by
        intro u hu
        simp at hu
        subst hu
        rfl
      have hc3 : L'.length + 1 ≤ maxLen := by unfold maxLen; omega
      have hc4 : (L'.length + 1) * 8 ≤ 140737488355328 := by omega
      have HWA := hidn hwA
      obtain ⟨va, vc, rfl⟩ := own_slice hO.out.1
      clear hwA hw4 sA
      by_cases hmx : mx < fl
      · have HG : Hid (isGone fl ⟨nu, ge, lv, rk, mn, mx, bt, pa, pl, pc, ps⟩ = true) := hidn (by simp [isGone, hmx])
        have HN : Hid (L' ++ [nu] = expL (l.take (k + 1)) fl) := hidn (by
          rw [HT.out, expL_snoc, HG.out, ← hO.out.2]
          rfl)
        have O4 := own_skip hO.out.1 (bA.trans (b4.mono bA.size))
        go_wp2_with (at_builtin; rw [HW.out]; refine wpList_append_own _ rfl _ _ 26 rfl w.heap.size 3 i0 z 1 8 Try.underlying26 hi hz0 hz1 hz2 hzc (by decide) _ L'.length (ivs L') rfl O4 ⟨wr.heap.size + 1, 0, none⟩ 1 1 [.int .i64 nu] rfl rfl hc1 hc2 hc3 hc4 B4.size ?_)
        intro v' w5 own5 hgrow5 _
        have HO : Hid (w5.ownsRow w.heap.size 3 1 v' (L' ++ [nu]).length (ivs (L' ++ [nu])) ∧ L' ++ [nu] = expL (l.take (k + 1)) fl) := hidn ⟨by rw [ivs_append, List.length_append]; exact own5, HN.out⟩
        have B5 : Below w.heap.size w w5 := B4.grown hgrow5 B4.size (fun k hk => (O4.lt k hk).1)
        clear O4 own5 hgrow5
        go_wp2_with fail
        exact ⟨⟨k + 1, _, _, by omega, by simp, rfl, by simp; omega, HO, B5⟩, by simp [intOf]; omega⟩
      · by_cases hbt : bt = 0
        · have HG : Hid (isGone fl ⟨nu, ge, lv, rk, mn, mx, bt, pa, pl, pc, ps⟩ = true) := hidn (by simp [isGone, hbt])
          have HN : Hid (L' ++ [nu] = expL (l.take (k + 1)) fl) := hidn (by
            rw [HT.out, expL_snoc, HG.out, ← hO.out.2]
            rfl)
          have O4 := own_skip hO.out.1 (bA.trans (b4.mono bA.size))
          have hbt2 : (bt == 0) = true := beq_iff_eq.2 hbt
          clear hbt
          go_wp2_with (at_builtin; rw [HW.out]; refine wpList_append_own _ rfl _ _ 26 rfl w.heap.size 3 i0 z 1 8 Try.underlying26 hi hz0 hz1 hz2 hzc (by decide) _ L'.length (ivs L') rfl O4 ⟨wr.heap.size + 1, 0, none⟩ 1 1 [.int .i64 nu] rfl rfl hc1 hc2 hc3 hc4 B4.size ?_)
          intro v' w5 own5 hgrow5 _
          have HO : Hid (w5.ownsRow w.heap.size 3 1 v' (L' ++ [nu]).length (ivs (L' ++ [nu])) ∧ L' ++ [nu] = expL (l.take (k + 1)) fl) := hidn ⟨by rw [ivs_append, List.length_append]; exact own5, HN.out⟩
          have B5 : Below w.heap.size w w5 := B4.grown hgrow5 B4.size (fun k hk => (O4.lt k hk).1)
          clear O4 own5 hgrow5
          go_wp2_with fail
          exact ⟨⟨k + 1, _, _, by omega, by simp, rfl, by simp; omega, HO, B5⟩, by simp [intOf]; omega⟩
        · have hbt2 : (bt == 0) = false := beq_eq_false_iff_ne.2 hbt
          have HG : Hid (isGone fl ⟨nu, ge, lv, rk, mn, mx, bt, pa, pl, pc, ps⟩ = false) := hidn (by simp [isGone, hmx, hbt])
          have HN : Hid (L' = expL (l.take (k + 1)) fl) := hidn (by
            rw [HT.out, expL_snoc, HG.out, ← hO.out.2]
            simp)
          have OA : Hid (wA.ownsRow w.heap.size 3 1 (.slice va L'.length vc) L'.length (ivs L') ∧ L' = expL (l.take (k + 1)) fl) := hidn ⟨own_skip hO.out.1 bA, HN.out⟩
          clear hbt
          go_wp2_with fail
          rw [← HWA.out]
          exact ⟨⟨k + 1, _, _, by omega, by simp, rfl, by omega, OA, BA⟩, by simp [intOf]; omega⟩
    · have hlt2 : ¬ (k : Int) < (len : Int) := by omega
      have HN : Hid (L' = expL l fl) := hidn (by
        have := hO.out.2
        rw [List.take_of_length_le (by rw [hlen.out]; omega)] at this
        exact this)
      go_wp2_with fail
      exact bodyPost_ret (v := u5) (by simp [results, Try.results14, go_sem]) rfl ⟨_, rfl, by rw [← HN.out]; exact hO.out.1, hb⟩
end Go.Proofs.Ytjckfcholnkleaa
