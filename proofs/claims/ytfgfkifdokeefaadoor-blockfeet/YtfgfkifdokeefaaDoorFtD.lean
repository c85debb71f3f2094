/- The document's Encode of a footer. -/
import Derived.Test.YtfgfkifdokeefaaDoorMh
namespace Go.Proofs.YtfgfkifdokeefaaDoor
open Go.RowKit Go.Joins
set_option linter.unusedVariables false

set_option maxRecDepth 100000 in
set_option maxHeartbeats 4000000 in
theorem ftRenc_yes (w : World) (n g l r mn mx by' : Int) (a : Option Addr) (len cap : Nat) (ps : List Int) (h : Ils w a len ps) (hc : bCan n g l r mn mx by' ps = true) :
    Calls Tryd.prog 5 #[.agg #[.int .i64 n, .int .i64 g, .int .i64 l, .int .i64 r, .int .i64 mn, .int .i64 mx, .int .i64 by', .slice a len cap]] w fun e w' => ∃ v, e = .returned (.tuple #[v, .int .i64 0]) ∧ w'.ownsRow w.heap.size 5 1 v (57 + 8 * len) (vb (ftB n g l r mn mx by' ps)) ∧ Below w.heap.size w w' := by
  obtain ⟨i0, z0, hi, hz0, hz1, hz2, hzc⟩ := ftInfo
  have hl3 : len ≤ 3 := by have := bPa_len hc; rw [← h.1]; exact this
  have hlen := hidn h.1
  obtain ⟨wA, hwA⟩ : ∃ wA, wA = w.alloc (.cells #[.int .i64 n, .int .i64 g, .int .i64 l, .int .i64 r, .int .i64 mn, .int .i64 mx, .int .i64 by', .slice a len cap] 24) := ⟨_, rfl⟩
  have bA : Below w.heap.size w wA := by rw [hwA]; exact (Below.refl _ w).alloc (Nat.le_refl _) _
  have qA : wA.heap[w.heap.size]? = some (.cells #[.int .i64 n, .int .i64 g, .int .i64 l, .int .i64 r, .int .i64 mn, .int .i64 mx, .int .i64 by', .slice a len cap] 24 (0, 0)) := by rw [hwA]; exact heap_alloc_new w _
  have HC := hidn (rCan_any wA n g l r mn mx by' a len cap ps (h.below bA))
  rw [hc] at HC
  have HWA := hidn hwA
  have H := hidn h
  have hw4 : IntKind.u8.wrap (len : Int) = (len : Int) := by rw [IntKind.wrap_u8]; omega
  clear hwA hc h
  go_enter Tryd.func5, Tryd.ntmps5
  go_wp2_with fail
  rw [← HWA.out]
  refine HC.out.mono ?_
  rintro e w1 ⟨rfl, b1⟩
  have q1 := (b1.block w.heap.size (Array.getElem?_eq_some_iff.1 qA).1).trans qA
  have e0 : w1.cell? ⟨w.heap.size, 0, none⟩ = some (.int .i64 n) := cell_of_row _ _ _ _ _ _ q1
  have e1 : w1.cell? ⟨w.heap.size, 1, none⟩ = some (.int .i64 g) := cell_of_row _ _ _ _ _ _ q1
  have e2 : w1.cell? ⟨w.heap.size, 2, none⟩ = some (.int .i64 l) := cell_of_row _ _ _ _ _ _ q1
  have e3 : w1.cell? ⟨w.heap.size, 3, none⟩ = some (.int .i64 r) := cell_of_row _ _ _ _ _ _ q1
  have e4 : w1.cell? ⟨w.heap.size, 4, none⟩ = some (.int .i64 mn) := cell_of_row _ _ _ _ _ _ q1
  have e5 : w1.cell? ⟨w.heap.size, 5, none⟩ = some (.int .i64 mx) := cell_of_row _ _ _ _ _ _ q1
  have e6 : w1.cell? ⟨w.heap.size, 6, none⟩ = some (.int .i64 by') := cell_of_row _ _ _ _ _ _ q1
  have B1 := bA.trans (b1.mono bA.size)
  obtain ⟨w2, hw2⟩ : ∃ w2, w2 = w1.alloc (.cells #[.int .i64 n, .int .i64 g, .int .i64 l, .int .i64 r, .int .i64 mn, .int .i64 mx, .int .i64 by'] 3) := ⟨_, rfl⟩
  have b2 : Below w1.heap.size w1 w2 := by rw [hw2]; exact (Below.refl _ w1).alloc (Nat.le_refl _) _
  have s2 : w2.heap.size = w1.heap.size + 1 := by rw [hw2]; simp
  have r2 : w2.heap[w1.heap.size]? = some (.cells #[.int .i64 n, .int .i64 g, .int .i64 l, .int .i64 r, .int .i64 mn, .int .i64 mx, .int .i64 by'] 3 (0, 0)) := by rw [hw2]; exact heap_alloc_new w1 _
  have hI : Ils w2 (some ⟨w1.heap.size, 0, none⟩) 7 [n, g, l, r, mn, mx, by'] := by
    refine ⟨rfl, by decide, (fun e => by cases e), fun x hx j b hj => ?_⟩
    cases hx
    rw [ladd_none, Nat.zero_add, cell_of_row _ _ _ _ _ _ r2]
    have h7 : j < 7 := (List.getElem?_eq_some_iff.1 hj).1
    match j, h7 with
    | 0, _ => simp at hj; subst hj; rfl
    | 1, _ => simp at hj; subst hj; rfl
    | 2, _ => simp at hj; subst hj; rfl
    | 3, _ => simp at hj; subst hj; rfl
    | 4, _ => simp at hj; subst hj; rfl
    | 5, _ => simp at hj; subst hj; rfl
    | 6, _ => simp at hj; subst hj; rfl
  have B2 := B1.trans (b2.mono B1.size)
  have Q2 := (b2.block w.heap.size (Array.getElem?_eq_some_iff.1 q1).1).trans q1
  have HW2 := hidn hw2
  have HLT := hidn (show w.heap.size < w2.heap.size by have := B1.size; omega)
  obtain ⟨gw, hgw⟩ : ∃ gw, gw = w1.heap.size := ⟨_, rfl⟩
  have HGL := hidn (show gw < w2.heap.size by omega)
  have HG := hidn hgw
  rw [← hgw] at hI
  obtain ⟨W7, hW7⟩ : ∃ W7, W7 = [n, g, l, r, mn, mx, by'] := ⟨_, rfl⟩
  rw [← hW7] at hI
  have H7L : Hid (W7.length = 7) := hidn hI.1
  have HW7 := hidn hW7
  have HI := hidn hI
  have HQ2 := hidn Q2
  have HB2 := hidn B2
  clear qA hw2 b2 s2 r2 hI B2 b1 bA q1 B1 Q2 hW7 hgw
  have O0 : Hid (w2.ownsRow w2.heap.size 5 1 (.slice none 0 0) (8 * 0) (vb (mW (W7.take 0)))) := hidn (by simpa [mW, vb] using World.ownsRow_nil w2 w2.heap.size 5 1)
  go_wp2_with fail
  rw [← HW2.out, ← HG.out]
  clear HW2 HG HWA HC e0 e1 e2 e3 e4 e5 e6
  go_loopw [4, 28] (fun bv iv wr => ∃ k : Nat, k ≤ 7 ∧ iv = .int .i64 (k : Int) ∧ Hid (wr.ownsRow w2.heap.size 5 1 bv (8 * k) (vb (mW (W7.take k)))) ∧ Hid (Below w2.heap.size w2 wr)) (fun _ iv _ => 7 - (intOf iv).toNat)
  case atStart => exact ⟨0, Nat.zero_le _, rfl, O0, hidn (Below.refl _ _)⟩
  case round =>
    clear O0
    obtain ⟨k, hk, rfl, HO, HB⟩ := hrel
    obtain ⟨wo, hwo⟩ : ∃ wo, wo = wr := ⟨wr, rfl⟩
    subst hwo
    by_cases hlt : k < 7
    · have hlt2 : (k : Int) < 7 := by omega
      obtain ⟨x, hx⟩ : ∃ x, W7[k]? = some x := ⟨_, List.getElem?_eq_getElem (by rw [H7L.out]; exact hlt)⟩
      obtain ⟨b, off, e8, c0⟩ := HI.out.at hx
      cases e8
      have c1 : wo.cell? ⟨gw, 0 + k, none⟩ = some (.int .i64 x) := (HB.out.cell (p := ⟨gw, 0 + k, none⟩) HGL.out).trans c0
      rw [Nat.zero_add] at c1
      have HXT : Hid (mW (W7.take (k + 1)) = mW (W7.take k) ++ putB (mU x) 8) := hidn (by rw [List.take_add_one, hx, Option.toList_some, mW_snoc])
      have HPU := hidn (refBig wo x)
      have hbw : w2.heap.size ≤ wo.heap.size := HB.out.size
      have HBW := hidn hbw
      clear hx c0 hbw
      obtain ⟨va, vc, e9⟩ : ∃ va vc, u4 = Value.slice va (8 * k) vc := by
        rcases HO.out.2 with ⟨h1, h2⟩ | ⟨gg, cp, cur, h1, _⟩
        · exact ⟨none, 0, by rw [h1, h2]⟩
        · exact ⟨_, _, h1⟩
      go_wp2_with fail
      refine HPU.out.mono ?_
      clear HPU
      rintro e w3 ⟨rfl, hown1, hb1⟩
      have HBW1 := hidn (HB.out.trans (hb1.mono HBW.out))
      have hO1 := ft_below (B := 0) HO.out hb1
      obtain ⟨v4, w4, hrun, hown3, hgr3⟩ := appAny w3 w2.heap.size 25 25 5 i0 z0 1 1 Tryd.underlying25 hi hz0 hz1 hz2 hzc (by decide) u4 (8 * k) (vb (mW (W7.take k))) hO1 (Nat.le_trans HBW.out hb1.size) (some ⟨wo.heap.size, 0, none⟩) 8 8 (vb (putB (mU x) 8)) (by rw [length_vb, putB_length]) (fun e => by cases e) (fun x hx j u hu => by cases hx; exact ft_src hown1 j u hu) (ft_one _) (by unfold maxLen; omega) (by omega)
      have HB3 : Hid (Below w2.heap.size w2 w4) := hidn (HBW1.out.grown hgr3 (Nat.le_trans HBW.out hb1.size) (fun k hk => (hO1.lt k hk).1))
      have HO3 : Hid (w4.ownsRow w2.heap.size 5 1 v4 (8 * (k + 1)) (vb (mW (W7.take (k + 1))))) := hidn (by
        rw [HXT.out, ft_app, show 8 * (k + 1) = 8 * k + 8 from by omega]
        exact hown3)
      have HRUN := hidn hrun
      subst e9
      clear hrun hown3 hgr3 hO1 hown1 hb1 HO HXT c1
      go_wp2_with (at_builtin; refine wpList_app_runA rfl _ _ 25 25 rfl rfl _ _ _ rfl rfl HRUN.out ?_; clear HRUN)
      go_wp2_with fail
      exact ⟨⟨k + 1, by omega, by simp, HO3, HB3⟩, by simp [intOf]; omega⟩
    · have hlt2 : ¬ (k : Int) < 7 := by omega
      obtain rfl : k = 7 := by omega
      have HO7 : Hid (wo.ownsRow w2.heap.size 5 1 u4 56 (vb (mW W7))) := hidn (by
        have q := HO.out
        rw [List.take_of_length_le (by rw [H7L.out]; exact Nat.le_refl _)] at q
        exact q)
      obtain ⟨va, vc, e9⟩ : ∃ va vc, u4 = Value.slice va 56 vc := by
        rcases HO7.out.2 with ⟨h1, h2⟩ | ⟨gg, cp, cur, h1, _⟩
        · cases h2
        · exact ⟨_, _, h1⟩
      have Q3 := (HB.out.block w.heap.size HLT.out).trans HQ2.out
      have f7 : wo.cell? ⟨w.heap.size, 7, none⟩ = some (.slice a len cap) := cell_of_row _ _ _ _ _ _ Q3
      have ba : Below wo.heap.size wo (wo.alloc (.cells #[.int .u8 (len : Int)] 5)) := (Below.refl _ _).alloc (Nat.le_refl _) _
      have hO1 := ft_below (B := 0) HO7.out ba
      have hbw : w2.heap.size ≤ wo.heap.size := HB.out.size
      obtain ⟨v4, w4, hrun, hown3, hgr3⟩ := appAny (wo.alloc (.cells #[.int .u8 (len : Int)] 5)) w2.heap.size 25 25 5 i0 z0 1 1 Tryd.underlying25 hi hz0 hz1 hz2 hzc (by decide) u4 56 (vb (mW W7)) hO1 (Nat.le_trans hbw ba.size) (some ⟨wo.heap.size, 0, none⟩) 1 1 [.int .u8 (len : Int)] rfl (fun e => by cases e) (fun y hy j u hu => by
        cases hy
        rw [add_none, Nat.zero_add, cell_of_row _ _ _ _ _ _ (heap_alloc_new wo _)]
        simpa using hu) (fun u hu => by obtain rfl := List.mem_singleton.1 hu; rfl) (by unfold maxLen; omega) (by omega)
      have HB4 := hidn ((HB.out.trans (ba.mono hbw)).grown hgr3 (Nat.le_trans hbw ba.size) (fun k hk => (hO1.lt k hk).1))
      have f74 : w4.cell? ⟨w.heap.size, 7, none⟩ = some (.slice a len cap) := (HB4.out.cell (p := ⟨w.heap.size, 7, none⟩) HLT.out).trans (cell_of_row _ _ _ _ _ _ HQ2.out)
      have O5 : Hid (w4.ownsRow w2.heap.size 5 1 v4 (57 + 8 * 0) (vb (mW W7 ++ putB len 1 ++ mW (ps.take 0)))) := hidn (by
        have e1 : vb (mW W7 ++ putB len 1 ++ mW (ps.take 0)) = vb (mW W7) ++ [.int .u8 (len : Int)] := by
          have e2 : putB len 1 = [len] := by
            have hm : len % 256 = len := Nat.mod_eq_of_lt (by omega)
            simp [putB, hm]
          rw [e2]
          simp [mW, vb]
        rw [e1]
        exact hown3)
      have HRUN := hidn hrun
      have HBS := hidn (HB4.out.size)
      have HIP := hidn (H.out.below HB2.out)
      have HIL := hidn (ils_low H.out)
      subst e9
      clear hrun hown3 hgr3 hO1 ba hbw Q3 HO HO7 HB
      go_wp2_with (at_builtin; refine wpList_app_runA rfl _ _ 25 25 rfl rfl _ _ _ rfl rfl HRUN.out ?_; clear HRUN)
      go_wp2_with fail
      go_loopw [4, 47] (fun bv iv wr => ∃ k : Nat, k ≤ len ∧ iv = .int .i64 (k : Int) ∧ Hid (wr.ownsRow w2.heap.size 5 1 bv (57 + 8 * k) (vb (mW W7 ++ putB len 1 ++ mW (ps.take k)))) ∧ Hid (Below w2.heap.size w2 wr)) (fun _ iv _ => len - (intOf iv).toNat)
      case atStart => exact ⟨0, Nat.zero_le _, rfl, O5, HB4⟩
      case round =>
        clear O5 HB4
        obtain ⟨k, hk, rfl, HO, HB⟩ := hrel
        obtain ⟨wp, hwp⟩ : ∃ wp, wp = wr := ⟨wr, rfl⟩
        subst hwp
        by_cases hlt : k < len
        · have hlt2 : (k : Int) < (len : Int) := by omega
          obtain ⟨x, hx⟩ : ∃ x, ps[k]? = some x := ⟨_, List.getElem?_eq_getElem (by rw [hlen.out]; exact hlt)⟩
          obtain ⟨b, off, rfl, c0⟩ := HIP.out.at hx
          have hbb : b < w2.heap.size := Nat.lt_of_lt_of_le (HIL.out _ rfl (by omega)) (Nat.le_of_lt HLT.out)
          have c1 : wp.cell? ⟨b, off + k, none⟩ = some (.int .i64 x) := (HB.out.cell (p := ⟨b, off + k, none⟩) hbb).trans c0
          have HXT : Hid (mW (ps.take (k + 1)) = mW (ps.take k) ++ putB (mU x) 8) := hidn (by rw [List.take_add_one, hx, Option.toList_some, mW_snoc])
          have HPU := hidn (refBig wp x)
          have hbw : w2.heap.size ≤ wp.heap.size := HB.out.size
          have HBW := hidn hbw
          clear hx c0 hbb hbw f74
          obtain ⟨va, vc, e9⟩ : ∃ va vc, u4 = Value.slice va (57 + 8 * k) vc := by
            rcases HO.out.2 with ⟨h1, h2⟩ | ⟨gg, cp, cur, h1, _⟩
            · exact ⟨none, 0, by rw [h1, h2]⟩
            · exact ⟨_, _, h1⟩
          go_wp2_with fail
          refine HPU.out.mono ?_
          clear HPU
          rintro e w6 ⟨rfl, hown1, hb1⟩
          have HBW1 := hidn (HB.out.trans (hb1.mono HBW.out))
          have hO1 := ft_below (B := 0) HO.out hb1
          obtain ⟨v7, w7, hrun, hown3, hgr3⟩ := appAny w6 w2.heap.size 25 25 5 i0 z0 1 1 Tryd.underlying25 hi hz0 hz1 hz2 hzc (by decide) u4 (57 + 8 * k) (vb (mW W7 ++ putB len 1 ++ mW (ps.take k))) hO1 (Nat.le_trans HBW.out hb1.size) (some ⟨wp.heap.size, 0, none⟩) 8 8 (vb (putB (mU x) 8)) (by rw [length_vb, putB_length]) (fun e => by cases e) (fun x hx j u hu => by cases hx; exact ft_src hown1 j u hu) (ft_one _) (by unfold maxLen; omega) (by omega)
          have HB3 : Hid (Below w2.heap.size w2 w7) := hidn (HBW1.out.grown hgr3 (Nat.le_trans HBW.out hb1.size) (fun k hk => (hO1.lt k hk).1))
          have HO3 : Hid (w7.ownsRow w2.heap.size 5 1 v7 (57 + 8 * (k + 1)) (vb (mW W7 ++ putB len 1 ++ mW (ps.take (k + 1))))) := hidn (by
            rw [HXT.out, ← List.append_assoc, ft_app, show 57 + 8 * (k + 1) = 57 + 8 * k + 8 from by omega]
            exact hown3)
          have HRUN := hidn hrun
          subst e9
          clear hrun hown3 hgr3 hO1 hown1 hb1 HO HXT c1
          go_wp2_with (at_builtin; refine wpList_app_runA rfl _ _ 25 25 rfl rfl _ _ _ rfl rfl HRUN.out ?_; clear HRUN)
          go_wp2_with fail
          exact ⟨⟨k + 1, by omega, by simp, HO3, HB3⟩, by simp [intOf]; omega⟩
        · have hlt2 : ¬ (k : Int) < (len : Int) := by omega
          obtain rfl : k = len := by omega
          have HOF : Hid (wp.ownsRow w.heap.size 5 1 u4 (57 + 8 * k) (vb (ftB n g l r mn mx by' ps))) := hidn (by
            have q := ft_low HO.out (Nat.le_of_lt HLT.out)
            rw [ftB, hlen.out, ← HW7.out]
            rwa [← hlen.out, List.take_length, hlen.out] at q)
          have HBF := hidn (HB2.out.trans (HB.out.mono (Nat.le_of_lt HLT.out)))
          clear HO HB
          go_wp2_with fail
          exact bodyPost_ret (v := .tuple #[u4, .int .i64 0]) (by simp [results, Tryd.results5, go_sem]) rfl ⟨u4, rfl, HOF.out, HBF.out⟩
end Go.Proofs.YtfgfkifdokeefaaDoor
