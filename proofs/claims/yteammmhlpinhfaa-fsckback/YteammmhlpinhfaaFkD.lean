/- the document's Manifest. -/
import Derived.Test.YteammmhlpinhfaaFkC
import Derived.Test.YteammmhlpinhfaaPlI
namespace Go.Proofs.Yteammmhlpinhfaa
open Go.RowKit
set_option linter.unusedVariables false

/-- a number's cell is no byte's: an append onto bytes leaves it. -/
theorem fk_keep {w w' : World} {base n g : Nat} {v : Value} {xs : List Value} {cs : Array Value} {fz : Nat × Nat} (h : w.ownsRow base 5 1 v n xs) (hg : w.grownBy w' v.ownBlock) (hq : w.heap[g]? = some (.cells cs 3 fz)) : w'.heap[g]? = some (.cells cs 3 fz) := by
  obtain ⟨_, _, _, _, hk⟩ := hg
  rw [← hq]
  refine hk g (Array.getElem?_eq_some_iff.1 hq).1 (fun e => ?_)
  rcases h.2 with ⟨h1, _⟩ | ⟨g', cap, cur, hv, hg', hh, r⟩
  · rw [h1] at e; cases e
  · rw [hv] at e
    cases e
    rw [hq] at hh
    simp at hh

theorem fk_seven {w : World} {g : Nat} {x0 x1 x2 x3 x4 x5 x6 : Int} {fz : Nat × Nat} (h : w.heap[g]? = some (.cells #[.int .i64 x0, .int .i64 x1, .int .i64 x2, .int .i64 x3, .int .i64 x4, .int .i64 x5, .int .i64 x6] 3 fz)) (j : Nat) (x : Int) (hx : [x0, x1, x2, x3, x4, x5, x6][j]? = some x) : w.cell? ⟨g, j, none⟩ = some (.int .i64 x) := by
  have hj : j < 7 := (List.getElem?_eq_some_iff.1 hx).1
  rw [cell_of_row _ _ _ _ _ _ h]
  have hc : j = 0 ∨ j = 1 ∨ j = 2 ∨ j = 3 ∨ j = 4 ∨ j = 5 ∨ j = 6 := by omega
  rcases hc with rfl | rfl | rfl | rfl | rfl | rfl | rfl <;> (simp at hx; subst hx; rfl)

theorem refMan_no (a : Option Addr) (len cap : Nat) (l : List Fo) (w : World) (h : Fls w a len l) (hm : len ≤ 1000) (hc : len ≤ cap) (hp : pcL l = false) :
    Calls Try.prog 7 #[.slice a len cap] w fun e w' => e = .returned (.tuple #[.slice none 0 0, .int .i64 1]) ∧ Below w.heap.size w w' := by
  have HC := hidn (refCan_any a len cap l w h (by omega) hc)
  rw [hp] at HC
  have h1 : ¬ ((1000 : Int) < (len : Int)) := by omega
  clear h hp
  go_enter Try.func7, Try.ntmps7
  go_wp2_with fail
  refine HC.out.mono ?_
  rintro e w1 ⟨rfl, b1⟩
  go_wp2_with fail
  go_ret2
  exact ⟨rfl, b1⟩

set_option maxHeartbeats 2000000 in
set_option maxRecDepth 100000 in
theorem refMan_yes (a : Option Addr) (len cap : Nat) (l : List Fo) (w : World) (h : Fls w a len l) (hm : len ≤ 1000) (hc : len ≤ cap) (hp : pcL l = true) :
    Calls Try.prog 7 #[.slice a len cap] w fun e w' => ∃ v, e = .returned (.tuple #[v, .int .i64 0]) ∧ w'.ownsRow w.heap.size 5 1 v (4 + 56 * len) (vb (manB l)) ∧ Below w.heap.size w w' := by
  obtain ⟨i0, z0, hi, hz0, hz1, hz2, hzc⟩ := fkInfo
  have hlen := hidn h.1
  have HC := hidn (refCan_any a len cap l w h (by omega) hc)
  rw [hp] at HC
  have h1 : ¬ ((1000 : Int) < (len : Int)) := by omega
  have hw4 : IntKind.u64.wrap (len : Int) = (len : Int) := by rw [IntKind.wrap_u64]; omega
  have HP := hidn (fun w2 => refPut_any len 4 4 w2 (by omega) (by omega))
  have HF := hidn h
  clear h hp
  go_enter Try.func7, Try.ntmps7
  go_wp2_with fail
  refine HC.out.mono ?_
  rintro e w1 ⟨rfl, b1⟩
  have B1 := hidn b1
  clear b1
  go_wp2_with fail
  refine (HP.out w1).mono ?_
  rintro e w2 ⟨rfl, o2, b2⟩
  have B2 := hidn (B1.out.trans (b2.mono B1.out.size))
  have hS : w.heap.size ≤ w1.heap.size := B1.out.size
  have O2 : Hid (w2.ownsRow w.heap.size 5 1 (.slice (some ⟨w1.heap.size, 0, none⟩) 4 4) (4 + 56 * 0) (vb (putB len 4 ++ manT (l.take 0)))) := hidn (by simpa [manT] using fk_own o2 hS)
  have HS := hidn hS
  clear o2 b2 hS
  go_wp2_with fail
  go_loopw [4, 23] (fun bv iv wr => ∃ k : Nat, k ≤ len ∧ iv = .int .i64 (k : Int) ∧ Hid (wr.ownsRow w.heap.size 5 1 bv (4 + 56 * k) (vb (putB len 4 ++ manT (l.take k)))) ∧ Hid (Below w.heap.size w wr)) (fun _ iv _ => len - (intOf iv).toNat)
  case atStart => exact ⟨0, Nat.zero_le _, rfl, O2, B2⟩
  case round =>
    obtain ⟨wo, hwo⟩ : ∃ wo, wo = wr := ⟨wr, rfl⟩
    subst hwo
    obtain ⟨k, hk, rfl, HO, HB⟩ := hrel
    by_cases hlt : k < len
    · have hlt2 : (k : Int) < (len : Int) := by omega
      obtain ⟨d, hd⟩ : ∃ d, l[k]? = some d := ⟨_, List.getElem?_eq_getElem (by rw [hlen.out]; exact hlt)⟩
      obtain ⟨b, off, rfl, hbk, c0, c1, c2, c3, c4, c5, c6, c7, hms⟩ := (HF.out.below HB.out).at hd
      have HSV : Hid (manT (l.take (k + 1)) = manT (l.take k) ++ mW [d.nu, d.rk, d.ge, d.lv, d.bt, d.mn, d.mx]) := hidn (by rw [List.take_add_one, hd, Option.toList_some, manT_snoc]; rfl)
      obtain ⟨nu, ge, lv, rk, mn, mx, bt, pa, pl, pc, ps⟩ := d
      simp only at c0 c1 c2 c3 c4 c5 c6 c7 hms HSV
      obtain ⟨wA, hwA⟩ : ∃ wA, wA = wo.alloc (.cells #[.int .i64 nu, .int .i64 ge, .int .i64 lv, .int .i64 rk, .int .i64 mn, .int .i64 mx, .int .i64 bt, .slice pa pl pc] 37) := ⟨_, rfl⟩
      have bA : Below wo.heap.size wo wA := by rw [hwA]; exact (Below.refl _ wo).alloc (Nat.le_refl _) _
      have BA := hidn (HB.out.trans (bA.mono HB.out.size))
      have OA := hidn (own_of_below HO.out bA)
      have HWA := hidn hwA
      clear hd hms hwA bA
      have O0 : Hid (wA.ownsRow w.heap.size 5 1 u4 (4 + 56 * k + 8 * 0) (vb (putB len 4 ++ manT (l.take k) ++ mW ([nu, rk, ge, lv, bt, mn, mx].take 0)))) := hidn (by simpa [mW] using OA.out)
      clear HO OA
      go_wp2_with fail
      rw [← HWA.out]
      obtain ⟨wB, hwB⟩ : ∃ wB, wB = wA.alloc (.cells #[.int .i64 nu, .int .i64 rk, .int .i64 ge, .int .i64 lv, .int .i64 bt, .int .i64 mn, .int .i64 mx] 3) := ⟨_, rfl⟩
      have bB : Below wA.heap.size wA wB := by rw [hwB]; exact (Below.refl _ wA).alloc (Nat.le_refl _) _
      have BB := hidn (BA.out.trans (bB.mono BA.out.size))
      have OB := hidn (own_of_below O0.out bB)
      have qB : wB.heap[wA.heap.size]? = some (.cells #[.int .i64 nu, .int .i64 rk, .int .i64 ge, .int .i64 lv, .int .i64 bt, .int .i64 mn, .int .i64 mx] 3 (0, 0)) := by rw [hwB]; exact heap_alloc_new wA _
      have HIX := hidn qB
      have HSA : Hid (wA.heap.size = wo.heap.size + 1) := hidn (by rw [HWA.out]; simp)
      have HWB := hidn hwB
      clear hwB bB qB
      rw [← HWB.out]
      go_loopw [4, 43] (fun bv iv wr => ∃ j : Nat, j ≤ 7 ∧ iv = .int .i64 (j : Int) ∧ Hid (wr.ownsRow w.heap.size 5 1 bv (4 + 56 * k + 8 * j) (vb (putB len 4 ++ manT (l.take k) ++ mW ([nu, rk, ge, lv, bt, mn, mx].take j)))) ∧ Hid (wr.heap[wA.heap.size]? = some (.cells #[.int .i64 nu, .int .i64 rk, .int .i64 ge, .int .i64 lv, .int .i64 bt, .int .i64 mn, .int .i64 mx] 3 (0, 0))) ∧ Hid (Below w.heap.size w wr)) (fun _ iv _ => 7 - (intOf iv).toNat)
      case atStart => exact ⟨0, Nat.zero_le _, rfl, OB, HIX, BB⟩
      case round =>
        obtain ⟨j, hj, rfl, HO, HCE, HB2⟩ := hrel
        by_cases hjl : j < 7
        · have hjl2 : (j : Int) < 7 := by omega
          obtain ⟨x, hx⟩ : ∃ x, [nu, rk, ge, lv, bt, mn, mx][j]? = some x := ⟨_, List.getElem?_eq_getElem hjl⟩
          have hix := fk_seven HCE.out j x hx
          rw [HSA.out] at hix
          have HXT : Hid (mW ([nu, rk, ge, lv, bt, mn, mx].take (j + 1)) = mW ([nu, rk, ge, lv, bt, mn, mx].take j) ++ putB (mU x) 8) := hidn (by rw [List.take_add_one, hx, Option.toList_some, mW_snoc])
          have HPU := hidn (refBig wr x)
          obtain ⟨n, hn⟩ : ∃ n, n = mU x := ⟨_, rfl⟩
          rw [← hn] at HXT HPU
          clear hn hx
          obtain ⟨va, vc, e9⟩ : ∃ va vc, u4 = Value.slice va (4 + 56 * k + 8 * j) vc := by
            rcases HO.out.2 with ⟨h1, h2⟩ | ⟨g, cp, cur, h1, _⟩
            · exact ⟨none, 0, by rw [h1, h2]⟩
            · exact ⟨_, _, h1⟩
          go_wp2_with fail
          refine HPU.out.mono ?_
          clear HPU
          rintro e w2 ⟨rfl, hown1, hb1⟩
          have HBW1 := hidn (HB2.out.trans (hb1.mono HB2.out.size))
          have hO1 := own_of_below HO.out hb1
          obtain ⟨v3, w3, hrun, hown3, hgr3⟩ := appAny w2 w.heap.size 23 23 5 i0 z0 1 1 Try.underlying23 hi hz0 hz1 hz2 hzc (by decide) u4 (4 + 56 * k + 8 * j) (vb (putB len 4 ++ manT (l.take k) ++ mW ([nu, rk, ge, lv, bt, mn, mx].take j))) hO1 HBW1.out.size (some ⟨wr.heap.size, 0, none⟩) 8 8 (vb (putB n 8)) (by rw [length_vb, putB_length]) (fun e => by cases e) (fun x hx j u hu => by cases hx; exact fk_src hown1 j u hu) (one_vb _) (by unfold maxLen; omega) (by omega)
          have HB3 : Hid (Below w.heap.size w w3) := hidn (HBW1.out.grown hgr3 HBW1.out.size (fun k hk => (hO1.lt k hk).1))
          have HO3 : Hid (w3.ownsRow w.heap.size 5 1 v3 (4 + 56 * k + 8 * (j + 1)) (vb (putB len 4 ++ manT (l.take k) ++ mW ([nu, rk, ge, lv, bt, mn, mx].take (j + 1))))) := hidn (by
            rw [HXT.out, ← List.append_assoc, fk_app, show 4 + 56 * k + 8 * (j + 1) = 4 + 56 * k + 8 * j + 8 from by omega]
            exact hown3)
          have HC3 := hidn (fk_keep hO1 hgr3 ((hb1.block _ (Array.getElem?_eq_some_iff.1 HCE.out).1).trans HCE.out))
          have HRUN := hidn hrun
          subst e9
          clear hrun hown3 hgr3 hO1 hown1 hb1 HO HXT
          go_wp2_with (at_builtin; refine wpList_app_runA rfl _ _ 23 23 rfl rfl _ _ _ rfl rfl HRUN.out ?_; clear HRUN)
          go_wp2_with fail
          exact ⟨⟨j + 1, by omega, by simp, HO3, HC3, HB3⟩, by simp [intOf]; omega⟩
        · have hjl2 : ¬ (j : Int) < 7 := by omega
          have HOE : Hid (wr.ownsRow w.heap.size 5 1 u4 (4 + 56 * (k + 1)) (vb (putB len 4 ++ manT (l.take (k + 1))))) := hidn (by
            have h9 := HO.out
            have e7 : j = 7 := by omega
            subst e7
            rw [HSV.out, ← List.append_assoc]
            rw [show 4 + 56 * (k + 1) = 4 + 56 * k + 8 * 7 from by omega]
            exact h9)
          go_wp2_with fail
          exact ⟨⟨k + 1, by omega, by simp, HOE, HB2⟩, by simp [intOf]; omega⟩
    · have hlt2 : ¬ (k : Int) < (len : Int) := by omega
      have HOE : Hid (wo.ownsRow w.heap.size 5 1 u4 (4 + 56 * len) (vb (manB l))) := hidn (by
        have h9 := HO.out
        have e7 : k = len := by omega
        subst e7
        rw [List.take_of_length_le (by rw [hlen.out]; omega), ← hlen.out] at h9
        rw [← hlen.out]
        exact h9)
      clear HO
      go_wp2_with fail
      go_ret2
      exact ⟨_, rfl, HOE.out, HB.out⟩

end Go.Proofs.Yteammmhlpinhfaa
