/- fsck.Manifest. -/
import Derived.Test.YteammmhlpinhfaaGreatDoorFkB
import Derived.Test.YteammmhlpinhfaaGreatDoorPlI
namespace Go.Proofs.YteammmhlpinhfaaGreatDoor
open Go.RowKit
set_option linter.unusedVariables false

theorem fkInfo : ∃ (i0 : TypeInfo) (z0 : Value), Tryz.prog.info? 5 = some i0 ∧ i0.zero = some z0 ∧ i0.size = 1 ∧ i0.bytes = 1 ∧ z0.cells.size = 1 := by
  obtain ⟨i0, hi, hz0, hz1, hz2⟩ := info_parts Tryz.info5
  exact ⟨i0, _, hi, hz0, hz1, hz2, rfl⟩

theorem fk_app (a b : List Nat) : vb (a ++ b) = vb a ++ vb b := by simp [vb]

theorem fk_own {w : World} {base base' e n : Nat} {v : Value} {xs : List Value} (h : w.ownsRow base e 1 v n xs) (hb : base' ≤ base) : w.ownsRow base' e 1 v n xs := by
  obtain ⟨hl, h1⟩ := h
  refine ⟨hl, ?_⟩
  rcases h1 with h1 | ⟨g, cap, cur, hv, hg, r⟩
  · exact .inl h1
  · exact .inr ⟨g, cap, cur, hv, by omega, r⟩

theorem fk_src {w : World} {base g n c : Nat} {xs : List Value} (h : w.ownsRow base 5 1 (.slice (some ⟨g, 0, none⟩) n c) n xs) (j : Nat) (u : Value) (hu : xs[j]? = some u) : w.cell? ((⟨g, 0, none⟩ : Addr).add j) = some u := by
  have hn : xs.length = n := by have := h.1; omega
  have hj : j < xs.length := (List.getElem?_eq_some_iff.1 hu).1
  have h2 := h.cellAt j (by omega)
  rw [add_none]
  rw [hu] at h2
  simpa using h2

theorem ix_agg (x0 x1 x2 x3 x4 x5 x6 : Int) (k : Nat) (x : Int) (h : [x0, x1, x2, x3, x4, x5, x6][k]? = some x) (w : World) :
    (Instr.index 84 (.agg #[.int .i64 x0, .int .i64 x1, .int .i64 x2, .int .i64 x3, .int .i64 x4, .int .i64 x5, .int .i64 x6]) (.int .i64 (k : Int))).run Tryz.prog w = .ok (.int .i64 x) w := by
  have hk : k < 7 := (List.getElem?_eq_some_iff.1 h).1
  have hc : k = 0 ∨ k = 1 ∨ k = 2 ∨ k = 3 ∨ k = 4 ∨ k = 5 ∨ k = 6 := by omega
  have i0 : (Instr.index 84 (.agg #[.int .i64 x0, .int .i64 x1, .int .i64 x2, .int .i64 x3, .int .i64 x4, .int .i64 x5, .int .i64 x6]) (.int .i64 ((0 : Nat) : Int))).run Tryz.prog w = .ok (.int .i64 x0) w := by kernel_rfl
  have i1 : (Instr.index 84 (.agg #[.int .i64 x0, .int .i64 x1, .int .i64 x2, .int .i64 x3, .int .i64 x4, .int .i64 x5, .int .i64 x6]) (.int .i64 ((1 : Nat) : Int))).run Tryz.prog w = .ok (.int .i64 x1) w := by kernel_rfl
  have i2 : (Instr.index 84 (.agg #[.int .i64 x0, .int .i64 x1, .int .i64 x2, .int .i64 x3, .int .i64 x4, .int .i64 x5, .int .i64 x6]) (.int .i64 ((2 : Nat) : Int))).run Tryz.prog w = .ok (.int .i64 x2) w := by kernel_rfl
  have i3 : (Instr.index 84 (.agg #[.int .i64 x0, .int .i64 x1, .int .i64 x2, .int .i64 x3, .int .i64 x4, .int .i64 x5, .int .i64 x6]) (.int .i64 ((3 : Nat) : Int))).run Tryz.prog w = .ok (.int .i64 x3) w := by kernel_rfl
  have i4 : (Instr.index 84 (.agg #[.int .i64 x0, .int .i64 x1, .int .i64 x2, .int .i64 x3, .int .i64 x4, .int .i64 x5, .int .i64 x6]) (.int .i64 ((4 : Nat) : Int))).run Tryz.prog w = .ok (.int .i64 x4) w := by kernel_rfl
  have i5 : (Instr.index 84 (.agg #[.int .i64 x0, .int .i64 x1, .int .i64 x2, .int .i64 x3, .int .i64 x4, .int .i64 x5, .int .i64 x6]) (.int .i64 ((5 : Nat) : Int))).run Tryz.prog w = .ok (.int .i64 x5) w := by kernel_rfl
  have i6 : (Instr.index 84 (.agg #[.int .i64 x0, .int .i64 x1, .int .i64 x2, .int .i64 x3, .int .i64 x4, .int .i64 x5, .int .i64 x6]) (.int .i64 ((6 : Nat) : Int))).run Tryz.prog w = .ok (.int .i64 x6) w := by kernel_rfl
  rcases hc with rfl | rfl | rfl | rfl | rfl | rfl | rfl <;> simp at h <;> subst h
  · exact i0
  · exact i1
  · exact i2
  · exact i3
  · exact i4
  · exact i5
  · exact i6

theorem man_no (a : Option Addr) (len cap : Nat) (l : List Fo) (w : World) (h : Fls w a len l) (hm : len ≤ 1000) (hc : len ≤ cap) (hp : pcL l = false) :
    Calls Tryz.prog 16 #[.slice a len cap] w fun e w' => e = .returned (.tuple #[.slice none 0 0, .int .i64 1]) ∧ Below w.heap.size w w' := by
  have HC := hidn (can_any a len cap l w h (by omega) hc)
  rw [hp] at HC
  have h1 : ¬ ((1000 : Int) < (len : Int)) := by omega
  clear h hp
  go_enter Tryz.func16, Tryz.ntmps16
  go_wp2_with fail
  refine HC.out.mono ?_
  rintro e w1 ⟨rfl, b1⟩
  go_wp2_with fail
  go_ret2
  exact ⟨rfl, b1⟩

set_option maxHeartbeats 2000000 in
set_option maxRecDepth 100000 in
theorem man_yes (a : Option Addr) (len cap : Nat) (l : List Fo) (w : World) (h : Fls w a len l) (hm : len ≤ 1000) (hc : len ≤ cap) (hp : pcL l = true) :
    Calls Tryz.prog 16 #[.slice a len cap] w fun e w' => ∃ v, e = .returned (.tuple #[v, .int .i64 0]) ∧ w'.ownsRow w.heap.size 5 1 v (4 + 56 * len) (vb (manB l)) ∧ Below w.heap.size w w' := by
  obtain ⟨i0, z0, hi, hz0, hz1, hz2, hzc⟩ := fkInfo
  have hlen := hidn h.1
  have HC := hidn (can_any a len cap l w h (by omega) hc)
  rw [hp] at HC
  have h1 : ¬ ((1000 : Int) < (len : Int)) := by omega
  have hw4 : IntKind.u64.wrap (len : Int) = (len : Int) := by rw [IntKind.wrap_u64]; omega
  have HP := hidn (fun w2 => put_any len 4 4 w2 (by omega) (by omega))
  have HF := hidn h
  clear h hp
  go_enter Tryz.func16, Tryz.ntmps16
  go_wp2_with fail
  refine HC.out.mono ?_
  rintro e w1 ⟨rfl, b1⟩
  have B1 := hidn b1
  clear b1
  go_wp2_with fail
  refine (HP.out w1).mono ?_
  rintro e w2 ⟨rfl, o2, b2⟩
  have B2 := hidn (B1.out.trans (b2.mono B1.out.size))
  have hS : w.heap.size ≤ w1.heap.size := B1.out.size
  have O2 : Hid (w2.ownsRow w.heap.size 5 1 (.slice (some ⟨w1.heap.size, 0, none⟩) 4 4) (4 + 56 * 0) (vb (putB len 4 ++ manT (l.take 0)))) := hidn (by simpa [manT] using fk_own o2 hS)
  have HS := hidn hS
  clear o2 b2 hS
  go_wp2_with fail
  go_loopw [4, 23] (fun bv iv wr => ∃ k : Nat, k ≤ len ∧ iv = .int .i64 (k : Int) ∧ Hid (wr.ownsRow w.heap.size 5 1 bv (4 + 56 * k) (vb (putB len 4 ++ manT (l.take k)))) ∧ Hid (Below w.heap.size w wr)) (fun _ iv _ => len - (intOf iv).toNat)
  case atStart => exact ⟨0, Nat.zero_le _, rfl, O2, B2⟩
  case round =>
    obtain ⟨wo, hwo⟩ : ∃ wo, wo = wr := ⟨wr, rfl⟩
    subst hwo
    obtain ⟨k, hk, rfl, HO, HB⟩ := hrel
    by_cases hlt : k < len
    · have hlt2 : (k : Int) < (len : Int) := by omega
      obtain ⟨d, hd⟩ : ∃ d, l[k]? = some d := ⟨_, List.getElem?_eq_getElem (by rw [hlen.out]; exact hlt)⟩
      obtain ⟨b, off, rfl, hbk, c0, c1, c2, c3, c4, c5, c6, c7, hms⟩ := (HF.out.below HB.out).at hd
      have HSV : Hid (manT (l.take (k + 1)) = manT (l.take k) ++ mW [d.nu, d.rk, d.ge, d.lv, d.bt, d.mn, d.mx]) := hidn (by rw [List.take_add_one, hd, Option.toList_some, manT_snoc]; rfl)
      obtain ⟨nu, ge, lv, rk, mn, mx, bt, pa, pl, pc, ps⟩ := d
      simp only at c0 c1 c2 c3 c4 c5 c6 c7 hms HSV
      obtain ⟨wA, hwA⟩ : ∃ wA, wA = wo.alloc (.cells #[.int .i64 nu, .int .i64 ge, .int .i64 lv, .int .i64 rk, .int .i64 mn, .int .i64 mx, .int .i64 bt, .slice pa pl pc] 40) := ⟨_, rfl⟩
      have bA : Below wo.heap.size wo wA := by rw [hwA]; exact (Below.refl _ wo).alloc (Nat.le_refl _) _
      have BA := hidn (HB.out.trans (bA.mono HB.out.size))
      have OA := hidn (own_of_below HO.out bA)
      have HWA := hidn hwA
      clear hd hms hwA bA
      have O0 : Hid (wA.ownsRow w.heap.size 5 1 u4 (4 + 56 * k + 8 * 0) (vb (putB len 4 ++ manT (l.take k) ++ mW ([nu, rk, ge, lv, bt, mn, mx].take 0)))) := hidn (by simpa [mW] using OA.out)
      clear HO OA
      go_wp2_with fail
      rw [← HWA.out]
      have HIX := hidn (ix_agg nu rk ge lv bt mn mx)
      go_loopw [4, 42] (fun bv iv wr => ∃ j : Nat, j ≤ 7 ∧ iv = .int .i64 (j : Int) ∧ Hid (wr.ownsRow w.heap.size 5 1 bv (4 + 56 * k + 8 * j) (vb (putB len 4 ++ manT (l.take k) ++ mW ([nu, rk, ge, lv, bt, mn, mx].take j)))) ∧ Hid (Below w.heap.size w wr)) (fun _ iv _ => 7 - (intOf iv).toNat)
      case atStart => exact ⟨0, Nat.zero_le _, rfl, O0, BA⟩
      case round =>
        obtain ⟨j, hj, rfl, HO, HB2⟩ := hrel
        by_cases hjl : j < 7
        · have hjl2 : (j : Int) < 7 := by omega
          obtain ⟨x, hx⟩ : ∃ x, [nu, rk, ge, lv, bt, mn, mx][j]? = some x := ⟨_, List.getElem?_eq_getElem hjl⟩
          have hix := HIX.out j x hx wr
          have HXT : Hid (mW ([nu, rk, ge, lv, bt, mn, mx].take (j + 1)) = mW ([nu, rk, ge, lv, bt, mn, mx].take j) ++ putB (mU x) 8) := hidn (by rw [List.take_add_one, hx, Option.toList_some, mW_snoc])
          obtain ⟨n, hn⟩ : ∃ n, n = mU x := ⟨_, rfl⟩
          have hw1 : IntKind.u64.wrap x = (n : Int) := by rw [mWrap, hn]
          have HPU := hidn (put_any n 8 8 wr (by rw [hn]; exact mU_lt x) (by omega))
          rw [← hn] at HXT
          clear hn hx
          obtain ⟨va, vc, e9⟩ : ∃ va vc, u4 = Value.slice va (4 + 56 * k + 8 * j) vc := by
            rcases HO.out.2 with ⟨h1, h2⟩ | ⟨g, cp, cur, h1, _⟩
            · exact ⟨none, 0, by rw [h1, h2]⟩
            · exact ⟨_, _, h1⟩
          go_wp2_with fail
          refine HPU.out.mono ?_
          clear HPU
          rintro e w2 ⟨rfl, hown1, hb1⟩
          have HBW1 := hidn (HB2.out.trans (hb1.mono HB2.out.size))
          have hO1 := own_of_below HO.out hb1
          obtain ⟨v3, w3, hrun, hown3, hgr3⟩ := appAny w2 w.heap.size 52 52 5 i0 z0 1 1 Tryz.underlying52 hi hz0 hz1 hz2 hzc (by decide) u4 (4 + 56 * k + 8 * j) (vb (putB len 4 ++ manT (l.take k) ++ mW ([nu, rk, ge, lv, bt, mn, mx].take j))) hO1 HBW1.out.size (some ⟨wr.heap.size, 0, none⟩) 8 8 (vb (putB n 8)) (by rw [length_vb, putB_length]) (fun e => by cases e) (fun x hx j u hu => by cases hx; exact fk_src hown1 j u hu) (one_vb _) (by unfold maxLen; omega) (by omega)
          have HB3 : Hid (Below w.heap.size w w3) := hidn (HBW1.out.grown hgr3 HBW1.out.size (fun k hk => (hO1.lt k hk).1))
          have HO3 : Hid (w3.ownsRow w.heap.size 5 1 v3 (4 + 56 * k + 8 * (j + 1)) (vb (putB len 4 ++ manT (l.take k) ++ mW ([nu, rk, ge, lv, bt, mn, mx].take (j + 1))))) := hidn (by
            rw [HXT.out, ← List.append_assoc, fk_app, show 4 + 56 * k + 8 * (j + 1) = 4 + 56 * k + 8 * j + 8 from by omega]
            exact hown3)
          have HRUN := hidn hrun
          subst e9
          clear hrun hown3 hgr3 hO1 hown1 hb1 HO HXT
          go_wp2_with (at_builtin; refine wpList_app_runA rfl _ _ 52 52 rfl rfl _ _ _ rfl rfl HRUN.out ?_; clear HRUN)
          go_wp2_with fail
          exact ⟨⟨j + 1, by omega, by simp, HO3, HB3⟩, by simp [intOf]; omega⟩
        · have hjl2 : ¬ (j : Int) < 7 := by omega
          have HOE : Hid (wr.ownsRow w.heap.size 5 1 u4 (4 + 56 * (k + 1)) (vb (putB len 4 ++ manT (l.take (k + 1))))) := hidn (by
            have h9 := HO.out
            have e7 : j = 7 := by omega
            subst e7
            rw [HSV.out, ← List.append_assoc]
            rw [show 4 + 56 * (k + 1) = 4 + 56 * k + 8 * 7 from by omega]
            exact h9)
          go_wp2_with fail
          exact ⟨⟨k + 1, by omega, by simp, HOE, HB2⟩, by simp [intOf]; omega⟩
    · have hlt2 : ¬ (k : Int) < (len : Int) := by omega
      have HOE : Hid (wo.ownsRow w.heap.size 5 1 u4 (4 + 56 * len) (vb (manB l))) := hidn (by
        have h9 := HO.out
        have e7 : k = len := by omega
        subst e7
        rw [List.take_of_length_le (by rw [hlen.out]; omega), ← hlen.out] at h9
        rw [← hlen.out]
        exact h9)
      clear HO
      go_wp2_with fail
      go_ret2
      exact ⟨_, rfl, HOE.out, HB.out⟩

end Go.Proofs.YteammmhlpinhfaaGreatDoor
