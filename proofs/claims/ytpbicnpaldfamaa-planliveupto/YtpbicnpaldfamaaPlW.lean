/- plan.Live. -/
import Derived.Test.YtpbicnpaldfamaaPlV
namespace Go.Proofs.Ytpbicnpaldfamaa
open Go.RowKit Go.Joins Go.Maps
set_option linter.unusedVariables false

/-- Whether a block counts, and it alone. -/
def liveAt (l : List Fo) (gen fl : Int) (E : List (Int × Int × Int)) (k : Nat) : List Fo := match l[k]? with
  | some d => if d.ge ≤ gen ∧ ¬ (d.mx < fl ∧ d.bt ≠ 0) ∧ replG (getE E d.nu) d.nu (k : Int) = false then [d] else []
  | none => []

def liveTo (l : List Fo) (gen fl : Int) (E : List (Int × Int × Int)) (k : Nat) : List Fo := (List.range k).flatMap (liveAt l gen fl E)

theorem liveTo_succ (l : List Fo) (gen fl : Int) (E : List (Int × Int × Int)) (k : Nat) : liveTo l gen fl E (k + 1) = liveTo l gen fl E k ++ liveAt l gen fl E k := by
  simp [liveTo, List.range_succ]

def LiveP (w : World) (L : List Fo) (e : Ending) (w' : World) : Prop := ∃ v l', e = .returned v ∧ OwnF w' w.heap.size v (sortE l') ∧ l'.map Fo.pv = L.map Fo.pv ∧ l'.length ≤ 14 ∧ Below w.heap.size w w'

set_option maxHeartbeats 2000000 in
set_option maxRecDepth 100000 in
theorem live_any (a : Option Addr) (len cap : Nat) (l : List Fo) (gen fl : Int) (w : World) (h : Fls w a len l) (hW : FoW l) (hm : len ≤ 14) (hps : ∀ d ∈ l, d.pl ≤ 1048576) :
    Calls Try.prog 6 #[.slice a len cap, .int .i64 gen, .int .i64 fl] w (LiveP w (liveTo l gen fl (heirsTo l gen len) len)) := by
  obtain ⟨i0, z, hi, hz0, hz1, hz2, hzc⟩ := foInfo
  have hlen := hidn h.1
  have HPS := hidn hps
  have HHR := hidn (heirsOf_any a len cap l gen w h hW hm hps)
  obtain ⟨E, hE⟩ : ∃ E, E = heirsTo l gen len := ⟨_, rfl⟩
  have hEl : E.length ≤ 100000000 := by
    have := heirsTo_len l gen (fun d hd => by rw [(h.2.2.2.1 d hd).1.1]; exact hps d hd) len
    rw [hE]
    omega
  rw [← hE] at HHR ⊢
  clear hps hE
  go_enter Try.func6, Try.ntmps6
  go_wp2_with fail
  refine HHR.out.mono ?_
  rintro e w1 ⟨rfl, ⟨N1, hM1⟩, b1⟩
  obtain ⟨bm, hbm⟩ : ∃ bm, bm = w.heap.size := ⟨_, rfl⟩
  have HBM := hidn hbm
  have h1 := h.below b1
  rw [← hbm] at hM1 ⊢
  clear hbm
  go_wp2_with fail
  go_loopw [8, 16] (fun hv iv wr => ∃ (k : Nat) (v : Value) (l' : List Fo), k ≤ len ∧ iv = .int .i64 (k : Int) ∧ hv = v ∧ l'.length ≤ k ∧ Hid (OwnF wr w1.heap.size v l' ∧ l'.map Fo.pv = (liveTo l gen fl E k).map Fo.pv) ∧ Below w1.heap.size w1 wr) (fun _ iv _ => len - (intOf iv).toNat)
  case atStart => exact ⟨0, _, [], Nat.zero_le _, rfl, rfl, Nat.le_refl _, hidn ⟨⟨World.ownsRow_nil _ _ _ _, fun d hd => by cases hd⟩, rfl⟩, Below.refl _ _⟩
  case round =>
    obtain ⟨k, v, l', hk, rfl, rfl, hl', hO, hb⟩ := hrel
    by_cases hlt : k < len
    · have hlt2 : (k : Int) < (len : Int) := by omega
      obtain ⟨d, hd⟩ : ∃ d, l[k]? = some d := ⟨_, List.getElem?_eq_getElem (by rw [hlen.out]; exact hlt)⟩
      obtain ⟨b, off, rfl, hbk, c0, c1, c2, cc3, c4, c5, c6, c7, hms⟩ := (h1.below hb).at hd
      have hdm := List.mem_of_getElem? hd
      have HAT : Hid (liveAt l gen fl E k = if d.ge ≤ gen ∧ ¬ (d.mx < fl ∧ d.bt ≠ 0) ∧ replG (getE E d.nu) d.nu (k : Int) = false then [d] else []) := hidn (by unfold liveAt; rw [hd])
      obtain ⟨wA, hwA⟩ : ∃ wA, wA = wr.alloc (.cells #[.int .i64 d.nu, .int .i64 d.ge, .int .i64 d.lv, .int .i64 d.rk, .int .i64 d.mn, .int .i64 d.mx, .int .i64 d.bt, .slice d.pa d.pl d.pc] 31) := ⟨_, rfl⟩
      have bA : Below wr.heap.size wr wA := by rw [hwA]; exact (Below.refl _ wr).alloc (Nat.le_refl _) _
      have BA := hb.trans (bA.mono hb.size)
      have qA : wA.heap[wr.heap.size]? = some (.cells #[.int .i64 d.nu, .int .i64 d.ge, .int .i64 d.lv, .int .i64 d.rk, .int .i64 d.mn, .int .i64 d.mx, .int .i64 d.bt, .slice d.pa d.pl d.pc] 31 (0, 0)) := by rw [hwA]; exact heap_alloc_new wr _
      have hAs : wr.heap.size < wA.heap.size := (Array.getElem?_eq_some_iff.1 qA).1
      have hIA := hms.1.below bA
      have HWA := hidn hwA
      have hpl := HPS.out d hdm
      have HR0 := isReplaced_any wA bm N1 bm E d.nu (k : Int) (hM1.below BA) (hW d hdm).1 hEl
      obtain ⟨Z, hZ⟩ : ∃ Z, Z = replG (getE E d.nu) d.nu (k : Int) := ⟨_, rfl⟩
      rw [← hZ] at HR0
      have HR := hidn HR0
      have HZ := hidn hZ
      clear hwA hd hdm hZ HR0
      obtain ⟨nu, ge, lv, rk, mn, mx, bt, pa, pl, pc, ps⟩ := d
      simp only at c0 c1 c2 cc3 c4 c5 c6 c7 hms HAT hpl qA HWA hIA HR HZ
      by_cases hg : ge ≤ gen
      · have hg' : ¬ gen < ge := by omega
        by_cases hmx : mx < fl
        · by_cases hbt : bt = 0
          · subst hbt
            have hkp : ¬ (mx < fl ∧ (0 : Int) ≠ 0) := fun hx => hx.2 rfl
            go_wp2_with fail
            rw [← HWA.out]
            refine HR.out.mono ?_
            rintro e w2 ⟨rfl, b2⟩
            have q2 := (b2.block _ hAs).trans qA
            have x7 : w2.cell? ⟨wr.heap.size, 7, none⟩ = some (.slice pa pl pc) := cell_of_row _ _ _ _ _ _ q2
            have B2 := BA.trans (b2.mono BA.size)
            have hI2 := hIA.below b2
            have HO2 := hidn (hO.out.1.below (bA.trans (b2.mono bA.size)))
            cases Z with
            | true =>
              have HN : Hid (OwnF w2 w1.heap.size u8 l' ∧ l'.map Fo.pv = (liveTo l gen fl E (k + 1)).map Fo.pv) := hidn ⟨HO2.out, by rw [liveTo_succ, HAT.out, if_neg (fun hx => by have := hx.2.2; rw [← HZ.out] at this; cases this), List.append_nil]; exact hO.out.2⟩
              go_wp2_with fail
              exact ⟨⟨k + 1, _, _, by omega, by simp, rfl, by omega, HN, B2⟩, by simp [intOf]; omega⟩
            | false =>
              have HC := hidn (intClone_any pa pl pc ps w2 hI2 (by omega))
              have Q2 := hidn q2
              clear q2
              go_wp2_with fail
              refine HC.out.mono ?_
              rintro e w3 ⟨v3, rfl, own3, b3⟩
              obtain ⟨a3, c3, rfl⟩ := own_slice own3
              have q3 := (b3.block _ (Nat.lt_of_lt_of_le hAs b2.size)).trans Q2.out
              have B3 := B2.trans (b3.mono B2.size)
              have e0 : w3.cell? ⟨wr.heap.size, 0, none⟩ = some (.int .i64 nu) := cell_of_row _ _ _ _ _ _ q3
              have e1 : w3.cell? ⟨wr.heap.size, 1, none⟩ = some (.int .i64 ge) := cell_of_row _ _ _ _ _ _ q3
              have e2 : w3.cell? ⟨wr.heap.size, 2, none⟩ = some (.int .i64 lv) := cell_of_row _ _ _ _ _ _ q3
              have e3 : w3.cell? ⟨wr.heap.size, 3, none⟩ = some (.int .i64 rk) := cell_of_row _ _ _ _ _ _ q3
              have e4 : w3.cell? ⟨wr.heap.size, 4, none⟩ = some (.int .i64 mn) := cell_of_row _ _ _ _ _ _ q3
              have e5 : w3.cell? ⟨wr.heap.size, 5, none⟩ = some (.int .i64 mx) := cell_of_row _ _ _ _ _ _ q3
              have e6 : w3.cell? ⟨wr.heap.size, 6, none⟩ = some (.int .i64 0) := cell_of_row _ _ _ _ _ _ q3
              have e7 : w3.cell? ⟨wr.heap.size, 7, none⟩ = some (.slice pa pl pc) := cell_of_row _ _ _ _ _ _ q3
              have f7 : w3.frozen? ⟨wr.heap.size, 7, none⟩ = false := by simp [World.frozen?, q3]
              obtain ⟨w4, hw4⟩ : ∃ w4, w4 = w3.setCell ⟨wr.heap.size, 7, none⟩ (.slice a3 pl c3) := ⟨_, rfl⟩
              have B4 : Below w1.heap.size w1 w4 := by rw [hw4]; exact B3.setCell (p := ⟨wr.heap.size, 7, none⟩) hb.size _
              have s4 : w4.heap.size = w3.heap.size := by rw [hw4]; simp
              have O4 : OwnF w4 w1.heap.size u8 l' := by rw [hw4]; exact hO.out.1.setCell ((bA.trans (b2.mono bA.size)).trans (b3.mono (Nat.le_trans bA.size b2.size))) (a := ⟨wr.heap.size, 7, none⟩) (Nat.le_refl _) _
              have M4 : OwnP w4 w1.heap.size ⟨nu, ge, lv, rk, mn, mx, 0, a3, pl, c3, ps⟩ := by
                refine ⟨?_, hI2.1⟩
                rw [hw4]
                refine own_setCell (own_lower own3 B2.size) (fun e => ?_) _
                have h7 : w2.heap.size ≤ wr.heap.size := (own3.lt _ e).1
                have := b2.size
                omega
              obtain ⟨w5, hw5⟩ : ∃ w5, w5 = w4.alloc (.cells #[.int .i64 nu, .int .i64 ge, .int .i64 lv, .int .i64 rk, .int .i64 mn, .int .i64 mx, .int .i64 0, .slice a3 pl c3] 31) := ⟨_, rfl⟩
              have b5 : Below w4.heap.size w4 w5 := by rw [hw5]; exact (Below.refl _ w4).alloc (Nat.le_refl _) _
              have O5 := O4.below b5
              have M5 := M4.below b5
              have B5 := B4.trans (b5.mono B4.size)
              have q5 : w5.heap[w3.heap.size]? = some (.cells #[.int .i64 nu, .int .i64 ge, .int .i64 lv, .int .i64 rk, .int .i64 mn, .int .i64 mx, .int .i64 0, .slice a3 pl c3] 31 (0, 0)) := by rw [hw5, ← s4]; exact heap_alloc_new w4 _
              obtain ⟨va, vc, rfl⟩ := own_slice hO.out.1.1
              have HW : Hid ((w3.setCell ⟨wr.heap.size, 7, none⟩ (.slice a3 pl c3)).alloc (.cells #[.int .i64 nu, .int .i64 ge, .int .i64 lv, .int .i64 rk, .int .i64 mn, .int .i64 mx, .int .i64 0, .slice a3 pl c3] 31) = w5) := hidn (by rw [hw5, hw4])
              have HN : Hid ((l' ++ [(⟨nu, ge, lv, rk, mn, mx, 0, a3, pl, c3, ps⟩ : Fo)]).map Fo.pv = (liveTo l gen fl E (k + 1)).map Fo.pv) := hidn (by
                rw [liveTo_succ, HAT.out, if_pos ⟨hg, hkp, HZ.out.symm⟩, List.map_append, List.map_append, hO.out.2]
                rfl)
              have hc1 : ∀ (j : Nat) (u : Value), ([.int .i64 nu, .int .i64 ge, .int .i64 lv, .int .i64 rk, .int .i64 mn, .int .i64 mx, .int .i64 0, .slice a3 pl c3] : List Value)[j]? = some u → w5.cell? ((⟨w3.heap.size, 0, none⟩ : Addr).add j) = some u := by
                intro i u hi
                rw [ladd_none, cell_of_row _ _ _ _ _ _ q5]
                match i, hi with
                | 0, hi => simpa using hi
                | 1, hi => simpa using hi
                | 2, hi => simpa using hi
                | 3, hi => simpa using hi
                | 4, hi => simpa using hi
                | 5, hi => simpa using hi
                | 6, hi => simpa using hi
                | 7, hi => simpa using hi
              have hc2 : ∀ u ∈ ([.int .i64 nu, .int .i64 ge, .int .i64 lv, .int .i64 rk, .int .i64 mn, .int .i64 mx, .int .i64 0, .slice a3 pl c3] : List Value), u.oneCell' = true := by
                intro u hu
                simp at hu
                rcases hu with rfl | rfl | rfl | rfl | rfl | rfl | rfl | rfl <;> rfl
              have hc3 : l'.length + 1 ≤ maxLen := by unfold maxLen; omega
              have hc4 : (l'.length + 1) * 80 ≤ 140737488355328 := by omega
              clear c0 c1 c2 c4 c5 c6 c7 cc3 hw4 hw5 O4 M4 b5 own3 q3
              go_wp2_with (at_builtin; rw [HW.out]; refine wpList_append_own _ rfl _ _ 22 rfl w1.heap.size 31 i0 z 8 80 Try.underlying22 hi hz0 hz1 hz2 hzc (by decide) _ l'.length (fvs l') rfl O5.1 ⟨w3.heap.size, 0, none⟩ 1 1 [.int .i64 nu, .int .i64 ge, .int .i64 lv, .int .i64 rk, .int .i64 mn, .int .i64 mx, .int .i64 0, .slice a3 pl c3] rfl rfl hc1 hc2 hc3 hc4 B5.size ?_)
              intro v' w6 own6 hgrow6 _
              have HO : Hid (OwnF w6 w1.heap.size v' (l' ++ [⟨nu, ge, lv, rk, mn, mx, 0, a3, pl, c3, ps⟩]) ∧ (l' ++ [(⟨nu, ge, lv, rk, mn, mx, 0, a3, pl, c3, ps⟩ : Fo)]).map Fo.pv = (liveTo l gen fl E (k + 1)).map Fo.pv) := hidn ⟨O5.push M5 own6 hgrow6, HN.out⟩
              have B6 : Below w1.heap.size w1 w6 := B5.grown hgrow6 B5.size (fun k hk => (O5.1.lt k hk).1)
              clear O5 M5 own6 hgrow6
              go_wp2_with fail
              exact ⟨⟨k + 1, _, _, by omega, by simp, rfl, by simp; omega, HO, B6⟩, by simp [intOf]; omega⟩
          · have hbt2 : (bt != 0) = true := by simp [hbt]
            clear hbt
            have HN : Hid (OwnF wA w1.heap.size u8 l' ∧ l'.map Fo.pv = (liveTo l gen fl E (k + 1)).map Fo.pv) := hidn ⟨hO.out.1.below bA, by rw [liveTo_succ, HAT.out, if_neg (fun hx => hx.2.1 ⟨hmx, by simpa using hbt2⟩), List.append_nil]; exact hO.out.2⟩
            go_wp2_with fail
            rw [← HWA.out]
            exact ⟨⟨k + 1, _, _, by omega, by simp, rfl, by omega, HN, BA⟩, by simp [intOf]; omega⟩
        · have hkp : ¬ (mx < fl ∧ bt ≠ 0) := fun hx => hmx hx.1
          go_wp2_with fail
          rw [← HWA.out]
          refine HR.out.mono ?_
          rintro e w2 ⟨rfl, b2⟩
          have q2 := (b2.block _ hAs).trans qA
          have x7 : w2.cell? ⟨wr.heap.size, 7, none⟩ = some (.slice pa pl pc) := cell_of_row _ _ _ _ _ _ q2
          have B2 := BA.trans (b2.mono BA.size)
          have hI2 := hIA.below b2
          have HO2 := hidn (hO.out.1.below (bA.trans (b2.mono bA.size)))
          cases Z with
          | true =>
            have HN : Hid (OwnF w2 w1.heap.size u8 l' ∧ l'.map Fo.pv = (liveTo l gen fl E (k + 1)).map Fo.pv) := hidn ⟨HO2.out, by rw [liveTo_succ, HAT.out, if_neg (fun hx => by have := hx.2.2; rw [← HZ.out] at this; cases this), List.append_nil]; exact hO.out.2⟩
            go_wp2_with fail
            exact ⟨⟨k + 1, _, _, by omega, by simp, rfl, by omega, HN, B2⟩, by simp [intOf]; omega⟩
          | false =>
            have HC := hidn (intClone_any pa pl pc ps w2 hI2 (by omega))
            have Q2 := hidn q2
            clear q2
            go_wp2_with fail
            refine HC.out.mono ?_
            rintro e w3 ⟨v3, rfl, own3, b3⟩
            obtain ⟨a3, c3, rfl⟩ := own_slice own3
            have q3 := (b3.block _ (Nat.lt_of_lt_of_le hAs b2.size)).trans Q2.out
            have B3 := B2.trans (b3.mono B2.size)
            have e0 : w3.cell? ⟨wr.heap.size, 0, none⟩ = some (.int .i64 nu) := cell_of_row _ _ _ _ _ _ q3
            have e1 : w3.cell? ⟨wr.heap.size, 1, none⟩ = some (.int .i64 ge) := cell_of_row _ _ _ _ _ _ q3
            have e2 : w3.cell? ⟨wr.heap.size, 2, none⟩ = some (.int .i64 lv) := cell_of_row _ _ _ _ _ _ q3
            have e3 : w3.cell? ⟨wr.heap.size, 3, none⟩ = some (.int .i64 rk) := cell_of_row _ _ _ _ _ _ q3
            have e4 : w3.cell? ⟨wr.heap.size, 4, none⟩ = some (.int .i64 mn) := cell_of_row _ _ _ _ _ _ q3
            have e5 : w3.cell? ⟨wr.heap.size, 5, none⟩ = some (.int .i64 mx) := cell_of_row _ _ _ _ _ _ q3
            have e6 : w3.cell? ⟨wr.heap.size, 6, none⟩ = some (.int .i64 bt) := cell_of_row _ _ _ _ _ _ q3
            have e7 : w3.cell? ⟨wr.heap.size, 7, none⟩ = some (.slice pa pl pc) := cell_of_row _ _ _ _ _ _ q3
            have f7 : w3.frozen? ⟨wr.heap.size, 7, none⟩ = false := by simp [World.frozen?, q3]
            obtain ⟨w4, hw4⟩ : ∃ w4, w4 = w3.setCell ⟨wr.heap.size, 7, none⟩ (.slice a3 pl c3) := ⟨_, rfl⟩
            have B4 : Below w1.heap.size w1 w4 := by rw [hw4]; exact B3.setCell (p := ⟨wr.heap.size, 7, none⟩) hb.size _
            have s4 : w4.heap.size = w3.heap.size := by rw [hw4]; simp
            have O4 : OwnF w4 w1.heap.size u8 l' := by rw [hw4]; exact hO.out.1.setCell ((bA.trans (b2.mono bA.size)).trans (b3.mono (Nat.le_trans bA.size b2.size))) (a := ⟨wr.heap.size, 7, none⟩) (Nat.le_refl _) _
            have M4 : OwnP w4 w1.heap.size ⟨nu, ge, lv, rk, mn, mx, bt, a3, pl, c3, ps⟩ := by
              refine ⟨?_, hI2.1⟩
              rw [hw4]
              refine own_setCell (own_lower own3 B2.size) (fun e => ?_) _
              have h7 : w2.heap.size ≤ wr.heap.size := (own3.lt _ e).1
              have := b2.size
              omega
            obtain ⟨w5, hw5⟩ : ∃ w5, w5 = w4.alloc (.cells #[.int .i64 nu, .int .i64 ge, .int .i64 lv, .int .i64 rk, .int .i64 mn, .int .i64 mx, .int .i64 bt, .slice a3 pl c3] 31) := ⟨_, rfl⟩
            have b5 : Below w4.heap.size w4 w5 := by rw [hw5]; exact (Below.refl _ w4).alloc (Nat.le_refl _) _
            have O5 := O4.below b5
            have M5 := M4.below b5
            have B5 := B4.trans (b5.mono B4.size)
            have q5 : w5.heap[w3.heap.size]? = some (.cells #[.int .i64 nu, .int .i64 ge, .int .i64 lv, .int .i64 rk, .int .i64 mn, .int .i64 mx, .int .i64 bt, .slice a3 pl c3] 31 (0, 0)) := by rw [hw5, ← s4]; exact heap_alloc_new w4 _
            obtain ⟨va, vc, rfl⟩ := own_slice hO.out.1.1
            have HW : Hid ((w3.setCell ⟨wr.heap.size, 7, none⟩ (.slice a3 pl c3)).alloc (.cells #[.int .i64 nu, .int .i64 ge, .int .i64 lv, .int .i64 rk, .int .i64 mn, .int .i64 mx, .int .i64 bt, .slice a3 pl c3] 31) = w5) := hidn (by rw [hw5, hw4])
            have HN : Hid ((l' ++ [(⟨nu, ge, lv, rk, mn, mx, bt, a3, pl, c3, ps⟩ : Fo)]).map Fo.pv = (liveTo l gen fl E (k + 1)).map Fo.pv) := hidn (by
              rw [liveTo_succ, HAT.out, if_pos ⟨hg, hkp, HZ.out.symm⟩, List.map_append, List.map_append, hO.out.2]
              rfl)
            have hc1 : ∀ (j : Nat) (u : Value), ([.int .i64 nu, .int .i64 ge, .int .i64 lv, .int .i64 rk, .int .i64 mn, .int .i64 mx, .int .i64 bt, .slice a3 pl c3] : List Value)[j]? = some u → w5.cell? ((⟨w3.heap.size, 0, none⟩ : Addr).add j) = some u := by
              intro i u hi
              rw [ladd_none, cell_of_row _ _ _ _ _ _ q5]
              match i, hi with
              | 0, hi => simpa using hi
              | 1, hi => simpa using hi
              | 2, hi => simpa using hi
              | 3, hi => simpa using hi
              | 4, hi => simpa using hi
              | 5, hi => simpa using hi
              | 6, hi => simpa using hi
              | 7, hi => simpa using hi
            have hc2 : ∀ u ∈ ([.int .i64 nu, .int .i64 ge, .int .i64 lv, .int .i64 rk, .int .i64 mn, .int .i64 mx, .int .i64 bt, .slice a3 pl c3] : List Value), u.oneCell' = true := by
              intro u hu
              simp at hu
              rcases hu with rfl | rfl | rfl | rfl | rfl | rfl | rfl | rfl <;> rfl
            have hc3 : l'.length + 1 ≤ maxLen := by unfold maxLen; omega
            have hc4 : (l'.length + 1) * 80 ≤ 140737488355328 := by omega
            clear c0 c1 c2 c4 c5 c6 c7 cc3 hw4 hw5 O4 M4 b5 own3 q3
            go_wp2_with (at_builtin; rw [HW.out]; refine wpList_append_own _ rfl _ _ 22 rfl w1.heap.size 31 i0 z 8 80 Try.underlying22 hi hz0 hz1 hz2 hzc (by decide) _ l'.length (fvs l') rfl O5.1 ⟨w3.heap.size, 0, none⟩ 1 1 [.int .i64 nu, .int .i64 ge, .int .i64 lv, .int .i64 rk, .int .i64 mn, .int .i64 mx, .int .i64 bt, .slice a3 pl c3] rfl rfl hc1 hc2 hc3 hc4 B5.size ?_)
            intro v' w6 own6 hgrow6 _
            have HO : Hid (OwnF w6 w1.heap.size v' (l' ++ [⟨nu, ge, lv, rk, mn, mx, bt, a3, pl, c3, ps⟩]) ∧ (l' ++ [(⟨nu, ge, lv, rk, mn, mx, bt, a3, pl, c3, ps⟩ : Fo)]).map Fo.pv = (liveTo l gen fl E (k + 1)).map Fo.pv) := hidn ⟨O5.push M5 own6 hgrow6, HN.out⟩
            have B6 : Below w1.heap.size w1 w6 := B5.grown hgrow6 B5.size (fun k hk => (O5.1.lt k hk).1)
            clear O5 M5 own6 hgrow6
            go_wp2_with fail
            exact ⟨⟨k + 1, _, _, by omega, by simp, rfl, by simp; omega, HO, B6⟩, by simp [intOf]; omega⟩
      · have hg' : gen < ge := by omega
        have HN : Hid (OwnF wA w1.heap.size u8 l' ∧ l'.map Fo.pv = (liveTo l gen fl E (k + 1)).map Fo.pv) := hidn ⟨hO.out.1.below bA, by rw [liveTo_succ, HAT.out, if_neg (fun hx => absurd hx.1 hg), List.append_nil]; exact hO.out.2⟩
        go_wp2_with fail
        rw [← HWA.out]
        exact ⟨⟨k + 1, _, _, by omega, by simp, rfl, by omega, HN, BA⟩, by simp [intOf]; omega⟩
    · have hlt2 : ¬ (k : Int) < (len : Int) := by omega
      obtain rfl : k = len := by omega
      have HL := hidn hO.out.2
      have HS := hidn (sortStable_any hO.out.1 (by omega) hb.size)
      have hz1 : w.heap.size ≤ w1.heap.size := b1.size
      go_wp2_with fail
      refine HS.out.mono ?_
      rintro e w2 ⟨rfl, hO2, b2⟩
      go_wp2_with fail
      exact bodyPost_ret (v := u8) (by simp [results, Try.results6, go_sem]) rfl ⟨_, l', rfl, ⟨own_lower hO2.1 hz1, fun d hd => ⟨own_lower (hO2.2 d hd).1 hz1, (hO2.2 d hd).2⟩⟩, HL.out, by omega, (b1.trans (hb.mono hz1)).trans (b2.mono hz1)⟩

end Go.Proofs.Ytpbicnpaldfamaa
