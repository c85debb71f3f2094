/- The document's disk: Damaged. -/
import Derived.Test.YtocfbokgbpaneaaMm
import Derived.Test.YtocfbokgbpaneaaRyR
import Derived.Test.YtocfbokgbpaneaaDiskDamD
namespace Go.Proofs.Ytocfbokgbpaneaa
open Go.RowKit Go.Maps
set_option linter.unusedVariables false

def spotsF (f : Yf) (k : Nat) : List (List UInt8 × Nat) := (badAt (f.l.map Yc.x) k).map fun i => (f.name.data.toList, i)
def spotsY (R : List Yf) : List (List UInt8 × Nat) := R.flatMap fun f => spotsF f f.l.length

theorem spotsY_take (R : List Yf) (k : Nat) (f : Yf) (h : R[k]? = some f) : spotsY (R.take (k + 1)) = spotsY (R.take k) ++ spotsF f f.l.length := by
  have hk := List.getElem?_eq_some_iff.1 h
  unfold spotsY
  rw [List.take_succ_eq_append_getElem hk.1, List.flatMap_append, hk.2]
  simp

theorem spotsF_length (f : Yf) (k : Nat) : (spotsF f k).length ≤ k := by
  unfold spotsF
  rw [List.length_map]
  exact badAt_length _ _

theorem spotsY_length (R : List Yf) : (spotsY R).length ≤ sumL R := by
  unfold spotsY sumL
  induction R with
  | nil => simp
  | cons f r ih =>
    rw [List.flatMap_cons, List.length_append, List.map_cons, List.sum_cons]
    have := spotsF_length f f.l.length
    omega

theorem tySp : (73 : Nat) ≠ 55 := by decide

theorem Im.bs {w : World} {q : Nat × Nat} {zs : List Nat} (h : Im w q zs) (hl : zs.length = 128) (hz : ∀ x ∈ zs, x < 256) : Bs w (some ⟨q.1, 0, none⟩) 128 zs := by
  refine ⟨hl, by unfold maxLen; omega, hz, (fun e => by cases e), fun x hx j hj => ?_⟩
  cases hx
  have h1 := h.cells (g := q.1) rfl j (.int .u8 ((zs.getD j 0 : Nat) : Int)) (by
    unfold vb
    rw [List.getElem?_map, List.getElem?_eq_getElem (by omega), List.getD_eq_getElem?_getD, List.getElem?_eq_getElem (by omega)]
    rfl)
  exact h1

theorem strB_eq {a b : List Nat} (ha : ∀ x ∈ a, x < 256) (hb : ∀ x ∈ b, x < 256) : ((strB a).toList == (strB b).toList) = decide (a = b) := by
  rw [Bool.eq_iff_iff, beq_iff_eq, strB_inj ha hb]
  simp

set_option maxRecDepth 100000 in
set_option maxHeartbeats 4000000 in
theorem damagedY_any (w : World) (y : Nat) (F : Nat → Prop) (fa : Option Addr) (fc : Nat) (R : List Yf) (room fuse : Int) (h : RyOf w y F fa fc R room fuse) (hF : ∀ k, F k → k < w.heap.size) (hR : R.length ≤ 1000000) (hsm : sumL R ≤ 100000) :
    Calls Try.prog 34 #[.pointer (some ⟨y, 0, none⟩)] w fun e w' => ∃ v, e = .returned v ∧ w'.ownsRow w.heap.size 73 2 v (spotsY R).length (spv (spotsY R)) ∧ Below w.heap.size w w' := by
  have H := hidn h
  have HF := hidn hF
  have c1 : w.cell? ⟨y, 1, none⟩ = some (.slice fa R.length fc) := by rw [cell_of_row _ _ _ _ _ _ h.disk]; rfl
  obtain ⟨N, hN⟩ : ∃ N, N = R.length := ⟨_, rfl⟩
  rw [← hN] at c1 hR
  have HNN := hidn hN
  have HSM := hidn hsm
  have HFL : Hid (∀ (k : Nat) f, R[k]? = some f → f.l.length ≤ 100000 ∧ (spotsY (R.take k)).length + f.l.length ≤ 100000) := hidn (fun k f hk => by
    have h1 := sumL_take R k f hk
    have h2 := sumL_le R (k + 1)
    have h3 := spotsY_length (R.take k)
    omega)
  obtain ⟨i0, z0, hi, hz0, hz1, hz2, hz3⟩ := spInfo
  clear h hF hN hsm
  go_enter Try.func34, Try.ntmps34
  go_wp2_with fail
  clear c1
  go_loopw [3, 13] (fun ov iv wr => ∃ j : Nat, j ≤ N ∧ iv = .int .i64 (j : Int) ∧ Hid (wr.ownsRow w.heap.size 73 2 ov (spotsY (R.take j)).length (spv (spotsY (R.take j)))) ∧ Hid (Below w.heap.size w wr)) (fun _ iv _ => N - (intOf iv).toNat)
  case atStart => exact ⟨0, Nat.zero_le _, rfl, hidn (World.ownsRow_nil _ _ _ _), hidn (Below.refl _ _)⟩
  case round =>
    obtain ⟨j, hj, rfl, HO, HB⟩ := hrel
    obtain ⟨wo, hwo⟩ : ∃ wo, wo = wr := ⟨_, rfl⟩
    subst hwo
    by_cases hlt : j < N
    · have hlt2 : (j : Int) < (N : Int) := by omega
      obtain ⟨f, hf⟩ : ∃ f, R[j]? = some f := ⟨_, List.getElem?_eq_getElem (by rw [← HNN.out]; exact hlt)⟩
      have HFK := hidn hf
      obtain ⟨g, hfa, hFg, hc0, hc1⟩ := (H.out.below HF.out HB.out).at hf
      subst hfa
      unfold Yf.row at hc1
      obtain ⟨nm, hnm⟩ : ∃ nm, nm = f.name := ⟨_, rfl⟩
      obtain ⟨fg, hfg⟩ : ∃ fg, fg = f.g := ⟨_, rfl⟩
      obtain ⟨fl, hfl⟩ : ∃ fl, fl = f.l.length := ⟨_, rfl⟩
      obtain ⟨fcc, hfcc⟩ : ∃ fcc, fcc = f.c := ⟨_, rfl⟩
      rw [← hnm] at hc0
      rw [← hfg, ← hfl, ← hfcc] at hc1
      have hflb : fl ≤ 100000 := by rw [hfl]; exact (HFL.out j f hf).1
      have HFE := hidn (And.intro hnm (And.intro hfg hfl))
      obtain ⟨w1, hw1⟩ : ∃ w1, w1 = wo.alloc (.cells #[.string nm, .slice (some ⟨fg, 0, none⟩) fl fcc] 55) := ⟨_, rfl⟩
      obtain ⟨b5, hb5⟩ : ∃ b5, b5 = wo.heap.size := ⟨_, rfl⟩
      have HB5 : Hid (w1.heap[b5]? = some (.cells #[.string nm, .slice (some ⟨fg, 0, none⟩) fl fcc] 55 (0, 0))) := hidn (by rw [hw1, hb5]; exact heap_alloc_new _ _)
      have hb1 : Below wo.heap.size wo w1 := by rw [hw1]; exact (Below.refl _ _).alloc (Nat.le_refl _) _
      have HO1 := hidn (own_other HO.out (w' := w1) (fun b hb => hb1.block b (own_lt HO.out b hb)))
      have HB1 := hidn (HB.out.trans (hb1.mono HB.out.size))
      clear hf hnm hfg hfl hfcc hFg HO HB hb1
      go_wp2_with fail
      rw [← hw1, ← hb5]
      clear hc0 hc1 hw1 hb5
      go_loopw [3, 20] (fun ov iv wr => ∃ i : Nat, i ≤ fl ∧ iv = .int .i64 (i : Int) ∧ Hid (wr.ownsRow w.heap.size 73 2 ov (spotsY (R.take j) ++ spotsF f i).length (spv (spotsY (R.take j) ++ spotsF f i))) ∧ Hid (Below w.heap.size w wr) ∧ Hid (wr.heap[b5]? = some (.cells #[.string nm, .slice (some ⟨fg, 0, none⟩) fl fcc] 55 (0, 0)))) (fun _ iv _ => fl - (intOf iv).toNat)
      case atStart => exact ⟨0, Nat.zero_le _, rfl, hidn (by rw [show spotsF f 0 = [] from rfl, List.append_nil]; exact HO1.out), HB1, HB5⟩
      case round =>
        clear HO1 HB1 HB5
        obtain ⟨i, hi', rfl, HO, HB, HB5⟩ := hrel
        obtain ⟨wi, hwi⟩ : ∃ wi, wi = wr := ⟨_, rfl⟩
        subst hwi
        by_cases hlti : i < fl
        · have hlti2 : (i : Int) < (fl : Int) := by omega
          have hR2 := H.out.below HF.out HB.out
          have hm := List.mem_of_getElem? HFK.out
          obtain ⟨c, hc⟩ : ∃ c, f.l[i]? = some c := ⟨_, List.getElem?_eq_getElem (by rw [← HFE.out.2.2]; exact hlti)⟩
          have hcm := List.mem_of_getElem? hc
          obtain ⟨d0, d1, d2, d3, d4⟩ := hR2.ext hm hc
          obtain ⟨x0, x1, x2, x3⟩ := hR2.ims _ hm c hcm
          have hok := (hR2.ok _ hm).2.2 c hcm
          rw [← HFE.out.2.1] at d0 d1 d2 d3 d4
          obtain ⟨⟨p0, r0⟩, hq0⟩ : ∃ q, q = c.q0 := ⟨_, rfl⟩
          obtain ⟨⟨p1, r1⟩, hq1⟩ : ∃ q, q = c.q1 := ⟨_, rfl⟩
          obtain ⟨⟨p2, r2⟩, hq2⟩ : ∃ q, q = c.q2 := ⟨_, rfl⟩
          obtain ⟨⟨p3, r3⟩, hq3⟩ : ∃ q, q = c.q3 := ⟨_, rfl⟩
          obtain ⟨wt, hwt⟩ : ∃ wt, wt = c.x.waits := ⟨_, rfl⟩
          rw [← hq0] at d0
          rw [← hq1] at d1 x1
          rw [← hq2] at d2 x2
          rw [← hq3] at d3 x3
          rw [← hwt] at d4
          obtain ⟨W1, hW1⟩ : ∃ W1, W1 = wi.alloc (.cells #[.slice (some ⟨p0, 0, none⟩) 128 r0, .slice (some ⟨p1, 0, none⟩) 128 r1, .slice (some ⟨p2, 0, none⟩) 128 r2, .slice (some ⟨p3, 0, none⟩) 128 r3, .bool wt] 57) := ⟨_, rfl⟩
          have hBW : Below wi.heap.size wi W1 := by rw [hW1]; exact (Below.refl _ _).alloc (Nat.le_refl _) _
          have y1 := (own_other x1 (w' := W1) (fun b hb => hBW.block b (own_lt x1 b hb)) : Im W1 (p1, r1) c.x.dur)
          have y2 := (own_other x2 (w' := W1) (fun b hb => hBW.block b (own_lt x2 b hb)) : Im W1 (p2, r2) c.x.syn)
          have y3 := (own_other x3 (w' := W1) (fun b hb => hBW.block b (own_lt x3 b hb)) : Im W1 (p3, r3) c.x.wri)
          have v1 := (Im.bs y1 hok.1.1 hok.1.2).str (cap := r1)
          have v2 := (Im.bs y2 hok.2.1.1 hok.2.1.2).str (cap := r2)
          have v3 := (Im.bs y3 hok.2.2.1 hok.2.2.2).str (cap := r3)
          have E1 := strB_eq hok.1.2 hok.2.1.2
          have E2 := strB_eq hok.1.2 hok.2.2.2
          obtain ⟨sd, hsd⟩ : ∃ sd, sd = strB c.x.dur := ⟨_, rfl⟩
          obtain ⟨ss, hss⟩ : ∃ ss, ss = strB c.x.syn := ⟨_, rfl⟩
          obtain ⟨sw, hsw⟩ : ∃ sw, sw = strB c.x.wri := ⟨_, rfl⟩
          rw [← hsd] at v1 E1 E2
          rw [← hss] at v2 E1
          rw [← hsw] at v3 E2
          simp only at v1 v2 v3
          have hHO := own_other HO.out (w' := W1) (fun b hb => hBW.block b (own_lt HO.out b hb))
          have HBW := hidn (HB.out.trans (hBW.mono HB.out.size))
          have HB5W := hidn ((hBW.block b5 (Array.getElem?_eq_some_iff.1 HB5.out).1).trans HB5.out)
          have cn5 : W1.cell? ⟨b5, 0, none⟩ = some (.string nm) := by rw [cell_of_row _ _ _ _ _ _ HB5W.out]; rfl
          have hs1 : W1.heap.size = wi.heap.size + 1 := by rw [hW1, World.size_alloc]
          have HBad : Hid (spotsF f (i + 1) = spotsF f i ++ (if c.x.bad then [(f.name.data.toList, i)] else [])) := hidn (by
            unfold spotsF
            rw [badAt_succ _ i c.x (by rw [List.getElem?_map, hc]; rfl), List.map_append]
            split <;> rfl)
          have hLB : (spotsY (R.take j) ++ spotsF f i).length ≤ 100000 := by
            have h1 := (HFL.out j f HFK.out).2
            have h2 := spotsF_length f i
            rw [List.length_append]
            have h3 := HFE.out.2.2
            omega
          have HLB := hidn hLB
          by_cases hbad : c.x.bad = true
          · have hb2 := hbad
            unfold Ext.bad at hb2
            rw [Bool.and_eq_true] at hb2
            have n1 : decide (c.x.dur = c.x.syn) = false := by simpa using hb2.1
            have n2 : decide (c.x.dur = c.x.wri) = false := by simpa using hb2.2
            rw [n1] at E1
            rw [n2] at E2
            have E1' : (sd.toList != ss.toList) = true := by unfold bne; rw [E1]; rfl
            have E2' : (sd.toList != sw.toList) = true := by unfold bne; rw [E2]; rfl
            obtain ⟨va, vc, e9⟩ := own_slY HO.out
            have hB2 : Below W1.heap.size W1 (W1.alloc (.cells #[.string nm, .int .i64 (i : Int)] 73)) := (Below.refl _ _).alloc (Nat.le_refl _) _
            have ho2 := own_other hHO (w' := W1.alloc (.cells #[.string nm, .int .i64 (i : Int)] 73)) (fun b hb => hB2.block b (own_lt hHO b hb))
            obtain ⟨L, hL⟩ : ∃ L, L = (spotsY (R.take j) ++ spotsF f i).length := ⟨_, rfl⟩
            rw [← hL] at ho2 e9 hLB
            obtain ⟨g4, c4, w4, hrun, hown4, hgr4, hpl4⟩ := appN (P := Try.prog) (W1.alloc (.cells #[.string nm, .int .i64 (i : Int)] 73)) 71 71 73 i0 z0 2 24 Try.underlying71 hi hz0 hz1 hz2 hz3 (by decide) _ L _ w.heap.size ho2 (by rw [World.size_alloc, hs1]; have := HB.out.size; omega) ⟨W1.heap.size, 0, none⟩ 1 1 (by omega) [.string nm, .int .i64 (i : Int)] rfl (fun jj u hu => by
              rw [add_none, Nat.zero_add, cell_of_row _ _ _ _ _ _ (heap_alloc_new W1 (.cells #[.string nm, .int .i64 (i : Int)] 73))]
              simpa using hu) (fun u hu => by
              simp only [List.mem_cons, List.not_mem_nil, or_false] at hu
              rcases hu with rfl | rfl <;> rfl) (by unfold maxLen; omega) (by omega)
            have hB4 : Below w.heap.size w w4 := (HBW.out.trans (hB2.mono HBW.out.size)).grown hgr4 (by rw [World.size_alloc, hs1]; have := HB.out.size; omega) (fun b hb => (HO.out.lt b hb).1)
            have h5w4 : w4.heap[b5]? = some (.cells #[.string nm, .slice (some ⟨fg, 0, none⟩) fl fcc] 55 (0, 0)) := by
              have lb := (Array.getElem?_eq_some_iff.1 HB5W.out).1
              rw [hgr4.block b5 (by rw [World.size_alloc]; omega) (fun e => own_ne hHO (g := b5) e.symm HB5W.out tySp rfl)]
              exact (hB2.block b5 lb).trans HB5W.out
            have HN4 : Hid (w4.ownsRow w.heap.size 73 2 (.slice (some ⟨g4, 0, none⟩) (L + 1) c4) (spotsY (R.take j) ++ spotsF f (i + 1)).length (spv (spotsY (R.take j) ++ spotsF f (i + 1)))) := hidn (by
              rw [HBad.out, hbad, if_pos rfl, ← List.append_assoc, spv_append, List.length_append, List.length_singleton, ← hL]
              have e : spv [(f.name.data.toList, i)] = [.string nm, .int .i64 (i : Int)] := by rw [HFE.out.1]; simp [spv, encStr]
              rw [e]
              exact hown4)
            rw [hs1, hW1] at hrun
            have HRUN := hidn hrun
            have HX := hidn (And.intro hB4 h5w4)
            subst e9
            rw [hW1] at v1 v2 v3 cn5
            clear hrun hown4 hgr4 hpl4 hB4 hB2 ho2 h5w4 hL hbad hb2 n1 n2 HO HB hs1 hW1 hBW hHO hR2 hm hc hcm x0 x1 x2 x3 y1 y2 y3 hok hsd hss hsw hq0 hq1 hq2 hq3 hwt
            go_wp2_with (at_builtin; refine wpList_app_run2 rfl _ _ 71 71 rfl rfl (.slice va L vc) _ _ rfl rfl HRUN.out ?_; clear HRUN)
            go_roundw
            case rel => exact ⟨i + 1, hlti, by simp, HN4, hidn HX.out.1, hidn HX.out.2⟩
            case measure => simp [intOf]; omega
          · have hbad' : c.x.bad = false := by simpa using hbad
            have HN4 : Hid (W1.ownsRow w.heap.size 73 2 u3 (spotsY (R.take j) ++ spotsF f (i + 1)).length (spv (spotsY (R.take j) ++ spotsF f (i + 1)))) := hidn (by
              rw [HBad.out, hbad']
              simp only [Bool.false_eq_true, if_false, List.append_nil]
              exact hHO)
            rw [hW1] at v1 v2 v3 HN4 HBW HB5W
            by_cases hn1 : c.x.dur = c.x.syn
            · rw [decide_eq_true hn1] at E1
              have E1' : (sd.toList != ss.toList) = false := by unfold bne; rw [E1]; rfl
              clear HO HB hs1 hW1 hBW hHO hR2 hm hc hcm x0 x1 x2 x3 y1 y2 y3 hok hsd hss hsw hq0 hq1 hq2 hq3 hwt E2 hbad hbad' hn1 cn5
              go_wp2
              go_roundw
              case rel => exact ⟨i + 1, hlti, by simp, HN4, HBW, HB5W⟩
              case measure => simp [intOf]; omega
            · have hn2 : c.x.dur = c.x.wri := by
                unfold Ext.bad at hbad'
                rw [decide_eq_false hn1] at hbad'
                simpa using hbad'
              rw [decide_eq_false hn1] at E1
              rw [decide_eq_true hn2] at E2
              have E1' : (sd.toList != ss.toList) = true := by unfold bne; rw [E1]; rfl
              have E2' : (sd.toList != sw.toList) = false := by unfold bne; rw [E2]; rfl
              clear HO HB hs1 hW1 hBW hHO hR2 hm hc hcm x0 x1 x2 x3 y1 y2 y3 hok hsd hss hsw hq0 hq1 hq2 hq3 hwt hbad hbad' hn1 hn2 cn5
              go_wp2
              go_roundw
              case rel => exact ⟨i + 1, hlti, by simp, HN4, HBW, HB5W⟩
              case measure => simp [intOf]; omega
        · have hlti2 : ¬ (i : Int) < (fl : Int) := by omega
          have hif : i = fl := by omega
          have HN : Hid (wi.ownsRow w.heap.size 73 2 u3 (spotsY (R.take (j + 1))).length (spv (spotsY (R.take (j + 1))))) := hidn (by
            rw [spotsY_take R j f HFK.out, ← HFE.out.2.2, ← hif]
            exact HO.out)
          clear hif HO
          go_wp2
          go_roundw
          case rel => exact ⟨j + 1, hlt, by simp, HN, HB⟩
          case measure => simp [intOf]; omega
    · have hlt2 : ¬ (j : Int) < (N : Int) := by omega
      have hjN : j = N := by omega
      have hO := HO.out
      rw [hjN, HNN.out, List.take_length] at hO
      have HO2 := hidn hO
      clear hO hjN
      go_wp2
      go_ret
      exact ⟨_, rfl, HO2.out, HB.out⟩
end Go.Proofs.Ytocfbokgbpaneaa
