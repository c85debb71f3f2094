/- merge: the document's Merged. -/
import Derived.Test.YtccjgciknaooaaaHjM
namespace Go.Proofs.Ytccjgciknaooaaa
open Go.RowKit Go.Joins
set_option linter.unusedVariables false

/-- What the document's Merged leaves. -/
def RefP (l : List Rk) (floor : Int) (G : List Gp) (w : World) (e : Ending) (w' : World) : Prop :=
  (badM l = true ∧ e = .returned (.tuple #[.slice none 0 0, .int .i64 1]) ∧ Below w.heap.size w w') ∨
  (badM l = false ∧ ∃ (v : Value) (T : List Sam), e = .returned (.tuple #[v, .int .i64 0]) ∧ TellP l floor G T ∧ T.length ≤ totZ l ∧ w'.ownsRow w.heap.size 36 2 v T.length (vsm T) ∧ Below w.heap.size w w')

theorem dn_ok {l : List Rk} {floor : Int} {G : List Gp} {i j : Nat} {T : List Sam} (h : Dn l floor G i j T) (hz : ∀ (k : Nat) (r : Rk), l[k]? = some r → ∀ i, SamOK (samD r.zs i)) : ∀ s ∈ T, SamOK s := by
  intro s hs
  obtain ⟨p, x, k, _, hx, _, hy, _⟩ := (h.2 s).1 hs
  rw [← hy]
  exact hz p x hx k

set_option maxHeartbeats 16000000 in
set_option maxRecDepth 100000 in
theorem refMerged_any (a : Option Addr) (len cap : Nat) (l : List Rk) (floor : Int) (ga : Option Addr) (gl gc : Nat) (G : List Gp) (w : World) (h : Rks w a len l) (h1000 : len ≤ 1000) (hN : totZ l ≤ 2000) (hg : Gps w ga gl G) :
    Calls Try.prog 7 #[.slice a len cap, .int .i64 floor, .slice ga gl gc] w (RefP l floor G w) := by
  have HL := hidn h.1
  have H := hidn h
  have HG := hidn hg
  have HTZ := hidn hN
  have HOKZ : Hid (∀ (k : Nat) (r : Rk), l[k]? = some r → ∀ i, SamOK (samD r.zs i)) := hidn (fun k r hk => (h.2.2.1 k r hk).1.2.2.1)
  clear h hg hN
  by_cases h40 : 40 < len
  · have n40 : (40 : Int) < (len : Int) := by omega
    have HBD := hidn (badM_len (l := l) (by rw [HL.out]; exact h40))
    go_enter Try.func7, Try.ntmps7
    go_wp2_with fail
    go_ret2
    exact .inl ⟨HBD.out, rfl, Below.refl _ _⟩
  · have n40 : ¬ (40 : Int) < (len : Int) := by omega
    go_enter Try.func7, Try.ntmps7
    go_wp2_with fail
    go_loopw [25] (fun iv wr => ∃ k : Nat, k ≤ len ∧ iv = .int .i64 (k : Int) ∧ Hid (Below w.heap.size w wr) ∧ Hid (∀ (j : Nat) (r : Rk), j < k → l[j]? = some r → riseB r.zs = true)) (fun iv _ => len - (intOf iv).toNat)
    case atStart => exact ⟨0, Nat.zero_le _, rfl, hidn (Below.refl _ _), hidn (fun j r hj => by omega)⟩
    case round =>
      obtain ⟨k, hk, rfl, HB, HK⟩ := hrel
      by_cases hlt : k < len
      · have hlt2 : (k : Int) < (len : Int) := by omega
        obtain ⟨r, hr⟩ : ∃ r, l[k]? = some r := ⟨_, List.getElem?_eq_getElem (by rw [HL.out]; exact hlt)⟩
        obtain ⟨h1, h2, h3, h4⟩ := H.out.below HB.out
        obtain ⟨b, off, rfl, hc⟩ := h4 (by omega)
        obtain ⟨c0, c1⟩ := hc k r hr
        obtain ⟨hS, _⟩ := h3 k r hr
        have HR := hidn hr
        obtain ⟨rank, sa, sl, sc, zs⟩ := r
        simp only at c0 c1 hS
        obtain ⟨w1, hw1⟩ : ∃ w1, w1 = wr.alloc (.cells #[.int .i64 rank, .slice sa sl sc] 47) := ⟨_, rfl⟩
        have hb1 : Below wr.heap.size wr w1 := by rw [hw1]; exact (Below.refl _ wr).alloc (Nat.le_refl _) _
        have q1 : w1.heap[wr.heap.size]? = some (.cells #[.int .i64 rank, .slice sa sl sc] 47 (0, 0)) := by rw [hw1]; exact heap_alloc_new wr _
        have HRS := hidn (refRises_any sa sl sc zs w1 (hS.below hb1))
        have HB1 := hidn (HB.out.trans (hb1.mono HB.out.size))
        have e1 : w1.cell? ⟨wr.heap.size, 1, none⟩ = some (.slice sa sl sc) := cell_of_row _ _ _ _ _ _ q1
        have HW1 := hidn hw1
        obtain ⟨rb, hrb⟩ : ∃ rb, rb = riseB zs := ⟨_, rfl⟩
        rw [← hrb] at HRS
        have HRB := hidn hrb
        clear h1 h2 h3 h4 hc hS hrb hr hw1 hb1 q1
        go_wp2_with fail
        rw [← HW1.out]
        refine HRS.out.mono ?_
        rintro e w2 ⟨rfl, b2⟩
        have HB2 := hidn (HB1.out.trans (b2.mono HB1.out.size))
        clear b2
        cases rb
        · have HBD := hidn (badM_at HR.out HRB.out.symm)
          go_wp2_with fail
          go_ret2
          exact .inl ⟨HBD.out, rfl, HB2.out⟩
        · have HK2 : Hid (∀ (j : Nat) (r : Rk), j < k + 1 → l[j]? = some r → riseB r.zs = true) := hidn (fun j r hj hr => by
            by_cases he : j = k
            · subst he
              have h9 := HR.out
              rw [hr] at h9
              cases h9
              exact HRB.out.symm
            · exact HK.out j r (by omega) hr)
          go_wp2_with fail
          go_roundw
          case rel => exact ⟨k + 1, by omega, by first | rfl | simp, HB2, HK2⟩
          case measure => simp [intOf]; omega
      · obtain rfl : k = len := by omega
        have hall : ∀ (j : Nat) (r : Rk), l[j]? = some r → riseB r.zs = true := fun j r hr => HK.out j r (by have := (List.getElem?_eq_some_iff.1 hr).1; rw [HL.out] at this; exact this) hr
        have HBD := hidn (badM_no (l := l) (by rw [HL.out]; exact h40) hall)
        have HUP : Hid (∀ (q : Nat) (z : Rk), l[q]? = some z → UpZ z.zs) := hidn (fun q z hq => upZ_of (hall q z hq))
        clear hall HK hlt
        go_wp2_with fail
        go_loopw [10, 36] (fun tv iv wr => ∃ (i : Nat) (T : List Sam), i ≤ k ∧ iv = .int .i64 (i : Int) ∧ Hid (Dn l floor G i 0 T) ∧ Hid (T.length ≤ totZ (l.take i)) ∧ Hid (wr.ownsRow w.heap.size 36 2 tv T.length (vsm T)) ∧ Hid (Below w.heap.size w wr)) (fun _ iv _ => k - (intOf iv).toNat)
        case atStart => exact ⟨0, [], Nat.zero_le _, rfl, hidn (dn_0 l floor G), hidn (Nat.zero_le _), hidn (World.ownsRow_nil _ _ _ _), HB⟩
        case round =>
          clear HB
          obtain ⟨i, T, hi, rfl, HD, HTL, HO, HBO⟩ := hrel
          obtain ⟨wo, hwo⟩ : ∃ wo, wo = wr := ⟨_, rfl⟩
          subst hwo
          by_cases hlt : i < k
          · have hlt2 : (i : Int) < (k : Int) := by omega
            obtain ⟨r, hr⟩ : ∃ r, l[i]? = some r := ⟨_, List.getElem?_eq_getElem (by rw [HL.out]; exact hlt)⟩
            obtain ⟨lb, lo, rfl, _⟩ := H.out.2.2.2 (by omega)
            have HC : Hid (∀ W, Below w.heap.size w W → ∀ (q : Nat) (z : Rk), l[q]? = some z → W.cell? ⟨lb, lo + q * 2, none⟩ = some (.int .i64 z.rank) ∧ W.cell? ⟨lb, lo + q * 2 + 1, none⟩ = some (.slice z.sa z.sl z.sc)) := hidn (fun W hW q z hq => by
              obtain ⟨b2, o2, e, hc⟩ := (H.out.below hW).2.2.2 (by omega)
              cases e
              exact hc q z hq)
            have HSM : Hid (∀ W, Below w.heap.size w W → ∀ (q : Nat) (z : Rk), l[q]? = some z → Sm W z.sa z.sl z.zs) := hidn (fun W hW q z hq => ((H.out.below hW).2.2.1 q z hq).1)
            obtain ⟨c0, c1⟩ := HC.out wo HBO.out i r hr
            have HX := hidn hr
            obtain ⟨xr, sa, sl, sc, zs⟩ := r
            simp only at c0 c1
            have HZL : Hid (zs.length = sl) := hidn (HSM.out wo HBO.out i _ hr).1
            have hslm := (HSM.out wo HBO.out i _ hr).2.1
            unfold maxLen at hslm
            simp only at hslm
            obtain ⟨w2, hw2⟩ : ∃ w2, w2 = wo.alloc (.cells #[.int .i64 xr, .slice sa sl sc] 47) := ⟨_, rfl⟩
            have b2 : Below wo.heap.size wo w2 := by rw [hw2]; exact (Below.refl _ wo).alloc (Nat.le_refl _) _
            have HQ2 : Hid (w2.heap[wo.heap.size]? = some (.cells #[.int .i64 xr, .slice sa sl sc] 47 (0, 0))) := hidn (by rw [hw2]; exact heap_alloc_new wo _)
            have HB2 := hidn (HBO.out.trans (b2.mono HBO.out.size))
            have HO2 := hidn (own_skip HO.out b2)
            have e1 : w2.cell? ⟨wo.heap.size, 1, none⟩ = some (.slice sa sl sc) := cell_of_row _ _ _ _ _ _ HQ2.out
            have HW2 := hidn hw2
            clear hr hw2 b2
            go_wp2_with fail
            rw [← HW2.out]
            go_wp2_with fail
            go_loopw [10, 44] (fun tv jv wr => ∃ (j : Nat) (T : List Sam), j ≤ sl ∧ jv = .int .i64 (j : Int) ∧ Hid (Dn l floor G i j T) ∧ Hid (T.length ≤ totZ (l.take i) + j) ∧ Hid (wr.ownsRow w.heap.size 36 2 tv T.length (vsm T)) ∧ Hid (Below w2.heap.size w2 wr)) (fun _ jv _ => sl - (intOf jv).toNat)
            case atStart => exact ⟨0, T, Nat.zero_le _, rfl, HD, HTL, HO2, hidn (Below.refl _ _)⟩
            case round =>
              clear HD HTL HO HO2
              obtain ⟨j, T, hj, rfl, HD, HTL, HO, HB3⟩ := hrel
              obtain ⟨wp, hwp⟩ : ∃ wp, wp = wr := ⟨_, rfl⟩
              subst hwp
              have HBP := hidn (HB2.out.trans (HB3.out.mono HB2.out.size))
              by_cases hlt : j < sl
              · have hlt2 : (j : Int) < (sl : Int) := by omega
                have hj2 : j < zs.length := by rw [HZL.out]; exact hlt
                have hsm := HSM.out wp HBP.out i _ HX.out
                obtain ⟨sb, so, hsa, hsb, hcl⟩ := hsm.pos (by show 0 < sl; omega)
                obtain ⟨p0, p1⟩ := hcl j hlt
                simp only at hsa p0 p1
                subst hsa
                obtain ⟨ts, hts⟩ : ∃ ts, ts = (samD zs j).t := ⟨_, rfl⟩
                obtain ⟨vs, hvs⟩ : ∃ vs, vs = (samD zs j).v := ⟨_, rfl⟩
                rw [← hts] at p0
                rw [← hvs] at p1
                have HSV : Hid (samD zs j = ⟨ts, vs⟩) := hidn (by rw [hts, hvs])
                have HOKS : Hid (SamOK ⟨ts, vs⟩) := hidn (by rw [← HSV.out]; exact HOKZ.out i _ HX.out j)
                have HOKT := hidn (dn_ok HD.out HOKZ.out)
                obtain ⟨fa, fc, hv, hfc, hF⟩ := sm_of_own HO.out (samD_ok HOKT.out)
                subst hv
                have HF := hidn hF
                have HJZ := hidn hj2
                obtain ⟨w3, hw3⟩ : ∃ w3, w3 = wp.alloc (.cells #[.int .i64 ts, .int .u64 (vs : Int)] 36) := ⟨_, rfl⟩
                have b3 : Below wp.heap.size wp w3 := by rw [hw3]; exact (Below.refl _ wp).alloc (Nat.le_refl _) _
                have HQ3 : Hid (w3.heap[wp.heap.size]? = some (.cells #[.int .i64 ts, .int .u64 (vs : Int)] 36 (0, 0))) := hidn (by rw [hw3]; exact heap_alloc_new wp _)
                have HB23 := hidn (HB3.out.trans (b3.mono HB3.out.size))
                have HP3 := hidn b3
                have HW3 := hidn hw3
                clear hsm hcl hts hvs hF hw3 b3 hj2
                go_wp2_with fail
                rw [← HW3.out]
                go_wp2_with fail
                go_loopw [15, 50] (fun bv kv wr => ∃ (n : Nat) (b : Bool), n ≤ k ∧ kv = .int .i64 (n : Int) ∧ bv = .bool b ∧ Hid (b = true ↔ BeatK l i xr ts n 0) ∧ Hid (Below w3.heap.size w3 wr)) (fun _ kv _ => k - (intOf kv).toNat)
                case atStart => exact ⟨0, false, Nat.zero_le _, rfl, rfl, hidn ⟨(fun h => by cases h), fun h => absurd h (beat_0 l i xr ts)⟩, hidn (Below.refl _ _)⟩
                case round =>
                  obtain ⟨n, bt, hn, rfl, rfl, HBT, HB4⟩ := hrel
                  obtain ⟨wq, hwq⟩ : ∃ wq, wq = wr := ⟨_, rfl⟩
                  subst hwq
                  have HB24 := hidn (HB23.out.trans (HB4.out.mono HB23.out.size))
                  have HBQ := hidn (HB2.out.trans (HB24.out.mono HB2.out.size))
                  by_cases hlt : n < k
                  · have hlt2 : (n : Int) < (k : Int) := by omega
                    obtain ⟨r, hr⟩ : ∃ r, l[n]? = some r := ⟨_, List.getElem?_eq_getElem (by rw [HL.out]; exact hlt)⟩
                    obtain ⟨d0, d1⟩ := HC.out wq HBQ.out n r hr
                    have HY := hidn hr
                    obtain ⟨yr, ya, yl, yc, ys⟩ := r
                    simp only at d0 d1
                    have HYL : Hid (ys.length = yl) := hidn (HSM.out wq HBQ.out n _ hr).1
                    have hylm := (HSM.out wq HBQ.out n _ hr).2.1
                    unfold maxLen at hylm
                    simp only at hylm
                    obtain ⟨w4, hw4⟩ : ∃ w4, w4 = wq.alloc (.cells #[.int .i64 yr, .slice ya yl yc] 47) := ⟨_, rfl⟩
                    have b4 : Below wq.heap.size wq w4 := by rw [hw4]; exact (Below.refl _ wq).alloc (Nat.le_refl _) _
                    have HQ4 : Hid (w4.heap[wq.heap.size]? = some (.cells #[.int .i64 yr, .slice ya yl yc] 47 (0, 0))) := hidn (by rw [hw4]; exact heap_alloc_new wq _)
                    have HB34 := hidn (HB4.out.trans (b4.mono HB4.out.size))
                    have e4 : w4.cell? ⟨wq.heap.size, 1, none⟩ = some (.slice ya yl yc) := cell_of_row _ _ _ _ _ _ HQ4.out
                    have HW4 := hidn hw4
                    clear hr hw4 b4
                    go_wp2_with fail
                    rw [← HW4.out]
                    go_wp2_with fail
                    go_loopw [15, 58] (fun bv mv wr => ∃ (m : Nat) (b : Bool), m ≤ yl ∧ mv = .int .i64 (m : Int) ∧ bv = .bool b ∧ Hid (b = true ↔ BeatK l i xr ts n m) ∧ Hid (Below w4.heap.size w4 wr)) (fun _ mv _ => yl - (intOf mv).toNat)
                    case atStart => exact ⟨0, bt, Nat.zero_le _, rfl, rfl, HBT, hidn (Below.refl _ _)⟩
                    case round =>
                      clear HBT
                      obtain ⟨m, bt, hm, rfl, rfl, HBT, HB5⟩ := hrel
                      obtain ⟨wt, hwt⟩ : ∃ wt, wt = wr := ⟨_, rfl⟩
                      subst hwt
                      have HB35 := hidn (HB34.out.trans (HB5.out.mono HB34.out.size))
                      have HB25 := hidn (HB23.out.trans (HB35.out.mono HB23.out.size))
                      have HBT5 := hidn (HB2.out.trans (HB25.out.mono HB2.out.size))
                      by_cases hlt : m < yl
                      · have hlt2 : (m : Int) < (yl : Int) := by omega
                        have hsm := HSM.out wt HBT5.out n _ HY.out
                        obtain ⟨yb, yo, hya, hyb, hcl⟩ := hsm.pos (by show 0 < yl; omega)
                        obtain ⟨s0, s1⟩ := hcl m hlt
                        simp only at hya s0 s1
                        subst hya
                        have HMO := hidn (beat_more (i := i) (xr := xr) (ts := ts) HY.out (show m < ys.length by rw [HYL.out]; exact hlt))
                        obtain ⟨to, hto⟩ : ∃ to, to = (samD ys m).t := ⟨_, rfl⟩
                        obtain ⟨vo, hvo⟩ : ∃ vo, vo = (samD ys m).v := ⟨_, rfl⟩
                        simp only at HMO
                        rw [← hto] at s0 HMO
                        rw [← hvo] at s1
                        have b5 : Below wt.heap.size wt (wt.alloc (.cells #[.int .i64 to, .int .u64 (vo : Int)] 36)) := (Below.refl _ wt).alloc (Nat.le_refl _) _
                        have HBN : Hid (Below w4.heap.size w4 (wt.alloc (.cells #[.int .i64 to, .int .u64 (vo : Int)] 36))) := hidn (HB5.out.trans (b5.mono HB5.out.size))
                        have f1 : (wt.alloc (.cells #[.int .i64 to, .int .u64 (vo : Int)] 36)).cell? ⟨wq.heap.size, 0, none⟩ = some (.int .i64 yr) := Lib.cell?_alloc_some _ (cell_of_row _ _ _ _ _ _ ((HB5.out.block _ (Array.getElem?_eq_some_iff.1 HQ4.out).1).trans HQ4.out))
                        have f2 : (wt.alloc (.cells #[.int .i64 to, .int .u64 (vo : Int)] 36)).cell? ⟨wp.heap.size, 0, none⟩ = some (.int .i64 ts) := Lib.cell?_alloc_some _ (cell_of_row _ _ _ _ _ _ ((HB35.out.block _ (Array.getElem?_eq_some_iff.1 HQ3.out).1).trans HQ3.out))
                        have f3 : (wt.alloc (.cells #[.int .i64 to, .int .u64 (vo : Int)] 36)).cell? ⟨wo.heap.size, 0, none⟩ = some (.int .i64 xr) := Lib.cell?_alloc_some _ (cell_of_row _ _ _ _ _ _ ((HB25.out.block _ (Array.getElem?_eq_some_iff.1 HQ2.out).1).trans HQ2.out))
                        clear hsm hcl hto hvo b5
                        cases bt
                        · by_cases hts : to = ts
                          · by_cases hr1 : xr < yr
                            · have HNW : Hid (BeatK l i xr ts n (m + 1)) := hidn (HMO.out.2 (.inr ⟨hts, .inl hr1⟩))
                              subst hts
                              go_wp2_with fail
                              go_roundw
                              case rel => exact ⟨m + 1, true, by omega, by first | rfl | simp, rfl, hidn ⟨fun _ => HNW.out, fun _ => rfl⟩, HBN⟩
                              case measure => simp [intOf]; omega
                            · by_cases hr2 : yr = xr
                              · by_cases hin : i < n
                                · have hin2 : (i : Int) < (n : Int) := by omega
                                  have HNW : Hid (BeatK l i xr ts n (m + 1)) := hidn (HMO.out.2 (.inr ⟨hts, .inr ⟨hr2, hin2⟩⟩))
                                  subst hts
                                  subst hr2
                                  go_wp2_with fail
                                  go_roundw
                                  case rel => exact ⟨m + 1, true, by omega, by first | rfl | simp, rfl, hidn ⟨fun _ => HNW.out, fun _ => rfl⟩, HBN⟩
                                  case measure => simp [intOf]; omega
                                · have hin2 : ¬ (i : Int) < (n : Int) := by omega
                                  have HNW : Hid (¬ BeatK l i xr ts n (m + 1)) := hidn (fun h8 => (HMO.out.1 h8).elim (fun h7 => (by have := HBT.out.2 h7; cases this)) (fun h9 => by have h6 := h9.2; unfold btR at h6; omega))
                                  subst hts
                                  subst hr2
                                  go_wp2_with fail
                                  go_roundw
                                  case rel => exact ⟨m + 1, false, by omega, by first | rfl | simp, rfl, hidn ⟨fun h => (by cases h), fun h => absurd h HNW.out⟩, HBN⟩
                                  case measure => simp [intOf]; omega
                              · have HNW : Hid (¬ BeatK l i xr ts n (m + 1)) := hidn (fun h8 => (HMO.out.1 h8).elim (fun h7 => (by have := HBT.out.2 h7; cases this)) (fun h9 => by have h6 := h9.2; unfold btR at h6; omega))
                                subst hts
                                go_wp2_with fail
                                go_roundw
                                case rel => exact ⟨m + 1, false, by omega, by first | rfl | simp, rfl, hidn ⟨fun h => (by cases h), fun h => absurd h HNW.out⟩, HBN⟩
                                case measure => simp [intOf]; omega
                          · have HNW : Hid (¬ BeatK l i xr ts n (m + 1)) := hidn (fun h8 => (HMO.out.1 h8).elim (fun h7 => (by have := HBT.out.2 h7; cases this)) (fun h9 => hts h9.1))
                            go_wp2_with fail
                            go_roundw
                            case rel => exact ⟨m + 1, false, by omega, by first | rfl | simp, rfl, hidn ⟨fun h => (by cases h), fun h => absurd h HNW.out⟩, HBN⟩
                            case measure => simp [intOf]; omega
                        · have HNW : Hid (BeatK l i xr ts n (m + 1)) := hidn (HMO.out.2 (.inl (HBT.out.1 rfl)))
                          go_wp2_with fail
                          go_roundw
                          case rel => exact ⟨m + 1, true, by omega, by first | rfl | simp, rfl, hidn ⟨fun _ => HNW.out, fun _ => rfl⟩, HBN⟩
                          case measure => simp [intOf]; omega
                      · have HNX : Hid (bt = true ↔ BeatK l i xr ts (n + 1) 0) := hidn (HBT.out.trans (beat_next HY.out (show m = ys.length by rw [HYL.out]; omega)).symm)
                        have hlt3 : ¬ (m : Int) < (yl : Int) := by omega
                        go_wp2_with fail
                        go_roundw
                        case rel => exact ⟨n + 1, bt, by omega, by first | rfl | simp, rfl, HNX, HB35⟩
                        case measure => simp [intOf]; omega
                  · have hlt3 : ¬ (n : Int) < (k : Int) := by omega
                    have HWN : Hid (bt = false → WinAt l i ⟨xr, some ⟨sb, so, none⟩, sl, sc, zs⟩ (samD zs j)) := hidn (fun h => (beat_end (k := n) (by rw [HL.out]; omega)).1 (fun h9 => by
                      have h8 := HBT.out.2 (by
                        have h7 : (samD zs j).t = ts := by rw [HSV.out]
                        rw [← h7]; exact h9)
                      rw [h] at h8; cases h8))
                    have HWY : Hid (bt = true → ¬ WinAt l i ⟨xr, some ⟨sb, so, none⟩, sl, sc, zs⟩ (samD zs j)) := hidn (fun h h9 => (beat_end (k := n) (by rw [HL.out]; omega)).2 h9 (by
                      have h8 := HBT.out.1 h
                      have h7 : (samD zs j).t = ts := by rw [HSV.out]
                      show BeatK l i xr (samD zs j).t n 0
                      rw [h7]; exact h8))
                    have HOQ : Hid (wq.ownsRow w.heap.size 36 2 (.slice fa T.length fc) T.length (vsm T)) := hidn (own_skip HO.out (HP3.out.trans (HB4.out.mono HP3.out.size)))
                    have HTL2 : Hid (T.length ≤ totZ (l.take i) + (j + 1)) := hidn (by have := HTL.out; omega)
                    have g0 : wq.cell? ⟨wp.heap.size, 0, none⟩ = some (.int .i64 ts) := cell_of_row _ _ _ _ _ _ ((HB4.out.block _ (Array.getElem?_eq_some_iff.1 HQ3.out).1).trans HQ3.out)
                    have g1 : wq.cell? ⟨wp.heap.size, 1, none⟩ = some (.int .u64 (vs : Int)) := cell_of_row _ _ _ _ _ _ ((HB4.out.block _ (Array.getElem?_eq_some_iff.1 HQ3.out).1).trans HQ3.out)
                    cases bt
                    · by_cases hfl : floor ≤ ts
                      · have HWI := hidn (within_any ga gl gc G ts wq (HG.out.below HBQ.out))
                        obtain ⟨ib, hib⟩ : ∃ ib, ib = inB G ts := ⟨_, rfl⟩
                        rw [← hib] at HWI
                        have HIB := hidn hib
                        clear hib
                        go_wp2_with fail
                        refine HWI.out.mono ?_
                        rintro e w6 ⟨rfl, b6⟩
                        have HB26 := hidn (HB24.out.trans (b6.mono HB24.out.size))
                        have HO6 := hidn (own_skip HOQ.out b6)
                        cases ib
                        · have g2 : w6.cell? ⟨wp.heap.size, 0, none⟩ = some (.int .i64 ts) := (b6.cell (block_lt_of_cell g0)).trans g0
                          have g3 : w6.cell? ⟨wp.heap.size, 1, none⟩ = some (.int .u64 (vs : Int)) := (b6.cell (block_lt_of_cell g1)).trans g1
                          have HQ := hidn (HB4.out.trans (b6.mono HB4.out.size))
                          have HF6 := hidn ((HF.out.below HP3.out).below ((HB4.out.trans (b6.mono HB4.out.size))))
                          have HIJ := hidn (totZ_take HX.out)
                          have HIK := hidn (totZ_le l (i + 1))
                          have HNEW := hidn (dn_new HUP.out HD.out HX.out HJZ.out (HWN.out (by trivial)))
                          have HST := hidn (set_any fa T.length fc T ts vs w6 HF6.out hfc (by
                            have h1 := HTL.out
                            have h2 := HIJ.out
                            have h3 := HIK.out
                            have h4 := HTZ.out
                            have h5 := HJZ.out
                            simp only at h2
                            omega) HD.out.1 (fun y hy => by have := HNEW.out y hy; rw [HSV.out] at this; exact this) HOKS.out)
                          have HBW6 := hidn (HB2.out.trans (HB26.out.mono HB2.out.size))
                          clear b6 g0 g1
                          go_wp2_with fail
                          refine HST.out.mono ?_
                          rintro e w7 ⟨v7, T7, rfl, hu7, hm7, ho7, b7⟩
                          have hl7 : T7.length = T.length + 1 := by have z := ho7.1; rw [vsm_len] at z; omega
                          have HD7 := hidn (dn_add HD.out HX.out HJZ.out (HWN.out (by trivial)) (by show floor ≤ (samD zs j).t; rw [HSV.out]; exact hfl) (by show inB G (samD zs j).t = false; rw [HSV.out]; exact HIB.out.symm) hu7 (fun y => by show y ∈ T7 ↔ y = samD zs j ∨ y ∈ T; rw [HSV.out]; exact hm7 y))
                          have HO7 : Hid (w7.ownsRow w.heap.size 36 2 v7 T7.length (vsm T7)) := hidn (by rw [hl7]; exact own_lowG ho7 HBW6.out.size)
                          have HTL7 : Hid (T7.length ≤ totZ (l.take i) + (j + 1)) := hidn (by have := HTL.out; omega)
                          have HB27 := hidn (HB26.out.trans (b7.mono HB26.out.size))
                          clear hu7 hm7 ho7 b7 hl7
                          go_wp2_with fail
                          go_roundw
                          case rel => exact ⟨j + 1, T7, by omega, by first | rfl | simp, HD7, HTL7, HO7, HB27⟩
                          case measure => simp [intOf]; omega
                        · have HD2 := hidn (dn_skip HD.out HX.out (fun h9 => by
                            have h8 : inB G (samD zs j).t = false := h9.2.2
                            rw [HSV.out] at h8
                            have h7 := HIB.out
                            rw [show inB G ts = false from h8] at h7
                            cases h7))
                          clear b6
                          go_wp2_with fail
                          go_roundw
                          case rel => exact ⟨j + 1, T, by omega, by first | rfl | simp, HD2, HTL2, HO6, HB26⟩
                          case measure => simp [intOf]; omega
                      · have HD2 := hidn (dn_skip HD.out HX.out (fun h9 => by
                          have h8 : floor ≤ (samD zs j).t := h9.2.1
                          rw [HSV.out] at h8
                          exact hfl h8))
                        go_wp2_with fail
                        go_roundw
                        case rel => exact ⟨j + 1, T, by omega, by first | rfl | simp, HD2, HTL2, HOQ, HB24⟩
                        case measure => simp [intOf]; omega
                    · have HD2 := hidn (dn_skip HD.out HX.out (fun h9 => HWY.out (by trivial) h9.1))
                      go_wp2_with fail
                      go_roundw
                      case rel => exact ⟨j + 1, T, by omega, by first | rfl | simp, HD2, HTL2, HOQ, HB24⟩
                      case measure => simp [intOf]; omega
              · have hlt3 : ¬ (j : Int) < (sl : Int) := by omega
                have HD2 := hidn (dn_next HD.out HX.out (show j = zs.length by rw [HZL.out]; omega))
                have HTL2 : Hid (T.length ≤ totZ (l.take (i + 1))) := hidn (by
                  rw [totZ_take HX.out]
                  show T.length ≤ totZ (l.take i) + zs.length
                  have h1 := HTL.out
                  have h2 := HZL.out
                  omega)
                go_wp2_with fail
                go_roundw
                case rel => exact ⟨i + 1, T, by omega, by first | rfl | simp, HD2, HTL2, HO, HBP⟩
                case measure => simp [intOf]; omega
          · have hlt3 : ¬ (i : Int) < (k : Int) := by omega
            have HT := hidn (dn_end HD.out (by rw [HL.out]; omega))
            have HTL2 : Hid (T.length ≤ totZ l) := hidn (Nat.le_trans HTL.out (totZ_le l i))
            go_wp2_with fail
            go_ret2
            exact .inr ⟨HBD.out, _, T, rfl, HT.out, HTL2.out, HO.out, HBO.out⟩
end Go.Proofs.Ytccjgciknaooaaa
