/- The document's disk: Sync, its contract. -/
import Derived.Test.YtocfbokgbpaneaaRyJ
namespace Go.Proofs.Ytocfbokgbpaneaa
open Go.RowKit Go.Maps
set_option linter.unusedVariables false

set_option maxHeartbeats 1000000 in
theorem syncY_none (w : World) (y : Nat) (F : Nat → Prop) (fa : Option Addr) (fc : Nat) (R : List Yf) (room fuse : Int) (h : RyOf w y F fa fc R room fuse) (hF : ∀ k, F k → k < w.heap.size) (s : ByteArray) (hR : R.length ≤ 1000000) (hp : placeY R s = none) :
    Calls Try.prog 18 #[.pointer (some ⟨y, 0, none⟩), .string s] w fun e w' => e = .returned (.int .i64 30) ∧ Below w.heap.size w w' := by
  have HP := hidn (place_any w y F fa fc R room fuse h hF s hR)
  have e : placeI R s = -1 := by unfold placeI; rw [hp]
  rw [e] at HP
  clear e hp h hF
  go_enter Try.func18, Try.ntmps18
  go_wp2_with fail
  refine HP.out.mono ?_
  rintro e w1 ⟨rfl, hb1⟩
  go_wp2
  go_ret
  exact ⟨rfl, hb1⟩

set_option maxHeartbeats 1000000 in
theorem syncY_dead (w : World) (y : Nat) (F : Nat → Prop) (fa : Option Addr) (fc : Nat) (R : List Yf) (room : Int) (h : RyOf w y F fa fc R room 0) (hF : ∀ k, F k → k < w.heap.size) (s : ByteArray) (hR : R.length ≤ 1000000) (k : Nat) (hp : placeY R s = some k) :
    Calls Try.prog 18 #[.pointer (some ⟨y, 0, none⟩), .string s] w fun e w' => e = .returned (.int .i64 31) ∧ Below w.heap.size w w' := by
  have HP := hidn (place_any w y F fa fc R room 0 h hF s hR)
  have e : placeI R s = (k : Int) := by unfold placeI; rw [hp]
  rw [e] at HP
  have e1 : decide ((k : Int) < 0) = false := by simp
  have H := hidn h
  have HF := hidn hF
  clear e hp h hF
  go_enter Try.func18, Try.ntmps18
  go_wp2_with fail
  refine HP.out.mono ?_
  rintro e w1 ⟨rfl, hb1⟩
  go_wp2_with fail
  refine (stops_yes _ y F fa fc R room (H.out.below HF.out hb1)).mono ?_
  rintro e w2 ⟨rfl, rfl⟩
  go_wp2
  go_ret
  exact ⟨rfl, hb1⟩

set_option maxRecDepth 100000 in
set_option maxHeartbeats 16000000 in
theorem syncY_yes (w : World) (y : Nat) (F : Nat → Prop) (fa : Option Addr) (fc : Nat) (R : List Yf) (room fuse : Int) (h : RyOf w y F fa fc R room fuse) (hF : ∀ k, F k → k < w.heap.size) (s : ByteArray) (hR : R.length ≤ 1000000) (k : Nat) (f : Yf) (hp : placeY R s = some k) (hk : R[k]? = some f) (hl : f.l.length ≤ 100000) (hf0 : fuse ≠ 0) (hf1 : -1 ≤ fuse) (hf2 : fuse ≤ 9223372036854775807) :
    Calls Try.prog 18 #[.pointer (some ⟨y, 0, none⟩), .string s] w (RyPost w y F (fun R2 => ∃ l, l.length = f.l.length ∧ l.map Yc.x = (f.l.map Yc.x).map Ext.synced ∧ R2 = R.set k (setL f l)) room (burnt fuse) 0) := by
  have HP := hidn (place_any w y F fa fc R room fuse h hF s hR)
  have e : placeI R s = (k : Int) := by unfold placeI; rw [hp]
  rw [e] at HP
  have e1 : decide ((k : Int) < 0) = false := by simp
  have H := hidn h
  have HF := hidn hF
  have HFK := hidn hk
  have HSt := hidn (fun (wx : World) (hx : RyOf wx y F fa fc R room fuse) => stops_no wx y F fa fc R room fuse hx hf0 hf1 hf2)
  obtain ⟨N, hN⟩ : ∃ N, N = R.length := ⟨_, rfl⟩
  have hkN : (k : Int) < (N : Int) := by rw [hN]; have := (List.getElem?_eq_some_iff.1 hk).1; omega
  have hNb : N ≤ 1000000 := by rw [hN]; exact hR
  have HNR := hidn hN
  obtain ⟨fl, hfl⟩ : ∃ fl, fl = f.l.length := ⟨_, rfl⟩
  have HFL := hidn hfl
  have hflb : fl ≤ 100000 := by rw [hfl]; exact hl
  obtain ⟨fg, hfg⟩ : ∃ fg, fg = f.g := ⟨_, rfl⟩
  have HFG := hidn hfg
  obtain ⟨fcc, hfcc⟩ : ∃ fcc, fcc = f.c := ⟨_, rfl⟩
  have HFC := hidn hfcc
  obtain ⟨g, hfa, _, _, _⟩ := h.at hk
  subst hfa
  clear e hp h hF hk hN hfl hfg hfcc hl hf0 hf1 hf2 hR
  go_enter Try.func18, Try.ntmps18
  go_wp2_with fail
  refine HP.out.mono ?_
  clear HP
  rintro e w1 ⟨rfl, hb1⟩
  have hR1 := H.out.below HF.out hb1
  go_wp2_with fail
  refine (HSt.out _ hR1).mono ?_
  clear HSt
  rintro e w2 ⟨rfl, hR2, hG2, hs2⟩
  have hL2 : ∀ b, F b → b < w2.heap.size := fun b hb => by rw [hs2]; exact Nat.lt_of_lt_of_le (HF.out b hb) hb1.size
  have HI2 := hidn (SyI.start HFK.out hR2 ((Gr.of (Keeps.of_below (F := F) hb1)).trans hG2) hL2)
  obtain ⟨_, hfa2, hFg, hc0, hc1⟩ := hR2.at HFK.out
  cases hfa2
  have c1 : w2.cell? ⟨y, 1, none⟩ = some (.slice (some ⟨g, 0, none⟩) R.length fc) := by rw [cell_of_row _ _ _ _ _ _ hR2.disk]; rfl
  rw [← HNR.out] at c1
  unfold Yf.row at hc1
  rw [← HFL.out, ← HFG.out, ← HFC.out] at hc1
  clear hR1 hR2 hG2 hs2 hL2 hb1 H HF hc0 hFg
  go_wp2_with fail
  clear c1 hc1
  go_loopw [24] (fun iv wr => ∃ j : Nat, j ≤ fl ∧ iv = .int .i64 (j : Int) ∧ Hid (SyI w y F (some ⟨g, 0, none⟩) fc R k f room (burnt fuse) j wr)) (fun iv _ => fl - (intOf iv).toNat)
  case atStart => exact ⟨0, Nat.zero_le _, rfl, HI2⟩
  case round =>
    clear HI2
    obtain ⟨j, hj, rfl, HI⟩ := hrel
    by_cases hlt : j < fl
    · have hlt2 : (j : Int) < (fl : Int) := by omega
      obtain ⟨F', l, h1, h2, h3, h4, h5⟩ := HI.out
      obtain ⟨c, hc⟩ : ∃ c, l[j]? = some c := ⟨_, List.getElem?_eq_getElem (by rw [h1, ← HFL.out]; exact hlt)⟩
      have hkl := setL_at HFK.out l
      have hm := List.mem_of_getElem? hkl
      have hcm : c ∈ (setL f l).l := List.mem_of_getElem? hc
      obtain ⟨d0, d1, d2, d3, d4⟩ := h3.ext hm (i := j) hc
      have hfgl : (setL f l).g = fg := HFG.out.symm
      rw [hfgl] at d0 d1 d2 d3 d4
      obtain ⟨⟨p0, r0⟩, hq0⟩ : ∃ q, q = c.q0 := ⟨_, rfl⟩
      obtain ⟨⟨p1, r1⟩, hq1⟩ : ∃ q, q = c.q1 := ⟨_, rfl⟩
      obtain ⟨⟨p2, r2⟩, hq2⟩ : ∃ q, q = c.q2 := ⟨_, rfl⟩
      obtain ⟨⟨sq, sc3⟩, hq3⟩ : ∃ q, q = c.q3 := ⟨_, rfl⟩
      rw [← hq0] at d0
      rw [← hq1] at d1
      rw [← hq2] at d2
      rw [← hq3] at d3
      cases hwt : c.x.waits with
      | false =>
        rw [hwt] at d4
        have HN := hidn (SyI.calm h1 h2 h3 h4 h5 hc hwt)
        clear h1 h2 h3 h4 h5 hc hkl hm hcm hfgl hq0 hq1 hq2 hq3 hwt HI
        go_wp2
        go_roundw
        case rel => exact ⟨j + 1, hlt, by simp, hidn (HN.out.skip ((Below.refl _ _).alloc (Nat.le_refl _) _))⟩
        case measure => simp [intOf]; omega
      | true =>
        rw [hwt] at d4
        have HNX := hidn (fun (W : World) (hB : Below wr.heap.size wr W) => SyI.wait (W := W) HFK.out h1 h2 h3 h4 h5 hc hwt hB)
        obtain ⟨zs, hzs⟩ : ∃ zs, zs = c.x.wri := ⟨_, rfl⟩
        have HZL : Hid (zs.length = 128) := hidn (by rw [hzs]; exact ((h3.ok _ hm).2.2 c hcm).2.2.1)
        obtain ⟨x0, x1, x2, x3⟩ := h3.ims _ hm c hcm
        obtain ⟨f0, f1, f2, f3⟩ := h3.fi _ hm c hcm
        rw [← hzs, ← hq3] at x3
        rw [← hq3] at f3
        rw [← hzs, ← hq3, ← HFG.out] at HNX
        have hrw := h3.rows _ hm
        have hrw2 : wr.ownsRow 0 57 5 (.slice (some ⟨fg, 0, none⟩) fl fcc) fl (cellsC l) := by
          have e1 : (setL f l).row = .slice (some ⟨fg, 0, none⟩) fl fcc := by unfold Yf.row setL; simp only; rw [h1, ← HFL.out, ← HFG.out, ← HFC.out]
          have e2 : (setL f l).l.length = fl := by show l.length = fl; rw [h1, ← HFL.out]
          rw [e1, e2] at hrw
          exact hrw
        obtain ⟨w5, hw5⟩ : ∃ w5, w5 = wr.alloc (.cells #[.slice (some ⟨p0, 0, none⟩) 128 r0, .slice (some ⟨p1, 0, none⟩) 128 r1, .slice (some ⟨p2, 0, none⟩) 128 r2, .slice (some ⟨sq, 0, none⟩) 128 sc3, .bool true] 57) := ⟨_, rfl⟩
        have hB5 : Below wr.heap.size wr w5 := by rw [hw5]; exact (Below.refl _ _).alloc (Nat.le_refl _) _
        have hb7 : w5.heap[wr.heap.size]? = some (.cells #[.slice (some ⟨p0, 0, none⟩) 128 r0, .slice (some ⟨p1, 0, none⟩) 128 r1, .slice (some ⟨p2, 0, none⟩) 128 r2, .slice (some ⟨sq, 0, none⟩) 128 sc3, .bool true] 57 (0, 0)) := by rw [hw5]; exact heap_alloc_new _ _
        have hR5 := h3.below h5 hB5
        obtain ⟨_, hfa5, hFg5, hc05, hc1⟩ := hR5.at hkl
        cases hfa5
        have c1 : w5.cell? ⟨y, 1, none⟩ = some (.slice (some ⟨g, 0, none⟩) (R.set k (setL f l)).length fc) := by rw [cell_of_row _ _ _ _ _ _ hR5.disk]; rfl
        rw [List.length_set, ← HNR.out] at c1
        have hc1' : w5.cell? ⟨g, k * 2 + 1, none⟩ = some (.slice (some ⟨fg, 0, none⟩) fl fcc) := by
          rw [hc1]
          unfold Yf.row setL
          simp only
          rw [h1, ← HFL.out, ← HFG.out, ← HFC.out]
        have hs5 := hB5.size
        have hlt7 : wr.heap.size < w5.heap.size := by rw [hw5, World.size_alloc]; omega
        have ly : y < w5.heap.size := Nat.lt_of_lt_of_le (h5 _ h3.fy) hs5
        have lg : g < w5.heap.size := Nat.lt_of_lt_of_le (h5 _ hFg5) hs5
        have nyf : ¬ (fun b => b = fg) y := fun e => (Ne.symm (own_ne (h3.rows _ hm) (g := (setL f l).g) rfl h3.disk (Ne.symm tyDF.2.1))) (by rw [hfgl]; exact e)
        have ngf : ¬ (fun b => b = fg) g := fun e => (own_ne2 h3.files (h3.rows _ hm) (g := g) rfl (g' := (setL f l).g) rfl tyDF.2.2.2.1) (by rw [hfgl]; exact e)
        have lfgw : fg < wr.heap.size := by rw [← hfgl]; exact h5 _ (h3.fr _ hm)
        obtain ⟨b7, hb7e⟩ : ∃ b7, b7 = wr.heap.size := ⟨_, rfl⟩
        have l7 : b7 < w5.heap.size := by rw [hb7e]; exact hlt7
        have n7f : ¬ (fun b => b = fg) b7 := fun e => by have e' : b7 = fg := e; omega
        rw [← hb7e] at hb7
        have c73 : w5.cell? ⟨b7, 3, none⟩ = some (.slice (some ⟨sq, 0, none⟩) 128 sc3) := by rw [cell_of_row _ _ _ _ _ _ hb7]; rfl
        have c74 : w5.cell? ⟨b7, 4, none⟩ = some (.bool true) := by rw [cell_of_row _ _ _ _ _ _ hb7]; rfl
        obtain ⟨n0, hn0⟩ : ∃ n0, n0 = w5.heap.size := ⟨_, rfl⟩
        have HNE := hidn hn0
        have x35 : Im w5 (sq, sc3) zs := own_other x3 (fun b hb => by cases hb; exact hB5.block _ (h5 _ f3))
        have lq3 : sq < n0 := by rw [hn0]; exact Nat.lt_of_lt_of_le (h5 _ f3) hs5
        have HSrc : Hid (∀ W, Below n0 w5 W → ∀ j u, (vb zs)[j]? = some u → W.cell? ((⟨sq, 0, none⟩ : Addr).add j) = some u) := hidn (fun W hb => Im.src x35 hb lq3)
        have HRow : Hid (∀ W, Below n0 w5 W → W.ownsRow 0 57 5 (.slice (some ⟨fg, 0, none⟩) fl fcc) fl (cellsC l)) := hidn (fun W hb => own_other hrw2 (fun b hb' => by cases hb'; exact (hb.block fg (by omega)).trans (hB5.block fg lfgw)))
        have HB5 := hidn (And.intro hB5 (And.intro hn0 hs5))
        have HWR := hidn hb7e
        clear h1 h2 h3 h4 h5 hc hkl hm hcm hfgl hq0 hq1 hq2 hq3 hwt HI hzs x0 x1 x2 x3 f0 f1 f2 f3 hrw hrw2 hR5 hFg5 hc05 hc1 hb7 hB5 hs5 hlt7 hn0 x35 lfgw
        rename_i hc1'
        have hc1 := hc1'
        go_wp2_with fail
        rw [← hw5]
        clear hw5 hc1'
        rw [← hb7e]
        clear hb7e
        refine region_cut (fun l w' => ∃ (v42 v46 v50 : Nat) (qa qb qd : Nat × Nat) (W : World), l = [(31, .pointer (some ⟨y, 0, none⟩)), (32, .pointer (some ⟨y, 0, none⟩)), (33, .pointer (some ⟨y, 1, none⟩)), (34, .slice (some ⟨g, 0, none⟩) N fc), (35, .int .i64 (k : Int)), (36, .pointer (some ⟨g, k * 2, none⟩)), (37, .pointer (some ⟨g, k * 2 + 1, none⟩)), (38, .slice (some ⟨fg, 0, none⟩) fl fcc), (39, .int .i64 (j : Int)), (40, .pointer (some ⟨b7, 3, none⟩)), (41, .slice (some ⟨sq, 0, none⟩) 128 sc3), (42, .slice (some ⟨v42, 0, none⟩) 0 0), (43, .pointer (some ⟨b7, 3, none⟩)), (44, .slice (some ⟨sq, 0, none⟩) 128 sc3), (45, im qa), (46, .slice (some ⟨v46, 0, none⟩) 0 0), (47, .pointer (some ⟨b7, 3, none⟩)), (48, .slice (some ⟨sq, 0, none⟩) 128 sc3), (49, im qb), (50, .slice (some ⟨v50, 0, none⟩) 0 0), (51, .pointer (some ⟨b7, 3, none⟩)), (52, .slice (some ⟨sq, 0, none⟩) 128 sc3), (53, im qd), (54, .agg #[.slice (some ⟨sq, 0, none⟩) 128 sc3, im qa, im qb, im qd, .bool false]), (55, .pointer (some ⟨fg, j * 5, none⟩))] ∧ w' = W.setCells fg (j * 5) [.slice (some ⟨sq, 0, none⟩) 128 sc3, im qa, im qb, im qd, .bool false] ∧ Below n0 w5 W ∧ Im W qa zs ∧ Im W qb zs ∧ Im W qd zs ∧ n0 ≤ qa.1 ∧ n0 ≤ qb.1 ∧ n0 ≤ qd.1 ∧ qa.1 < W.heap.size ∧ qb.1 < W.heap.size ∧ qd.1 < W.heap.size) ?_ ?_
        · skip
          refine wp_region_noPanic ?_
          refine wp_region_held_drew (S := Keeps (fun b => b = fg) w5) (by kernel_rfl) (⟨rfl, rfl, rfl, Nat.le_refl _, fun _ _ _ => rfl⟩) (fun hHeld => ?_)
          obtain ⟨Wd, hWd⟩ : ∃ Wd, Wd = w5.drew := ⟨_, rfl⟩
          have hle0 : n0 ≤ Wd.heap.size := by rw [hWd]; exact Nat.le_of_eq HNE.out
          have hK0 : Below n0 w5 Wd := by rw [hWd]; exact (Below.refl n0 w5).drew
          rw [← hWd] at hHeld ⊢
          clear hWd
          refine drawn_take (i := 0) (v := .pointer (some ⟨y, 0, none⟩)) (some 31) rfl rfl (by kernel_rfl) (by kernel_rfl) (by kernel_rfl) (fun _ _ _ h => h) (Or.inl ⟨by kernel_rfl, fun wq hw => by go_simp⟩) hHeld ?_
          simp only [Act.put, List.setIfInBounds_toArray, List.set_cons_succ, List.set_cons_zero]
          refine drawn_take (i := 1) (v := .pointer (some ⟨y, 0, none⟩)) (some 32) rfl rfl (by kernel_rfl) (by kernel_rfl) (by kernel_rfl) (fun _ _ _ h => h) (Or.inl ⟨by kernel_rfl, fun wq hw => by go_simp⟩) hHeld ?_
          simp only [Act.put, List.setIfInBounds_toArray, List.set_cons_succ, List.set_cons_zero]
          refine drawn_take (i := 2) (v := .pointer (some ⟨y, 1, none⟩)) (some 33) rfl rfl (by kernel_rfl) (by kernel_rfl) (by kernel_rfl) (fun _ _ _ h => h) (Or.inl ⟨by kernel_rfl, fun wq hw => by go_simp⟩) hHeld ?_
          simp only [Act.put, List.setIfInBounds_toArray, List.set_cons_succ, List.set_cons_zero]
          refine drawn_take (i := 3) (v := .slice (some ⟨g, 0, none⟩) N fc) (some 34) rfl rfl (by kernel_rfl) (by kernel_rfl) (by kernel_rfl) (fun _ _ _ h => h) (Or.inl ⟨by kernel_rfl, fun wq hw => by have q := (hw.cellK (p := ⟨y, 1, none⟩) ly nyf).trans c1; go_simp⟩) hHeld ?_
          simp only [Act.put, List.setIfInBounds_toArray, List.set_cons_succ, List.set_cons_zero]
          refine drawn_take (i := 4) (v := .int .i64 (k : Int)) (some 35) rfl rfl (by kernel_rfl) (by kernel_rfl) (by kernel_rfl) (fun _ _ _ h => h) (Or.inl ⟨by kernel_rfl, fun wq hw => by go_simp⟩) hHeld ?_
          simp only [Act.put, List.setIfInBounds_toArray, List.set_cons_succ, List.set_cons_zero]
          refine drawn_take (i := 5) (v := .pointer (some ⟨g, k * 2, none⟩)) (some 36) rfl rfl (by kernel_rfl) (by kernel_rfl) (by kernel_rfl) (fun _ _ _ h => h) (Or.inl ⟨by kernel_rfl, fun wq hw => by go_simp⟩) hHeld ?_
          simp only [Act.put, List.setIfInBounds_toArray, List.set_cons_succ, List.set_cons_zero]
          refine drawn_take (i := 6) (v := .pointer (some ⟨g, k * 2 + 1, none⟩)) (some 37) rfl rfl (by kernel_rfl) (by kernel_rfl) (by kernel_rfl) (fun _ _ _ h => h) (Or.inl ⟨by kernel_rfl, fun wq hw => by go_simp⟩) hHeld ?_
          simp only [Act.put, List.setIfInBounds_toArray, List.set_cons_succ, List.set_cons_zero]
          refine drawn_take (i := 7) (v := .slice (some ⟨fg, 0, none⟩) fl fcc) (some 38) rfl rfl (by kernel_rfl) (by kernel_rfl) (by kernel_rfl) (fun _ _ _ h => h) (Or.inl ⟨by kernel_rfl, fun wq hw => by have q := (hw.cellK (p := ⟨g, k * 2 + 1, none⟩) lg ngf).trans hc1; go_simp⟩) hHeld ?_
          simp only [Act.put, List.setIfInBounds_toArray, List.set_cons_succ, List.set_cons_zero]
          refine drawn_take (i := 8) (v := .int .i64 (j : Int)) (some 39) rfl rfl (by kernel_rfl) (by kernel_rfl) (by kernel_rfl) (fun _ _ _ h => h) (Or.inl ⟨by kernel_rfl, fun wq hw => by go_simp⟩) hHeld ?_
          simp only [Act.put, List.setIfInBounds_toArray, List.set_cons_succ, List.set_cons_zero]
          refine drawn_take (i := 9) (v := .pointer (some ⟨b7, 3, none⟩)) (some 40) rfl rfl (by kernel_rfl) (by kernel_rfl) (by kernel_rfl) (fun _ _ _ h => h) (Or.inl ⟨by kernel_rfl, fun wq hw => by go_simp⟩) hHeld ?_
          simp only [Act.put, List.setIfInBounds_toArray, List.set_cons_succ, List.set_cons_zero]
          refine drawn_take (i := 10) (v := .slice (some ⟨sq, 0, none⟩) 128 sc3) (some 41) rfl rfl (by kernel_rfl) (by kernel_rfl) (by kernel_rfl) (fun _ _ _ h => h) (Or.inl ⟨by kernel_rfl, fun wq hw => by have q := (hw.cellK (p := ⟨b7, 3, none⟩) l7 n7f).trans c73; go_simp⟩) hHeld ?_
          simp only [Act.put, List.setIfInBounds_toArray, List.set_cons_succ, List.set_cons_zero]
          refine drawn_take (i := 12) (v := .pointer (some ⟨b7, 3, none⟩)) (some 43) rfl rfl (by kernel_rfl) (by kernel_rfl) (by kernel_rfl) (fun _ _ _ h => h) (Or.inl ⟨by kernel_rfl, fun wq hw => by go_simp⟩) hHeld ?_
          simp only [Act.put, List.setIfInBounds_toArray, List.set_cons_succ, List.set_cons_zero]
          refine drawn_take (i := 13) (v := .slice (some ⟨sq, 0, none⟩) 128 sc3) (some 44) rfl rfl (by kernel_rfl) (by kernel_rfl) (by kernel_rfl) (fun _ _ _ h => h) (Or.inl ⟨by kernel_rfl, fun wq hw => by have q := (hw.cellK (p := ⟨b7, 3, none⟩) l7 n7f).trans c73; go_simp⟩) hHeld ?_
          simp only [Act.put, List.setIfInBounds_toArray, List.set_cons_succ, List.set_cons_zero]
          refine drawn_take (i := 16) (v := .pointer (some ⟨b7, 3, none⟩)) (some 47) rfl rfl (by kernel_rfl) (by kernel_rfl) (by kernel_rfl) (fun _ _ _ h => h) (Or.inl ⟨by kernel_rfl, fun wq hw => by go_simp⟩) hHeld ?_
          simp only [Act.put, List.setIfInBounds_toArray, List.set_cons_succ, List.set_cons_zero]
          refine drawn_take (i := 17) (v := .slice (some ⟨sq, 0, none⟩) 128 sc3) (some 48) rfl rfl (by kernel_rfl) (by kernel_rfl) (by kernel_rfl) (fun _ _ _ h => h) (Or.inl ⟨by kernel_rfl, fun wq hw => by have q := (hw.cellK (p := ⟨b7, 3, none⟩) l7 n7f).trans c73; go_simp⟩) hHeld ?_
          simp only [Act.put, List.setIfInBounds_toArray, List.set_cons_succ, List.set_cons_zero]
          refine drawn_take (i := 20) (v := .pointer (some ⟨b7, 3, none⟩)) (some 51) rfl rfl (by kernel_rfl) (by kernel_rfl) (by kernel_rfl) (fun _ _ _ h => h) (Or.inl ⟨by kernel_rfl, fun wq hw => by go_simp⟩) hHeld ?_
          simp only [Act.put, List.setIfInBounds_toArray, List.set_cons_succ, List.set_cons_zero]
          refine drawn_take (i := 21) (v := .slice (some ⟨sq, 0, none⟩) 128 sc3) (some 52) rfl rfl (by kernel_rfl) (by kernel_rfl) (by kernel_rfl) (fun _ _ _ h => h) (Or.inl ⟨by kernel_rfl, fun wq hw => by have q := (hw.cellK (p := ⟨b7, 3, none⟩) l7 n7f).trans c73; go_simp⟩) hHeld ?_
          simp only [Act.put, List.setIfInBounds_toArray, List.set_cons_succ, List.set_cons_zero]
          refine wpAnyH_ready (rs := [11, 15, 19]) (by kernel_rfl) (by simp) ?_
          refine rdy_val (i := 11) rfl rfl (some 42) rfl (.slice (some ⟨Wd.heap.size, 0, none⟩) 0 0) (Wd.alloc (.cells #[] 5)) (mk0_run rfl) (keeps_of (hK0.alloc (hle0) _) HNE.out) (fun hHeld => ?_) ?_
          · simp only [Act.put, List.setIfInBounds_toArray, List.set_cons_succ, List.set_cons_zero]
            have he1 := heap_alloc_new Wd (.cells #[] 5)
            have hg1 : Wd.grownBy (Wd.alloc (.cells #[] 5)) none := grown_alloc Wd _
            have hK1 := hK0.alloc (hle0) (.cells #[] 5)
            obtain ⟨b1, hb1⟩ : ∃ b, b = Wd.heap.size := ⟨_, rfl⟩
            obtain ⟨W1, hW1⟩ : ∃ W', W' = Wd.alloc (.cells #[] 5) := ⟨_, rfl⟩
            rw [← hW1] at hHeld hg1 hK1
            rw [← hb1, ← hW1] at he1
            rw [← hb1, ← hW1]
            have hn1 : n0 ≤ b1 := by rw [hb1]; exact hle0
            have hbl1 : b1 < W1.heap.size := (Array.getElem?_eq_some_iff.1 he1).1
            clear hW1
            have hsz1 : Wd.heap.size ≤ W1.heap.size := hg1.size
            refine wpAnyH_ready (rs := [14, 15, 19]) (by kernel_rfl) (by simp) ?_
            obtain ⟨q2, W2, hr2, hi2, hq2, hqs2, hg2⟩ := cpy W1 b1 he1 ⟨sq, 0, none⟩ sc3 zs HZL.out (fun j u hj => HSrc.out W1 hK1 j u hj)
            refine rdy_val (i := 14) rfl rfl (some 45) rfl (im q2) W2 (app_run3 (x := .tmp 42) (y := .tmp 44) rfl (by kernel_rfl) (by kernel_rfl) hr2) (keeps_of (hK1.grown hg2 (Nat.le_trans (hle0) hg1.size) (fun k hk => (Option.some.inj hk) ▸ hn1)) HNE.out) (fun hHeld => ?_) ?_
            · simp only [Act.put, List.setIfInBounds_toArray, List.set_cons_succ, List.set_cons_zero]
              clear hr2
              have hqn2 : n0 ≤ q2.1 := Nat.le_trans (Nat.le_trans (hle0) hg1.size) hq2
              have hK2 := hK1.grown hg2 (Nat.le_trans (hle0) hg1.size) (fun k hk => (Option.some.inj hk) ▸ hn1)
              have hsz2 : W1.heap.size ≤ W2.heap.size := hg2.size
              refine wpAnyH_ready (rs := [15, 19]) (by kernel_rfl) (by simp) ?_
              refine rdy_val (i := 15) rfl rfl (some 46) rfl (.slice (some ⟨W2.heap.size, 0, none⟩) 0 0) (W2.alloc (.cells #[] 5)) (mk0_run rfl) (keeps_of (hK2.alloc (Nat.le_trans (Nat.le_trans (hle0) hg1.size) hg2.size) _) HNE.out) (fun hHeld => ?_) ?_
              · simp only [Act.put, List.setIfInBounds_toArray, List.set_cons_succ, List.set_cons_zero]
                have he3 := heap_alloc_new W2 (.cells #[] 5)
                have hg3 : W2.grownBy (W2.alloc (.cells #[] 5)) none := grown_alloc W2 _
                have hK3 := hK2.alloc (Nat.le_trans (Nat.le_trans (hle0) hg1.size) hg2.size) (.cells #[] 5)
                obtain ⟨b3, hb3⟩ : ∃ b, b = W2.heap.size := ⟨_, rfl⟩
                obtain ⟨W3, hW3⟩ : ∃ W', W' = W2.alloc (.cells #[] 5) := ⟨_, rfl⟩
                rw [← hW3] at hHeld hg3 hK3
                rw [← hb3, ← hW3] at he3
                rw [← hb3, ← hW3]
                have hn3 : n0 ≤ b3 := by rw [hb3]; exact Nat.le_trans (Nat.le_trans (hle0) hg1.size) hg2.size
                have hbl3 : b3 < W3.heap.size := (Array.getElem?_eq_some_iff.1 he3).1
                clear hW3
                have hsz3 : W2.heap.size ≤ W3.heap.size := hg3.size
                have hi2_3 := im_grown hi2 hg3 (fun e => by cases e)
                have hqs2_3 : q2.1 < W3.heap.size := Nat.lt_of_lt_of_le hqs2 hg3.size
                refine wpAnyH_ready (rs := [18, 19]) (by kernel_rfl) (by simp) ?_
                obtain ⟨q4, W4, hr4, hi4, hq4, hqs4, hg4⟩ := cpy W3 b3 he3 ⟨sq, 0, none⟩ sc3 zs HZL.out (fun j u hj => HSrc.out W3 hK3 j u hj)
                refine rdy_val (i := 18) rfl rfl (some 49) rfl (im q4) W4 (app_run3 (x := .tmp 46) (y := .tmp 48) rfl (by kernel_rfl) (by kernel_rfl) hr4) (keeps_of (hK3.grown hg4 (Nat.le_trans (Nat.le_trans (Nat.le_trans (hle0) hg1.size) hg2.size) hg3.size) (fun k hk => (Option.some.inj hk) ▸ hn3)) HNE.out) (fun hHeld => ?_) ?_
                · simp only [Act.put, List.setIfInBounds_toArray, List.set_cons_succ, List.set_cons_zero]
                  clear hr4
                  have hqn4 : n0 ≤ q4.1 := Nat.le_trans (Nat.le_trans (Nat.le_trans (Nat.le_trans (hle0) hg1.size) hg2.size) hg3.size) hq4
                  have hK4 := hK3.grown hg4 (Nat.le_trans (Nat.le_trans (Nat.le_trans (hle0) hg1.size) hg2.size) hg3.size) (fun k hk => (Option.some.inj hk) ▸ hn3)
                  have hsz4 : W3.heap.size ≤ W4.heap.size := hg4.size
                  have hi2_3_4 := im_grown hi2_3 hg4 (fun e => Nat.ne_of_lt (Nat.lt_of_lt_of_le (Nat.lt_of_lt_of_le hqs2 (Nat.le_refl _)) (Nat.le_of_eq hb3.symm)) (Option.some.inj e))
                  have hqs2_3_4 : q2.1 < W4.heap.size := Nat.lt_of_lt_of_le hqs2_3 hg4.size
                  refine wpAnyH_ready (rs := [19]) (by kernel_rfl) (by simp) ?_
                  refine rdy_val (i := 19) rfl rfl (some 50) rfl (.slice (some ⟨W4.heap.size, 0, none⟩) 0 0) (W4.alloc (.cells #[] 5)) (mk0_run rfl) (keeps_of (hK4.alloc (Nat.le_trans (Nat.le_trans (Nat.le_trans (Nat.le_trans (hle0) hg1.size) hg2.size) hg3.size) hg4.size) _) HNE.out) (fun hHeld => ?_) rdy_nil
                  simp only [Act.put, List.setIfInBounds_toArray, List.set_cons_succ, List.set_cons_zero]
                  have he5 := heap_alloc_new W4 (.cells #[] 5)
                  have hg5 : W4.grownBy (W4.alloc (.cells #[] 5)) none := grown_alloc W4 _
                  have hK5 := hK4.alloc (Nat.le_trans (Nat.le_trans (Nat.le_trans (Nat.le_trans (hle0) hg1.size) hg2.size) hg3.size) hg4.size) (.cells #[] 5)
                  obtain ⟨b5, hb5⟩ : ∃ b, b = W4.heap.size := ⟨_, rfl⟩
                  obtain ⟨W5, hW5⟩ : ∃ W', W' = W4.alloc (.cells #[] 5) := ⟨_, rfl⟩
                  rw [← hW5] at hHeld hg5 hK5
                  rw [← hb5, ← hW5] at he5
                  rw [← hb5, ← hW5]
                  have hn5 : n0 ≤ b5 := by rw [hb5]; exact Nat.le_trans (Nat.le_trans (Nat.le_trans (Nat.le_trans (hle0) hg1.size) hg2.size) hg3.size) hg4.size
                  have hbl5 : b5 < W5.heap.size := (Array.getElem?_eq_some_iff.1 he5).1
                  clear hW5
                  have hsz5 : W4.heap.size ≤ W5.heap.size := hg5.size
                  have hi2_3_4_5 := im_grown hi2_3_4 hg5 (fun e => by cases e)
                  have hqs2_3_4_5 : q2.1 < W5.heap.size := Nat.lt_of_lt_of_le hqs2_3_4 hg5.size
                  have hi4_5 := im_grown hi4 hg5 (fun e => by cases e)
                  have hqs4_5 : q4.1 < W5.heap.size := Nat.lt_of_lt_of_le hqs4 hg5.size
                  refine wpAnyH_ready (rs := [22]) (by kernel_rfl) (by simp) ?_
                  obtain ⟨q6, W6, hr6, hi6, hq6, hqs6, hg6⟩ := cpy W5 b5 he5 ⟨sq, 0, none⟩ sc3 zs HZL.out (fun j u hj => HSrc.out W5 hK5 j u hj)
                  refine rdy_val (i := 22) rfl rfl (some 53) rfl (im q6) W6 (app_run3 (x := .tmp 50) (y := .tmp 52) rfl (by kernel_rfl) (by kernel_rfl) hr6) (keeps_of (hK5.grown hg6 (Nat.le_trans (Nat.le_trans (Nat.le_trans (Nat.le_trans (Nat.le_trans (hle0) hg1.size) hg2.size) hg3.size) hg4.size) hg5.size) (fun k hk => (Option.some.inj hk) ▸ hn5)) HNE.out) (fun hHeld => ?_) rdy_nil
                  simp only [Act.put, List.setIfInBounds_toArray, List.set_cons_succ, List.set_cons_zero]
                  clear hr6
                  have hqn6 : n0 ≤ q6.1 := Nat.le_trans (Nat.le_trans (Nat.le_trans (Nat.le_trans (Nat.le_trans (Nat.le_trans (hle0) hg1.size) hg2.size) hg3.size) hg4.size) hg5.size) hq6
                  have hK6 := hK5.grown hg6 (Nat.le_trans (Nat.le_trans (Nat.le_trans (Nat.le_trans (Nat.le_trans (hle0) hg1.size) hg2.size) hg3.size) hg4.size) hg5.size) (fun k hk => (Option.some.inj hk) ▸ hn5)
                  have hsz6 : W5.heap.size ≤ W6.heap.size := hg6.size
                  have hi2_3_4_5_6 := im_grown hi2_3_4_5 hg6 (fun e => Nat.ne_of_lt (Nat.lt_of_lt_of_le (Nat.lt_of_lt_of_le hqs2 (Nat.le_trans (hsz3) hsz4)) (Nat.le_of_eq hb5.symm)) (Option.some.inj e))
                  have hqs2_3_4_5_6 : q2.1 < W6.heap.size := Nat.lt_of_lt_of_le hqs2_3_4_5 hg6.size
                  have hi4_5_6 := im_grown hi4_5 hg6 (fun e => Nat.ne_of_lt (Nat.lt_of_lt_of_le (Nat.lt_of_lt_of_le hqs4 (Nat.le_refl _)) (Nat.le_of_eq hb5.symm)) (Option.some.inj e))
                  have hqs4_5_6 : q4.1 < W6.heap.size := Nat.lt_of_lt_of_le hqs4_5 hg6.size
                  refine drawn_take (i := 23) (v := .agg #[.slice (some ⟨sq, 0, none⟩) 128 sc3, im q2, im q4, im q6, .bool false]) (some 54) rfl rfl (by kernel_rfl) (by kernel_rfl) (by kernel_rfl) (fun _ _ _ h => h) (Or.inl ⟨by kernel_rfl, fun wq hw => by go_simp⟩) hHeld ?_
                  simp only [Act.put, List.setIfInBounds_toArray, List.set_cons_succ, List.set_cons_zero]
                  refine drawn_take (i := 24) (v := .pointer (some ⟨fg, j * 5, none⟩)) (some 55) rfl rfl (by kernel_rfl) (by kernel_rfl) (by kernel_rfl) (fun _ _ _ h => h) (Or.inl ⟨by kernel_rfl, fun wq hw => by go_simp⟩) hHeld ?_
                  simp only [Act.put, List.setIfInBounds_toArray, List.set_cons_succ, List.set_cons_zero]
                  refine wpAnyH_ready (rs := [25]) (by kernel_rfl) (by simp) ?_
                  have hth : W6.there fg (j * 5) 5 := there_row (HRow.out W6 hK6) (by omega)
                  refine rdy_unit (i := 25) rfl rfl none rfl (W6.setCells fg (j * 5) [.slice (some ⟨sq, 0, none⟩) 128 sc3, im q2, im q4, im q6, .bool false]) (st5_run (x := .tmp 55) (y := .tmp 54) rfl (by kernel_rfl) (by kernel_rfl) hth rfl rfl rfl rfl rfl) (keeps_setCells (keeps_of hK6 HNE.out)) (fun hHeld => ?_) rdy_nil
                  simp only [Act.put]
                  refine wpAnyH_done (by kernel_rfl) ?_ _
                  refine NoPanic.normal ?_
                  have hKeep := hHeld
                  clear hHeld
                  exact ⟨rfl, _, ⟨b1, b3, b5, q2, q4, q6, W6, rfl, rfl, hK6, hi2_3_4_5_6, hi4_5_6, hi6, hqn2, hqn4, hqn6, hqs2_3_4_5_6, hqs4_5_6, hqs6⟩, by kernel_rfl⟩
                refine rdy_val (i := 19) rfl rfl (some 50) rfl (.slice (some ⟨W3.heap.size, 0, none⟩) 0 0) (W3.alloc (.cells #[] 5)) (mk0_run rfl) (keeps_of (hK3.alloc (Nat.le_trans (Nat.le_trans (Nat.le_trans (hle0) hg1.size) hg2.size) hg3.size) _) HNE.out) (fun hHeld => ?_) rdy_nil
                simp only [Act.put, List.setIfInBounds_toArray, List.set_cons_succ, List.set_cons_zero]
                have he4 := heap_alloc_new W3 (.cells #[] 5)
                have hg4 : W3.grownBy (W3.alloc (.cells #[] 5)) none := grown_alloc W3 _
                have hK4 := hK3.alloc (Nat.le_trans (Nat.le_trans (Nat.le_trans (hle0) hg1.size) hg2.size) hg3.size) (.cells #[] 5)
                obtain ⟨b4, hb4⟩ : ∃ b, b = W3.heap.size := ⟨_, rfl⟩
                obtain ⟨W4, hW4⟩ : ∃ W', W' = W3.alloc (.cells #[] 5) := ⟨_, rfl⟩
                rw [← hW4] at hHeld hg4 hK4
                rw [← hb4, ← hW4] at he4
                rw [← hb4, ← hW4]
                have hn4 : n0 ≤ b4 := by rw [hb4]; exact Nat.le_trans (Nat.le_trans (Nat.le_trans (hle0) hg1.size) hg2.size) hg3.size
                have hbl4 : b4 < W4.heap.size := (Array.getElem?_eq_some_iff.1 he4).1
                clear hW4
                have hsz4 : W3.heap.size ≤ W4.heap.size := hg4.size
                have he3_4 := (hg4.block b3 (Array.getElem?_eq_some_iff.1 he3).1 (fun e => by cases e)).trans he3
                have hi2_3_4 := im_grown hi2_3 hg4 (fun e => by cases e)
                have hqs2_3_4 : q2.1 < W4.heap.size := Nat.lt_of_lt_of_le hqs2_3 hg4.size
                refine wpAnyH_ready (rs := [18]) (by kernel_rfl) (by simp) ?_
                obtain ⟨q5, W5, hr5, hi5, hq5, hqs5, hg5⟩ := cpy W4 b3 he3_4 ⟨sq, 0, none⟩ sc3 zs HZL.out (fun j u hj => HSrc.out W4 hK4 j u hj)
                refine rdy_val (i := 18) rfl rfl (some 49) rfl (im q5) W5 (app_run3 (x := .tmp 46) (y := .tmp 48) rfl (by kernel_rfl) (by kernel_rfl) hr5) (keeps_of (hK4.grown hg5 (Nat.le_trans (Nat.le_trans (Nat.le_trans (Nat.le_trans (hle0) hg1.size) hg2.size) hg3.size) hg4.size) (fun k hk => (Option.some.inj hk) ▸ hn3)) HNE.out) (fun hHeld => ?_) rdy_nil
                simp only [Act.put, List.setIfInBounds_toArray, List.set_cons_succ, List.set_cons_zero]
                clear hr5
                have hqn5 : n0 ≤ q5.1 := Nat.le_trans (Nat.le_trans (Nat.le_trans (Nat.le_trans (Nat.le_trans (hle0) hg1.size) hg2.size) hg3.size) hg4.size) hq5
                have hK5 := hK4.grown hg5 (Nat.le_trans (Nat.le_trans (Nat.le_trans (Nat.le_trans (hle0) hg1.size) hg2.size) hg3.size) hg4.size) (fun k hk => (Option.some.inj hk) ▸ hn3)
                have hsz5 : W4.heap.size ≤ W5.heap.size := hg5.size
                have he4_5 := (hg5.block b4 (Array.getElem?_eq_some_iff.1 he4).1 (fun e => Nat.ne_of_gt (Nat.lt_of_lt_of_le (Nat.lt_of_lt_of_le hbl3 (Nat.le_refl _)) (Nat.le_of_eq hb4.symm)) (Option.some.inj e))).trans he4
                have hi2_3_4_5 := im_grown hi2_3_4 hg5 (fun e => Nat.ne_of_lt (Nat.lt_of_lt_of_le (Nat.lt_of_lt_of_le hqs2 (Nat.le_refl _)) (Nat.le_of_eq hb3.symm)) (Option.some.inj e))
                have hqs2_3_4_5 : q2.1 < W5.heap.size := Nat.lt_of_lt_of_le hqs2_3_4 hg5.size
                refine wpAnyH_ready (rs := [22]) (by kernel_rfl) (by simp) ?_
                obtain ⟨q6, W6, hr6, hi6, hq6, hqs6, hg6⟩ := cpy W5 b4 he4_5 ⟨sq, 0, none⟩ sc3 zs HZL.out (fun j u hj => HSrc.out W5 hK5 j u hj)
                refine rdy_val (i := 22) rfl rfl (some 53) rfl (im q6) W6 (app_run3 (x := .tmp 50) (y := .tmp 52) rfl (by kernel_rfl) (by kernel_rfl) hr6) (keeps_of (hK5.grown hg6 (Nat.le_trans (Nat.le_trans (Nat.le_trans (Nat.le_trans (Nat.le_trans (hle0) hg1.size) hg2.size) hg3.size) hg4.size) hg5.size) (fun k hk => (Option.some.inj hk) ▸ hn4)) HNE.out) (fun hHeld => ?_) rdy_nil
                simp only [Act.put, List.setIfInBounds_toArray, List.set_cons_succ, List.set_cons_zero]
                clear hr6
                have hqn6 : n0 ≤ q6.1 := Nat.le_trans (Nat.le_trans (Nat.le_trans (Nat.le_trans (Nat.le_trans (Nat.le_trans (hle0) hg1.size) hg2.size) hg3.size) hg4.size) hg5.size) hq6
                have hK6 := hK5.grown hg6 (Nat.le_trans (Nat.le_trans (Nat.le_trans (Nat.le_trans (Nat.le_trans (hle0) hg1.size) hg2.size) hg3.size) hg4.size) hg5.size) (fun k hk => (Option.some.inj hk) ▸ hn4)
                have hsz6 : W5.heap.size ≤ W6.heap.size := hg6.size
                have hi2_3_4_5_6 := im_grown hi2_3_4_5 hg6 (fun e => Nat.ne_of_lt (Nat.lt_of_lt_of_le (Nat.lt_of_lt_of_le hqs2 (hsz3)) (Nat.le_of_eq hb4.symm)) (Option.some.inj e))
                have hqs2_3_4_5_6 : q2.1 < W6.heap.size := Nat.lt_of_lt_of_le hqs2_3_4_5 hg6.size
                have hi5_6 := im_grown hi5 hg6 (fun e => Nat.ne_of_gt (Nat.lt_of_lt_of_le (Nat.lt_of_lt_of_le hbl4 (Nat.le_refl _)) hq5) (Option.some.inj e))
                have hqs5_6 : q5.1 < W6.heap.size := Nat.lt_of_lt_of_le hqs5 hg6.size
                refine drawn_take (i := 23) (v := .agg #[.slice (some ⟨sq, 0, none⟩) 128 sc3, im q2, im q5, im q6, .bool false]) (some 54) rfl rfl (by kernel_rfl) (by kernel_rfl) (by kernel_rfl) (fun _ _ _ h => h) (Or.inl ⟨by kernel_rfl, fun wq hw => by go_simp⟩) hHeld ?_
                simp only [Act.put, List.setIfInBounds_toArray, List.set_cons_succ, List.set_cons_zero]
                refine drawn_take (i := 24) (v := .pointer (some ⟨fg, j * 5, none⟩)) (some 55) rfl rfl (by kernel_rfl) (by kernel_rfl) (by kernel_rfl) (fun _ _ _ h => h) (Or.inl ⟨by kernel_rfl, fun wq hw => by go_simp⟩) hHeld ?_
                simp only [Act.put, List.setIfInBounds_toArray, List.set_cons_succ, List.set_cons_zero]
                refine wpAnyH_ready (rs := [25]) (by kernel_rfl) (by simp) ?_
                have hth : W6.there fg (j * 5) 5 := there_row (HRow.out W6 hK6) (by omega)
                refine rdy_unit (i := 25) rfl rfl none rfl (W6.setCells fg (j * 5) [.slice (some ⟨sq, 0, none⟩) 128 sc3, im q2, im q5, im q6, .bool false]) (st5_run (x := .tmp 55) (y := .tmp 54) rfl (by kernel_rfl) (by kernel_rfl) hth rfl rfl rfl rfl rfl) (keeps_setCells (keeps_of hK6 HNE.out)) (fun hHeld => ?_) rdy_nil
                simp only [Act.put]
                refine wpAnyH_done (by kernel_rfl) ?_ _
                refine NoPanic.normal ?_
                have hKeep := hHeld
                clear hHeld
                exact ⟨rfl, _, ⟨b1, b3, b4, q2, q5, q6, W6, rfl, rfl, hK6, hi2_3_4_5_6, hi5_6, hi6, hqn2, hqn5, hqn6, hqs2_3_4_5_6, hqs5_6, hqs6⟩, by kernel_rfl⟩
              refine rdy_val (i := 19) rfl rfl (some 50) rfl (.slice (some ⟨W2.heap.size, 0, none⟩) 0 0) (W2.alloc (.cells #[] 5)) (mk0_run rfl) (keeps_of (hK2.alloc (Nat.le_trans (Nat.le_trans (hle0) hg1.size) hg2.size) _) HNE.out) (fun hHeld => ?_) rdy_nil
              simp only [Act.put, List.setIfInBounds_toArray, List.set_cons_succ, List.set_cons_zero]
              have he3 := heap_alloc_new W2 (.cells #[] 5)
              have hg3 : W2.grownBy (W2.alloc (.cells #[] 5)) none := grown_alloc W2 _
              have hK3 := hK2.alloc (Nat.le_trans (Nat.le_trans (hle0) hg1.size) hg2.size) (.cells #[] 5)
              obtain ⟨b3, hb3⟩ : ∃ b, b = W2.heap.size := ⟨_, rfl⟩
              obtain ⟨W3, hW3⟩ : ∃ W', W' = W2.alloc (.cells #[] 5) := ⟨_, rfl⟩
              rw [← hW3] at hHeld hg3 hK3
              rw [← hb3, ← hW3] at he3
              rw [← hb3, ← hW3]
              have hn3 : n0 ≤ b3 := by rw [hb3]; exact Nat.le_trans (Nat.le_trans (hle0) hg1.size) hg2.size
              have hbl3 : b3 < W3.heap.size := (Array.getElem?_eq_some_iff.1 he3).1
              clear hW3
              have hsz3 : W2.heap.size ≤ W3.heap.size := hg3.size
              have hi2_3 := im_grown hi2 hg3 (fun e => by cases e)
              have hqs2_3 : q2.1 < W3.heap.size := Nat.lt_of_lt_of_le hqs2 hg3.size
              refine wpAnyH_ready (rs := [15]) (by kernel_rfl) (by simp) ?_
              refine rdy_val (i := 15) rfl rfl (some 46) rfl (.slice (some ⟨W3.heap.size, 0, none⟩) 0 0) (W3.alloc (.cells #[] 5)) (mk0_run rfl) (keeps_of (hK3.alloc (Nat.le_trans (Nat.le_trans (Nat.le_trans (hle0) hg1.size) hg2.size) hg3.size) _) HNE.out) (fun hHeld => ?_) rdy_nil
              simp only [Act.put, List.setIfInBounds_toArray, List.set_cons_succ, List.set_cons_zero]
              have he4 := heap_alloc_new W3 (.cells #[] 5)
              have hg4 : W3.grownBy (W3.alloc (.cells #[] 5)) none := grown_alloc W3 _
              have hK4 := hK3.alloc (Nat.le_trans (Nat.le_trans (Nat.le_trans (hle0) hg1.size) hg2.size) hg3.size) (.cells #[] 5)
              obtain ⟨b4, hb4⟩ : ∃ b, b = W3.heap.size := ⟨_, rfl⟩
              obtain ⟨W4, hW4⟩ : ∃ W', W' = W3.alloc (.cells #[] 5) := ⟨_, rfl⟩
              rw [← hW4] at hHeld hg4 hK4
              rw [← hb4, ← hW4] at he4
              rw [← hb4, ← hW4]
              have hn4 : n0 ≤ b4 := by rw [hb4]; exact Nat.le_trans (Nat.le_trans (Nat.le_trans (hle0) hg1.size) hg2.size) hg3.size
              have hbl4 : b4 < W4.heap.size := (Array.getElem?_eq_some_iff.1 he4).1
              clear hW4
              have hsz4 : W3.heap.size ≤ W4.heap.size := hg4.size
              have he3_4 := (hg4.block b3 (Array.getElem?_eq_some_iff.1 he3).1 (fun e => by cases e)).trans he3
              have hi2_3_4 := im_grown hi2_3 hg4 (fun e => by cases e)
              have hqs2_3_4 : q2.1 < W4.heap.size := Nat.lt_of_lt_of_le hqs2_3 hg4.size
              refine wpAnyH_ready (rs := [18]) (by kernel_rfl) (by simp) ?_
              obtain ⟨q5, W5, hr5, hi5, hq5, hqs5, hg5⟩ := cpy W4 b4 he4 ⟨sq, 0, none⟩ sc3 zs HZL.out (fun j u hj => HSrc.out W4 hK4 j u hj)
              refine rdy_val (i := 18) rfl rfl (some 49) rfl (im q5) W5 (app_run3 (x := .tmp 46) (y := .tmp 48) rfl (by kernel_rfl) (by kernel_rfl) hr5) (keeps_of (hK4.grown hg5 (Nat.le_trans (Nat.le_trans (Nat.le_trans (Nat.le_trans (hle0) hg1.size) hg2.size) hg3.size) hg4.size) (fun k hk => (Option.some.inj hk) ▸ hn4)) HNE.out) (fun hHeld => ?_) rdy_nil
              simp only [Act.put, List.setIfInBounds_toArray, List.set_cons_succ, List.set_cons_zero]
              clear hr5
              have hqn5 : n0 ≤ q5.1 := Nat.le_trans (Nat.le_trans (Nat.le_trans (Nat.le_trans (Nat.le_trans (hle0) hg1.size) hg2.size) hg3.size) hg4.size) hq5
              have hK5 := hK4.grown hg5 (Nat.le_trans (Nat.le_trans (Nat.le_trans (Nat.le_trans (hle0) hg1.size) hg2.size) hg3.size) hg4.size) (fun k hk => (Option.some.inj hk) ▸ hn4)
              have hsz5 : W4.heap.size ≤ W5.heap.size := hg5.size
              have he3_4_5 := (hg5.block b3 (Array.getElem?_eq_some_iff.1 he3_4).1 (fun e => Nat.ne_of_lt (Nat.lt_of_lt_of_le (Nat.lt_of_lt_of_le hbl3 (Nat.le_refl _)) (Nat.le_of_eq hb4.symm)) (Option.some.inj e))).trans he3_4
              have hi2_3_4_5 := im_grown hi2_3_4 hg5 (fun e => Nat.ne_of_lt (Nat.lt_of_lt_of_le (Nat.lt_of_lt_of_le hqs2 (hsz3)) (Nat.le_of_eq hb4.symm)) (Option.some.inj e))
              have hqs2_3_4_5 : q2.1 < W5.heap.size := Nat.lt_of_lt_of_le hqs2_3_4 hg5.size
              refine wpAnyH_ready (rs := [22]) (by kernel_rfl) (by simp) ?_
              obtain ⟨q6, W6, hr6, hi6, hq6, hqs6, hg6⟩ := cpy W5 b3 he3_4_5 ⟨sq, 0, none⟩ sc3 zs HZL.out (fun j u hj => HSrc.out W5 hK5 j u hj)
              refine rdy_val (i := 22) rfl rfl (some 53) rfl (im q6) W6 (app_run3 (x := .tmp 50) (y := .tmp 52) rfl (by kernel_rfl) (by kernel_rfl) hr6) (keeps_of (hK5.grown hg6 (Nat.le_trans (Nat.le_trans (Nat.le_trans (Nat.le_trans (Nat.le_trans (hle0) hg1.size) hg2.size) hg3.size) hg4.size) hg5.size) (fun k hk => (Option.some.inj hk) ▸ hn3)) HNE.out) (fun hHeld => ?_) rdy_nil
              simp only [Act.put, List.setIfInBounds_toArray, List.set_cons_succ, List.set_cons_zero]
              clear hr6
              have hqn6 : n0 ≤ q6.1 := Nat.le_trans (Nat.le_trans (Nat.le_trans (Nat.le_trans (Nat.le_trans (Nat.le_trans (hle0) hg1.size) hg2.size) hg3.size) hg4.size) hg5.size) hq6
              have hK6 := hK5.grown hg6 (Nat.le_trans (Nat.le_trans (Nat.le_trans (Nat.le_trans (Nat.le_trans (hle0) hg1.size) hg2.size) hg3.size) hg4.size) hg5.size) (fun k hk => (Option.some.inj hk) ▸ hn3)
              have hsz6 : W5.heap.size ≤ W6.heap.size := hg6.size
              have hi2_3_4_5_6 := im_grown hi2_3_4_5 hg6 (fun e => Nat.ne_of_lt (Nat.lt_of_lt_of_le (Nat.lt_of_lt_of_le hqs2 (Nat.le_refl _)) (Nat.le_of_eq hb3.symm)) (Option.some.inj e))
              have hqs2_3_4_5_6 : q2.1 < W6.heap.size := Nat.lt_of_lt_of_le hqs2_3_4_5 hg6.size
              have hi5_6 := im_grown hi5 hg6 (fun e => Nat.ne_of_gt (Nat.lt_of_lt_of_le (Nat.lt_of_lt_of_le hbl3 (hsz4)) hq5) (Option.some.inj e))
              have hqs5_6 : q5.1 < W6.heap.size := Nat.lt_of_lt_of_le hqs5 hg6.size
              refine drawn_take (i := 23) (v := .agg #[.slice (some ⟨sq, 0, none⟩) 128 sc3, im q2, im q5, im q6, .bool false]) (some 54) rfl rfl (by kernel_rfl) (by kernel_rfl) (by kernel_rfl) (fun _ _ _ h => h) (Or.inl ⟨by kernel_rfl, fun wq hw => by go_simp⟩) hHeld ?_
              simp only [Act.put, List.setIfInBounds_toArray, List.set_cons_succ, List.set_cons_zero]
              refine drawn_take (i := 24) (v := .pointer (some ⟨fg, j * 5, none⟩)) (some 55) rfl rfl (by kernel_rfl) (by kernel_rfl) (by kernel_rfl) (fun _ _ _ h => h) (Or.inl ⟨by kernel_rfl, fun wq hw => by go_simp⟩) hHeld ?_
              simp only [Act.put, List.setIfInBounds_toArray, List.set_cons_succ, List.set_cons_zero]
              refine wpAnyH_ready (rs := [25]) (by kernel_rfl) (by simp) ?_
              have hth : W6.there fg (j * 5) 5 := there_row (HRow.out W6 hK6) (by omega)
              refine rdy_unit (i := 25) rfl rfl none rfl (W6.setCells fg (j * 5) [.slice (some ⟨sq, 0, none⟩) 128 sc3, im q2, im q5, im q6, .bool false]) (st5_run (x := .tmp 55) (y := .tmp 54) rfl (by kernel_rfl) (by kernel_rfl) hth rfl rfl rfl rfl rfl) (keeps_setCells (keeps_of hK6 HNE.out)) (fun hHeld => ?_) rdy_nil
              simp only [Act.put]
              refine wpAnyH_done (by kernel_rfl) ?_ _
              refine NoPanic.normal ?_
              have hKeep := hHeld
              clear hHeld
              exact ⟨rfl, _, ⟨b1, b4, b3, q2, q5, q6, W6, rfl, rfl, hK6, hi2_3_4_5_6, hi5_6, hi6, hqn2, hqn5, hqn6, hqs2_3_4_5_6, hqs5_6, hqs6⟩, by kernel_rfl⟩
            refine rdy_val (i := 15) rfl rfl (some 46) rfl (.slice (some ⟨W1.heap.size, 0, none⟩) 0 0) (W1.alloc (.cells #[] 5)) (mk0_run rfl) (keeps_of (hK1.alloc (Nat.le_trans (hle0) hg1.size) _) HNE.out) (fun hHeld => ?_) ?_
            · simp only [Act.put, List.setIfInBounds_toArray, List.set_cons_succ, List.set_cons_zero]
              have he2 := heap_alloc_new W1 (.cells #[] 5)
              have hg2 : W1.grownBy (W1.alloc (.cells #[] 5)) none := grown_alloc W1 _
              have hK2 := hK1.alloc (Nat.le_trans (hle0) hg1.size) (.cells #[] 5)
              obtain ⟨b2, hb2⟩ : ∃ b, b = W1.heap.size := ⟨_, rfl⟩
              obtain ⟨W2, hW2⟩ : ∃ W', W' = W1.alloc (.cells #[] 5) := ⟨_, rfl⟩
              rw [← hW2] at hHeld hg2 hK2
              rw [← hb2, ← hW2] at he2
              rw [← hb2, ← hW2]
              have hn2 : n0 ≤ b2 := by rw [hb2]; exact Nat.le_trans (hle0) hg1.size
              have hbl2 : b2 < W2.heap.size := (Array.getElem?_eq_some_iff.1 he2).1
              clear hW2
              have hsz2 : W1.heap.size ≤ W2.heap.size := hg2.size
              have he1_2 := (hg2.block b1 (Array.getElem?_eq_some_iff.1 he1).1 (fun e => by cases e)).trans he1
              refine wpAnyH_ready (rs := [14, 19]) (by kernel_rfl) (by simp) ?_
              obtain ⟨q3, W3, hr3, hi3, hq3, hqs3, hg3⟩ := cpy W2 b1 he1_2 ⟨sq, 0, none⟩ sc3 zs HZL.out (fun j u hj => HSrc.out W2 hK2 j u hj)
              refine rdy_val (i := 14) rfl rfl (some 45) rfl (im q3) W3 (app_run3 (x := .tmp 42) (y := .tmp 44) rfl (by kernel_rfl) (by kernel_rfl) hr3) (keeps_of (hK2.grown hg3 (Nat.le_trans (Nat.le_trans (hle0) hg1.size) hg2.size) (fun k hk => (Option.some.inj hk) ▸ hn1)) HNE.out) (fun hHeld => ?_) ?_
              · simp only [Act.put, List.setIfInBounds_toArray, List.set_cons_succ, List.set_cons_zero]
                clear hr3
                have hqn3 : n0 ≤ q3.1 := Nat.le_trans (Nat.le_trans (Nat.le_trans (hle0) hg1.size) hg2.size) hq3
                have hK3 := hK2.grown hg3 (Nat.le_trans (Nat.le_trans (hle0) hg1.size) hg2.size) (fun k hk => (Option.some.inj hk) ▸ hn1)
                have hsz3 : W2.heap.size ≤ W3.heap.size := hg3.size
                have he2_3 := (hg3.block b2 (Array.getElem?_eq_some_iff.1 he2).1 (fun e => Nat.ne_of_gt (Nat.lt_of_lt_of_le (Nat.lt_of_lt_of_le hbl1 (Nat.le_refl _)) (Nat.le_of_eq hb2.symm)) (Option.some.inj e))).trans he2
                refine wpAnyH_ready (rs := [18, 19]) (by kernel_rfl) (by simp) ?_
                obtain ⟨q4, W4, hr4, hi4, hq4, hqs4, hg4⟩ := cpy W3 b2 he2_3 ⟨sq, 0, none⟩ sc3 zs HZL.out (fun j u hj => HSrc.out W3 hK3 j u hj)
                refine rdy_val (i := 18) rfl rfl (some 49) rfl (im q4) W4 (app_run3 (x := .tmp 46) (y := .tmp 48) rfl (by kernel_rfl) (by kernel_rfl) hr4) (keeps_of (hK3.grown hg4 (Nat.le_trans (Nat.le_trans (Nat.le_trans (hle0) hg1.size) hg2.size) hg3.size) (fun k hk => (Option.some.inj hk) ▸ hn2)) HNE.out) (fun hHeld => ?_) ?_
                · simp only [Act.put, List.setIfInBounds_toArray, List.set_cons_succ, List.set_cons_zero]
                  clear hr4
                  have hqn4 : n0 ≤ q4.1 := Nat.le_trans (Nat.le_trans (Nat.le_trans (Nat.le_trans (hle0) hg1.size) hg2.size) hg3.size) hq4
                  have hK4 := hK3.grown hg4 (Nat.le_trans (Nat.le_trans (Nat.le_trans (hle0) hg1.size) hg2.size) hg3.size) (fun k hk => (Option.some.inj hk) ▸ hn2)
                  have hsz4 : W3.heap.size ≤ W4.heap.size := hg4.size
                  have hi3_4 := im_grown hi3 hg4 (fun e => Nat.ne_of_gt (Nat.lt_of_lt_of_le (Nat.lt_of_lt_of_le hbl2 (Nat.le_refl _)) hq3) (Option.some.inj e))
                  have hqs3_4 : q3.1 < W4.heap.size := Nat.lt_of_lt_of_le hqs3 hg4.size
                  refine wpAnyH_ready (rs := [19]) (by kernel_rfl) (by simp) ?_
                  refine rdy_val (i := 19) rfl rfl (some 50) rfl (.slice (some ⟨W4.heap.size, 0, none⟩) 0 0) (W4.alloc (.cells #[] 5)) (mk0_run rfl) (keeps_of (hK4.alloc (Nat.le_trans (Nat.le_trans (Nat.le_trans (Nat.le_trans (hle0) hg1.size) hg2.size) hg3.size) hg4.size) _) HNE.out) (fun hHeld => ?_) rdy_nil
                  simp only [Act.put, List.setIfInBounds_toArray, List.set_cons_succ, List.set_cons_zero]
                  have he5 := heap_alloc_new W4 (.cells #[] 5)
                  have hg5 : W4.grownBy (W4.alloc (.cells #[] 5)) none := grown_alloc W4 _
                  have hK5 := hK4.alloc (Nat.le_trans (Nat.le_trans (Nat.le_trans (Nat.le_trans (hle0) hg1.size) hg2.size) hg3.size) hg4.size) (.cells #[] 5)
                  obtain ⟨b5, hb5⟩ : ∃ b, b = W4.heap.size := ⟨_, rfl⟩
                  obtain ⟨W5, hW5⟩ : ∃ W', W' = W4.alloc (.cells #[] 5) := ⟨_, rfl⟩
                  rw [← hW5] at hHeld hg5 hK5
                  rw [← hb5, ← hW5] at he5
                  rw [← hb5, ← hW5]
                  have hn5 : n0 ≤ b5 := by rw [hb5]; exact Nat.le_trans (Nat.le_trans (Nat.le_trans (Nat.le_trans (hle0) hg1.size) hg2.size) hg3.size) hg4.size
                  have hbl5 : b5 < W5.heap.size := (Array.getElem?_eq_some_iff.1 he5).1
                  clear hW5
                  have hsz5 : W4.heap.size ≤ W5.heap.size := hg5.size
                  have hi3_4_5 := im_grown hi3_4 hg5 (fun e => by cases e)
                  have hqs3_4_5 : q3.1 < W5.heap.size := Nat.lt_of_lt_of_le hqs3_4 hg5.size
                  have hi4_5 := im_grown hi4 hg5 (fun e => by cases e)
                  have hqs4_5 : q4.1 < W5.heap.size := Nat.lt_of_lt_of_le hqs4 hg5.size
                  refine wpAnyH_ready (rs := [22]) (by kernel_rfl) (by simp) ?_
                  obtain ⟨q6, W6, hr6, hi6, hq6, hqs6, hg6⟩ := cpy W5 b5 he5 ⟨sq, 0, none⟩ sc3 zs HZL.out (fun j u hj => HSrc.out W5 hK5 j u hj)
                  refine rdy_val (i := 22) rfl rfl (some 53) rfl (im q6) W6 (app_run3 (x := .tmp 50) (y := .tmp 52) rfl (by kernel_rfl) (by kernel_rfl) hr6) (keeps_of (hK5.grown hg6 (Nat.le_trans (Nat.le_trans (Nat.le_trans (Nat.le_trans (Nat.le_trans (hle0) hg1.size) hg2.size) hg3.size) hg4.size) hg5.size) (fun k hk => (Option.some.inj hk) ▸ hn5)) HNE.out) (fun hHeld => ?_) rdy_nil
                  simp only [Act.put, List.setIfInBounds_toArray, List.set_cons_succ, List.set_cons_zero]
                  clear hr6
                  have hqn6 : n0 ≤ q6.1 := Nat.le_trans (Nat.le_trans (Nat.le_trans (Nat.le_trans (Nat.le_trans (Nat.le_trans (hle0) hg1.size) hg2.size) hg3.size) hg4.size) hg5.size) hq6
                  have hK6 := hK5.grown hg6 (Nat.le_trans (Nat.le_trans (Nat.le_trans (Nat.le_trans (Nat.le_trans (hle0) hg1.size) hg2.size) hg3.size) hg4.size) hg5.size) (fun k hk => (Option.some.inj hk) ▸ hn5)
                  have hsz6 : W5.heap.size ≤ W6.heap.size := hg6.size
                  have hi3_4_5_6 := im_grown hi3_4_5 hg6 (fun e => Nat.ne_of_lt (Nat.lt_of_lt_of_le (Nat.lt_of_lt_of_le hqs3 (hsz4)) (Nat.le_of_eq hb5.symm)) (Option.some.inj e))
                  have hqs3_4_5_6 : q3.1 < W6.heap.size := Nat.lt_of_lt_of_le hqs3_4_5 hg6.size
                  have hi4_5_6 := im_grown hi4_5 hg6 (fun e => Nat.ne_of_lt (Nat.lt_of_lt_of_le (Nat.lt_of_lt_of_le hqs4 (Nat.le_refl _)) (Nat.le_of_eq hb5.symm)) (Option.some.inj e))
                  have hqs4_5_6 : q4.1 < W6.heap.size := Nat.lt_of_lt_of_le hqs4_5 hg6.size
                  refine drawn_take (i := 23) (v := .agg #[.slice (some ⟨sq, 0, none⟩) 128 sc3, im q3, im q4, im q6, .bool false]) (some 54) rfl rfl (by kernel_rfl) (by kernel_rfl) (by kernel_rfl) (fun _ _ _ h => h) (Or.inl ⟨by kernel_rfl, fun wq hw => by go_simp⟩) hHeld ?_
                  simp only [Act.put, List.setIfInBounds_toArray, List.set_cons_succ, List.set_cons_zero]
                  refine drawn_take (i := 24) (v := .pointer (some ⟨fg, j * 5, none⟩)) (some 55) rfl rfl (by kernel_rfl) (by kernel_rfl) (by kernel_rfl) (fun _ _ _ h => h) (Or.inl ⟨by kernel_rfl, fun wq hw => by go_simp⟩) hHeld ?_
                  simp only [Act.put, List.setIfInBounds_toArray, List.set_cons_succ, List.set_cons_zero]
                  refine wpAnyH_ready (rs := [25]) (by kernel_rfl) (by simp) ?_
                  have hth : W6.there fg (j * 5) 5 := there_row (HRow.out W6 hK6) (by omega)
                  refine rdy_unit (i := 25) rfl rfl none rfl (W6.setCells fg (j * 5) [.slice (some ⟨sq, 0, none⟩) 128 sc3, im q3, im q4, im q6, .bool false]) (st5_run (x := .tmp 55) (y := .tmp 54) rfl (by kernel_rfl) (by kernel_rfl) hth rfl rfl rfl rfl rfl) (keeps_setCells (keeps_of hK6 HNE.out)) (fun hHeld => ?_) rdy_nil
                  simp only [Act.put]
                  refine wpAnyH_done (by kernel_rfl) ?_ _
                  refine NoPanic.normal ?_
                  have hKeep := hHeld
                  clear hHeld
                  exact ⟨rfl, _, ⟨b1, b2, b5, q3, q4, q6, W6, rfl, rfl, hK6, hi3_4_5_6, hi4_5_6, hi6, hqn3, hqn4, hqn6, hqs3_4_5_6, hqs4_5_6, hqs6⟩, by kernel_rfl⟩
                refine rdy_val (i := 19) rfl rfl (some 50) rfl (.slice (some ⟨W3.heap.size, 0, none⟩) 0 0) (W3.alloc (.cells #[] 5)) (mk0_run rfl) (keeps_of (hK3.alloc (Nat.le_trans (Nat.le_trans (Nat.le_trans (hle0) hg1.size) hg2.size) hg3.size) _) HNE.out) (fun hHeld => ?_) rdy_nil
                simp only [Act.put, List.setIfInBounds_toArray, List.set_cons_succ, List.set_cons_zero]
                have he4 := heap_alloc_new W3 (.cells #[] 5)
                have hg4 : W3.grownBy (W3.alloc (.cells #[] 5)) none := grown_alloc W3 _
                have hK4 := hK3.alloc (Nat.le_trans (Nat.le_trans (Nat.le_trans (hle0) hg1.size) hg2.size) hg3.size) (.cells #[] 5)
                obtain ⟨b4, hb4⟩ : ∃ b, b = W3.heap.size := ⟨_, rfl⟩
                obtain ⟨W4, hW4⟩ : ∃ W', W' = W3.alloc (.cells #[] 5) := ⟨_, rfl⟩
                rw [← hW4] at hHeld hg4 hK4
                rw [← hb4, ← hW4] at he4
                rw [← hb4, ← hW4]
                have hn4 : n0 ≤ b4 := by rw [hb4]; exact Nat.le_trans (Nat.le_trans (Nat.le_trans (hle0) hg1.size) hg2.size) hg3.size
                have hbl4 : b4 < W4.heap.size := (Array.getElem?_eq_some_iff.1 he4).1
                clear hW4
                have hsz4 : W3.heap.size ≤ W4.heap.size := hg4.size
                have he2_3_4 := (hg4.block b2 (Array.getElem?_eq_some_iff.1 he2_3).1 (fun e => by cases e)).trans he2_3
                have hi3_4 := im_grown hi3 hg4 (fun e => by cases e)
                have hqs3_4 : q3.1 < W4.heap.size := Nat.lt_of_lt_of_le hqs3 hg4.size
                refine wpAnyH_ready (rs := [18]) (by kernel_rfl) (by simp) ?_
                obtain ⟨q5, W5, hr5, hi5, hq5, hqs5, hg5⟩ := cpy W4 b2 he2_3_4 ⟨sq, 0, none⟩ sc3 zs HZL.out (fun j u hj => HSrc.out W4 hK4 j u hj)
                refine rdy_val (i := 18) rfl rfl (some 49) rfl (im q5) W5 (app_run3 (x := .tmp 46) (y := .tmp 48) rfl (by kernel_rfl) (by kernel_rfl) hr5) (keeps_of (hK4.grown hg5 (Nat.le_trans (Nat.le_trans (Nat.le_trans (Nat.le_trans (hle0) hg1.size) hg2.size) hg3.size) hg4.size) (fun k hk => (Option.some.inj hk) ▸ hn2)) HNE.out) (fun hHeld => ?_) rdy_nil
                simp only [Act.put, List.setIfInBounds_toArray, List.set_cons_succ, List.set_cons_zero]
                clear hr5
                have hqn5 : n0 ≤ q5.1 := Nat.le_trans (Nat.le_trans (Nat.le_trans (Nat.le_trans (Nat.le_trans (hle0) hg1.size) hg2.size) hg3.size) hg4.size) hq5
                have hK5 := hK4.grown hg5 (Nat.le_trans (Nat.le_trans (Nat.le_trans (Nat.le_trans (hle0) hg1.size) hg2.size) hg3.size) hg4.size) (fun k hk => (Option.some.inj hk) ▸ hn2)
                have hsz5 : W4.heap.size ≤ W5.heap.size := hg5.size
                have he4_5 := (hg5.block b4 (Array.getElem?_eq_some_iff.1 he4).1 (fun e => Nat.ne_of_gt (Nat.lt_of_lt_of_le (Nat.lt_of_lt_of_le hbl2 (hsz3)) (Nat.le_of_eq hb4.symm)) (Option.some.inj e))).trans he4
                have hi3_4_5 := im_grown hi3_4 hg5 (fun e => Nat.ne_of_gt (Nat.lt_of_lt_of_le (Nat.lt_of_lt_of_le hbl2 (Nat.le_refl _)) hq3) (Option.some.inj e))
                have hqs3_4_5 : q3.1 < W5.heap.size := Nat.lt_of_lt_of_le hqs3_4 hg5.size
                refine wpAnyH_ready (rs := [22]) (by kernel_rfl) (by simp) ?_
                obtain ⟨q6, W6, hr6, hi6, hq6, hqs6, hg6⟩ := cpy W5 b4 he4_5 ⟨sq, 0, none⟩ sc3 zs HZL.out (fun j u hj => HSrc.out W5 hK5 j u hj)
                refine rdy_val (i := 22) rfl rfl (some 53) rfl (im q6) W6 (app_run3 (x := .tmp 50) (y := .tmp 52) rfl (by kernel_rfl) (by kernel_rfl) hr6) (keeps_of (hK5.grown hg6 (Nat.le_trans (Nat.le_trans (Nat.le_trans (Nat.le_trans (Nat.le_trans (hle0) hg1.size) hg2.size) hg3.size) hg4.size) hg5.size) (fun k hk => (Option.some.inj hk) ▸ hn4)) HNE.out) (fun hHeld => ?_) rdy_nil
                simp only [Act.put, List.setIfInBounds_toArray, List.set_cons_succ, List.set_cons_zero]
                clear hr6
                have hqn6 : n0 ≤ q6.1 := Nat.le_trans (Nat.le_trans (Nat.le_trans (Nat.le_trans (Nat.le_trans (Nat.le_trans (hle0) hg1.size) hg2.size) hg3.size) hg4.size) hg5.size) hq6
                have hK6 := hK5.grown hg6 (Nat.le_trans (Nat.le_trans (Nat.le_trans (Nat.le_trans (Nat.le_trans (hle0) hg1.size) hg2.size) hg3.size) hg4.size) hg5.size) (fun k hk => (Option.some.inj hk) ▸ hn4)
                have hsz6 : W5.heap.size ≤ W6.heap.size := hg6.size
                have hi3_4_5_6 := im_grown hi3_4_5 hg6 (fun e => Nat.ne_of_lt (Nat.lt_of_lt_of_le (Nat.lt_of_lt_of_le hqs3 (Nat.le_refl _)) (Nat.le_of_eq hb4.symm)) (Option.some.inj e))
                have hqs3_4_5_6 : q3.1 < W6.heap.size := Nat.lt_of_lt_of_le hqs3_4_5 hg6.size
                have hi5_6 := im_grown hi5 hg6 (fun e => Nat.ne_of_gt (Nat.lt_of_lt_of_le (Nat.lt_of_lt_of_le hbl4 (Nat.le_refl _)) hq5) (Option.some.inj e))
                have hqs5_6 : q5.1 < W6.heap.size := Nat.lt_of_lt_of_le hqs5 hg6.size
                refine drawn_take (i := 23) (v := .agg #[.slice (some ⟨sq, 0, none⟩) 128 sc3, im q3, im q5, im q6, .bool false]) (some 54) rfl rfl (by kernel_rfl) (by kernel_rfl) (by kernel_rfl) (fun _ _ _ h => h) (Or.inl ⟨by kernel_rfl, fun wq hw => by go_simp⟩) hHeld ?_
                simp only [Act.put, List.setIfInBounds_toArray, List.set_cons_succ, List.set_cons_zero]
                refine drawn_take (i := 24) (v := .pointer (some ⟨fg, j * 5, none⟩)) (some 55) rfl rfl (by kernel_rfl) (by kernel_rfl) (by kernel_rfl) (fun _ _ _ h => h) (Or.inl ⟨by kernel_rfl, fun wq hw => by go_simp⟩) hHeld ?_
                simp only [Act.put, List.setIfInBounds_toArray, List.set_cons_succ, List.set_cons_zero]
                refine wpAnyH_ready (rs := [25]) (by kernel_rfl) (by simp) ?_
                have hth : W6.there fg (j * 5) 5 := there_row (HRow.out W6 hK6) (by omega)
                refine rdy_unit (i := 25) rfl rfl none rfl (W6.setCells fg (j * 5) [.slice (some ⟨sq, 0, none⟩) 128 sc3, im q3, im q5, im q6, .bool false]) (st5_run (x := .tmp 55) (y := .tmp 54) rfl (by kernel_rfl) (by kernel_rfl) hth rfl rfl rfl rfl rfl) (keeps_setCells (keeps_of hK6 HNE.out)) (fun hHeld => ?_) rdy_nil
                simp only [Act.put]
                refine wpAnyH_done (by kernel_rfl) ?_ _
                refine NoPanic.normal ?_
                have hKeep := hHeld
                clear hHeld
                exact ⟨rfl, _, ⟨b1, b2, b4, q3, q5, q6, W6, rfl, rfl, hK6, hi3_4_5_6, hi5_6, hi6, hqn3, hqn5, hqn6, hqs3_4_5_6, hqs5_6, hqs6⟩, by kernel_rfl⟩
              refine rdy_val (i := 19) rfl rfl (some 50) rfl (.slice (some ⟨W2.heap.size, 0, none⟩) 0 0) (W2.alloc (.cells #[] 5)) (mk0_run rfl) (keeps_of (hK2.alloc (Nat.le_trans (Nat.le_trans (hle0) hg1.size) hg2.size) _) HNE.out) (fun hHeld => ?_) rdy_nil
              simp only [Act.put, List.setIfInBounds_toArray, List.set_cons_succ, List.set_cons_zero]
              have he3 := heap_alloc_new W2 (.cells #[] 5)
              have hg3 : W2.grownBy (W2.alloc (.cells #[] 5)) none := grown_alloc W2 _
              have hK3 := hK2.alloc (Nat.le_trans (Nat.le_trans (hle0) hg1.size) hg2.size) (.cells #[] 5)
              obtain ⟨b3, hb3⟩ : ∃ b, b = W2.heap.size := ⟨_, rfl⟩
              obtain ⟨W3, hW3⟩ : ∃ W', W' = W2.alloc (.cells #[] 5) := ⟨_, rfl⟩
              rw [← hW3] at hHeld hg3 hK3
              rw [← hb3, ← hW3] at he3
              rw [← hb3, ← hW3]
              have hn3 : n0 ≤ b3 := by rw [hb3]; exact Nat.le_trans (Nat.le_trans (hle0) hg1.size) hg2.size
              have hbl3 : b3 < W3.heap.size := (Array.getElem?_eq_some_iff.1 he3).1
              clear hW3
              have hsz3 : W2.heap.size ≤ W3.heap.size := hg3.size
              have he1_2_3 := (hg3.block b1 (Array.getElem?_eq_some_iff.1 he1_2).1 (fun e => by cases e)).trans he1_2
              have he2_3 := (hg3.block b2 (Array.getElem?_eq_some_iff.1 he2).1 (fun e => by cases e)).trans he2
              refine wpAnyH_ready (rs := [14]) (by kernel_rfl) (by simp) ?_
              obtain ⟨q4, W4, hr4, hi4, hq4, hqs4, hg4⟩ := cpy W3 b1 he1_2_3 ⟨sq, 0, none⟩ sc3 zs HZL.out (fun j u hj => HSrc.out W3 hK3 j u hj)
              refine rdy_val (i := 14) rfl rfl (some 45) rfl (im q4) W4 (app_run3 (x := .tmp 42) (y := .tmp 44) rfl (by kernel_rfl) (by kernel_rfl) hr4) (keeps_of (hK3.grown hg4 (Nat.le_trans (Nat.le_trans (Nat.le_trans (hle0) hg1.size) hg2.size) hg3.size) (fun k hk => (Option.some.inj hk) ▸ hn1)) HNE.out) (fun hHeld => ?_) rdy_nil
              simp only [Act.put, List.setIfInBounds_toArray, List.set_cons_succ, List.set_cons_zero]
              clear hr4
              have hqn4 : n0 ≤ q4.1 := Nat.le_trans (Nat.le_trans (Nat.le_trans (Nat.le_trans (hle0) hg1.size) hg2.size) hg3.size) hq4
              have hK4 := hK3.grown hg4 (Nat.le_trans (Nat.le_trans (Nat.le_trans (hle0) hg1.size) hg2.size) hg3.size) (fun k hk => (Option.some.inj hk) ▸ hn1)
              have hsz4 : W3.heap.size ≤ W4.heap.size := hg4.size
              have he2_3_4 := (hg4.block b2 (Array.getElem?_eq_some_iff.1 he2_3).1 (fun e => Nat.ne_of_gt (Nat.lt_of_lt_of_le (Nat.lt_of_lt_of_le hbl1 (Nat.le_refl _)) (Nat.le_of_eq hb2.symm)) (Option.some.inj e))).trans he2_3
              have he3_4 := (hg4.block b3 (Array.getElem?_eq_some_iff.1 he3).1 (fun e => Nat.ne_of_gt (Nat.lt_of_lt_of_le (Nat.lt_of_lt_of_le hbl1 (hsz2)) (Nat.le_of_eq hb3.symm)) (Option.some.inj e))).trans he3
              refine wpAnyH_ready (rs := [18]) (by kernel_rfl) (by simp) ?_
              obtain ⟨q5, W5, hr5, hi5, hq5, hqs5, hg5⟩ := cpy W4 b2 he2_3_4 ⟨sq, 0, none⟩ sc3 zs HZL.out (fun j u hj => HSrc.out W4 hK4 j u hj)
              refine rdy_val (i := 18) rfl rfl (some 49) rfl (im q5) W5 (app_run3 (x := .tmp 46) (y := .tmp 48) rfl (by kernel_rfl) (by kernel_rfl) hr5) (keeps_of (hK4.grown hg5 (Nat.le_trans (Nat.le_trans (Nat.le_trans (Nat.le_trans (hle0) hg1.size) hg2.size) hg3.size) hg4.size) (fun k hk => (Option.some.inj hk) ▸ hn2)) HNE.out) (fun hHeld => ?_) rdy_nil
              simp only [Act.put, List.setIfInBounds_toArray, List.set_cons_succ, List.set_cons_zero]
              clear hr5
              have hqn5 : n0 ≤ q5.1 := Nat.le_trans (Nat.le_trans (Nat.le_trans (Nat.le_trans (Nat.le_trans (hle0) hg1.size) hg2.size) hg3.size) hg4.size) hq5
              have hK5 := hK4.grown hg5 (Nat.le_trans (Nat.le_trans (Nat.le_trans (Nat.le_trans (hle0) hg1.size) hg2.size) hg3.size) hg4.size) (fun k hk => (Option.some.inj hk) ▸ hn2)
              have hsz5 : W4.heap.size ≤ W5.heap.size := hg5.size
              have he3_4_5 := (hg5.block b3 (Array.getElem?_eq_some_iff.1 he3_4).1 (fun e => Nat.ne_of_gt (Nat.lt_of_lt_of_le (Nat.lt_of_lt_of_le hbl2 (Nat.le_refl _)) (Nat.le_of_eq hb3.symm)) (Option.some.inj e))).trans he3_4
              have hi4_5 := im_grown hi4 hg5 (fun e => Nat.ne_of_gt (Nat.lt_of_lt_of_le (Nat.lt_of_lt_of_le hbl2 (hsz3)) hq4) (Option.some.inj e))
              have hqs4_5 : q4.1 < W5.heap.size := Nat.lt_of_lt_of_le hqs4 hg5.size
              refine wpAnyH_ready (rs := [22]) (by kernel_rfl) (by simp) ?_
              obtain ⟨q6, W6, hr6, hi6, hq6, hqs6, hg6⟩ := cpy W5 b3 he3_4_5 ⟨sq, 0, none⟩ sc3 zs HZL.out (fun j u hj => HSrc.out W5 hK5 j u hj)
              refine rdy_val (i := 22) rfl rfl (some 53) rfl (im q6) W6 (app_run3 (x := .tmp 50) (y := .tmp 52) rfl (by kernel_rfl) (by kernel_rfl) hr6) (keeps_of (hK5.grown hg6 (Nat.le_trans (Nat.le_trans (Nat.le_trans (Nat.le_trans (Nat.le_trans (hle0) hg1.size) hg2.size) hg3.size) hg4.size) hg5.size) (fun k hk => (Option.some.inj hk) ▸ hn3)) HNE.out) (fun hHeld => ?_) rdy_nil
              simp only [Act.put, List.setIfInBounds_toArray, List.set_cons_succ, List.set_cons_zero]
              clear hr6
              have hqn6 : n0 ≤ q6.1 := Nat.le_trans (Nat.le_trans (Nat.le_trans (Nat.le_trans (Nat.le_trans (Nat.le_trans (hle0) hg1.size) hg2.size) hg3.size) hg4.size) hg5.size) hq6
              have hK6 := hK5.grown hg6 (Nat.le_trans (Nat.le_trans (Nat.le_trans (Nat.le_trans (Nat.le_trans (hle0) hg1.size) hg2.size) hg3.size) hg4.size) hg5.size) (fun k hk => (Option.some.inj hk) ▸ hn3)
              have hsz6 : W5.heap.size ≤ W6.heap.size := hg6.size
              have hi4_5_6 := im_grown hi4_5 hg6 (fun e => Nat.ne_of_gt (Nat.lt_of_lt_of_le (Nat.lt_of_lt_of_le hbl3 (Nat.le_refl _)) hq4) (Option.some.inj e))
              have hqs4_5_6 : q4.1 < W6.heap.size := Nat.lt_of_lt_of_le hqs4_5 hg6.size
              have hi5_6 := im_grown hi5 hg6 (fun e => Nat.ne_of_gt (Nat.lt_of_lt_of_le (Nat.lt_of_lt_of_le hbl3 (hsz4)) hq5) (Option.some.inj e))
              have hqs5_6 : q5.1 < W6.heap.size := Nat.lt_of_lt_of_le hqs5 hg6.size
              refine drawn_take (i := 23) (v := .agg #[.slice (some ⟨sq, 0, none⟩) 128 sc3, im q4, im q5, im q6, .bool false]) (some 54) rfl rfl (by kernel_rfl) (by kernel_rfl) (by kernel_rfl) (fun _ _ _ h => h) (Or.inl ⟨by kernel_rfl, fun wq hw => by go_simp⟩) hHeld ?_
              simp only [Act.put, List.setIfInBounds_toArray, List.set_cons_succ, List.set_cons_zero]
              refine drawn_take (i := 24) (v := .pointer (some ⟨fg, j * 5, none⟩)) (some 55) rfl rfl (by kernel_rfl) (by kernel_rfl) (by kernel_rfl) (fun _ _ _ h => h) (Or.inl ⟨by kernel_rfl, fun wq hw => by go_simp⟩) hHeld ?_
              simp only [Act.put, List.setIfInBounds_toArray, List.set_cons_succ, List.set_cons_zero]
              refine wpAnyH_ready (rs := [25]) (by kernel_rfl) (by simp) ?_
              have hth : W6.there fg (j * 5) 5 := there_row (HRow.out W6 hK6) (by omega)
              refine rdy_unit (i := 25) rfl rfl none rfl (W6.setCells fg (j * 5) [.slice (some ⟨sq, 0, none⟩) 128 sc3, im q4, im q5, im q6, .bool false]) (st5_run (x := .tmp 55) (y := .tmp 54) rfl (by kernel_rfl) (by kernel_rfl) hth rfl rfl rfl rfl rfl) (keeps_setCells (keeps_of hK6 HNE.out)) (fun hHeld => ?_) rdy_nil
              simp only [Act.put]
              refine wpAnyH_done (by kernel_rfl) ?_ _
              refine NoPanic.normal ?_
              have hKeep := hHeld
              clear hHeld
              exact ⟨rfl, _, ⟨b1, b2, b3, q4, q5, q6, W6, rfl, rfl, hK6, hi4_5_6, hi5_6, hi6, hqn4, hqn5, hqn6, hqs4_5_6, hqs5_6, hqs6⟩, by kernel_rfl⟩
            refine rdy_val (i := 19) rfl rfl (some 50) rfl (.slice (some ⟨W1.heap.size, 0, none⟩) 0 0) (W1.alloc (.cells #[] 5)) (mk0_run rfl) (keeps_of (hK1.alloc (Nat.le_trans (hle0) hg1.size) _) HNE.out) (fun hHeld => ?_) rdy_nil
            simp only [Act.put, List.setIfInBounds_toArray, List.set_cons_succ, List.set_cons_zero]
            have he2 := heap_alloc_new W1 (.cells #[] 5)
            have hg2 : W1.grownBy (W1.alloc (.cells #[] 5)) none := grown_alloc W1 _
            have hK2 := hK1.alloc (Nat.le_trans (hle0) hg1.size) (.cells #[] 5)
            obtain ⟨b2, hb2⟩ : ∃ b, b = W1.heap.size := ⟨_, rfl⟩
            obtain ⟨W2, hW2⟩ : ∃ W', W' = W1.alloc (.cells #[] 5) := ⟨_, rfl⟩
            rw [← hW2] at hHeld hg2 hK2
            rw [← hb2, ← hW2] at he2
            rw [← hb2, ← hW2]
            have hn2 : n0 ≤ b2 := by rw [hb2]; exact Nat.le_trans (hle0) hg1.size
            have hbl2 : b2 < W2.heap.size := (Array.getElem?_eq_some_iff.1 he2).1
            clear hW2
            have hsz2 : W1.heap.size ≤ W2.heap.size := hg2.size
            have he1_2 := (hg2.block b1 (Array.getElem?_eq_some_iff.1 he1).1 (fun e => by cases e)).trans he1
            refine wpAnyH_ready (rs := [14, 15]) (by kernel_rfl) (by simp) ?_
            obtain ⟨q3, W3, hr3, hi3, hq3, hqs3, hg3⟩ := cpy W2 b1 he1_2 ⟨sq, 0, none⟩ sc3 zs HZL.out (fun j u hj => HSrc.out W2 hK2 j u hj)
            refine rdy_val (i := 14) rfl rfl (some 45) rfl (im q3) W3 (app_run3 (x := .tmp 42) (y := .tmp 44) rfl (by kernel_rfl) (by kernel_rfl) hr3) (keeps_of (hK2.grown hg3 (Nat.le_trans (Nat.le_trans (hle0) hg1.size) hg2.size) (fun k hk => (Option.some.inj hk) ▸ hn1)) HNE.out) (fun hHeld => ?_) ?_
            · simp only [Act.put, List.setIfInBounds_toArray, List.set_cons_succ, List.set_cons_zero]
              clear hr3
              have hqn3 : n0 ≤ q3.1 := Nat.le_trans (Nat.le_trans (Nat.le_trans (hle0) hg1.size) hg2.size) hq3
              have hK3 := hK2.grown hg3 (Nat.le_trans (Nat.le_trans (hle0) hg1.size) hg2.size) (fun k hk => (Option.some.inj hk) ▸ hn1)
              have hsz3 : W2.heap.size ≤ W3.heap.size := hg3.size
              have he2_3 := (hg3.block b2 (Array.getElem?_eq_some_iff.1 he2).1 (fun e => Nat.ne_of_gt (Nat.lt_of_lt_of_le (Nat.lt_of_lt_of_le hbl1 (Nat.le_refl _)) (Nat.le_of_eq hb2.symm)) (Option.some.inj e))).trans he2
              refine wpAnyH_ready (rs := [15]) (by kernel_rfl) (by simp) ?_
              refine rdy_val (i := 15) rfl rfl (some 46) rfl (.slice (some ⟨W3.heap.size, 0, none⟩) 0 0) (W3.alloc (.cells #[] 5)) (mk0_run rfl) (keeps_of (hK3.alloc (Nat.le_trans (Nat.le_trans (Nat.le_trans (hle0) hg1.size) hg2.size) hg3.size) _) HNE.out) (fun hHeld => ?_) rdy_nil
              simp only [Act.put, List.setIfInBounds_toArray, List.set_cons_succ, List.set_cons_zero]
              have he4 := heap_alloc_new W3 (.cells #[] 5)
              have hg4 : W3.grownBy (W3.alloc (.cells #[] 5)) none := grown_alloc W3 _
              have hK4 := hK3.alloc (Nat.le_trans (Nat.le_trans (Nat.le_trans (hle0) hg1.size) hg2.size) hg3.size) (.cells #[] 5)
              obtain ⟨b4, hb4⟩ : ∃ b, b = W3.heap.size := ⟨_, rfl⟩
              obtain ⟨W4, hW4⟩ : ∃ W', W' = W3.alloc (.cells #[] 5) := ⟨_, rfl⟩
              rw [← hW4] at hHeld hg4 hK4
              rw [← hb4, ← hW4] at he4
              rw [← hb4, ← hW4]
              have hn4 : n0 ≤ b4 := by rw [hb4]; exact Nat.le_trans (Nat.le_trans (Nat.le_trans (hle0) hg1.size) hg2.size) hg3.size
              have hbl4 : b4 < W4.heap.size := (Array.getElem?_eq_some_iff.1 he4).1
              clear hW4
              have hsz4 : W3.heap.size ≤ W4.heap.size := hg4.size
              have he2_3_4 := (hg4.block b2 (Array.getElem?_eq_some_iff.1 he2_3).1 (fun e => by cases e)).trans he2_3
              have hi3_4 := im_grown hi3 hg4 (fun e => by cases e)
              have hqs3_4 : q3.1 < W4.heap.size := Nat.lt_of_lt_of_le hqs3 hg4.size
              refine wpAnyH_ready (rs := [18]) (by kernel_rfl) (by simp) ?_
              obtain ⟨q5, W5, hr5, hi5, hq5, hqs5, hg5⟩ := cpy W4 b4 he4 ⟨sq, 0, none⟩ sc3 zs HZL.out (fun j u hj => HSrc.out W4 hK4 j u hj)
              refine rdy_val (i := 18) rfl rfl (some 49) rfl (im q5) W5 (app_run3 (x := .tmp 46) (y := .tmp 48) rfl (by kernel_rfl) (by kernel_rfl) hr5) (keeps_of (hK4.grown hg5 (Nat.le_trans (Nat.le_trans (Nat.le_trans (Nat.le_trans (hle0) hg1.size) hg2.size) hg3.size) hg4.size) (fun k hk => (Option.some.inj hk) ▸ hn4)) HNE.out) (fun hHeld => ?_) rdy_nil
              simp only [Act.put, List.setIfInBounds_toArray, List.set_cons_succ, List.set_cons_zero]
              clear hr5
              have hqn5 : n0 ≤ q5.1 := Nat.le_trans (Nat.le_trans (Nat.le_trans (Nat.le_trans (Nat.le_trans (hle0) hg1.size) hg2.size) hg3.size) hg4.size) hq5
              have hK5 := hK4.grown hg5 (Nat.le_trans (Nat.le_trans (Nat.le_trans (Nat.le_trans (hle0) hg1.size) hg2.size) hg3.size) hg4.size) (fun k hk => (Option.some.inj hk) ▸ hn4)
              have hsz5 : W4.heap.size ≤ W5.heap.size := hg5.size
              have he2_3_4_5 := (hg5.block b2 (Array.getElem?_eq_some_iff.1 he2_3_4).1 (fun e => Nat.ne_of_lt (Nat.lt_of_lt_of_le (Nat.lt_of_lt_of_le hbl2 (hsz3)) (Nat.le_of_eq hb4.symm)) (Option.some.inj e))).trans he2_3_4
              have hi3_4_5 := im_grown hi3_4 hg5 (fun e => Nat.ne_of_lt (Nat.lt_of_lt_of_le (Nat.lt_of_lt_of_le hqs3 (Nat.le_refl _)) (Nat.le_of_eq hb4.symm)) (Option.some.inj e))
              have hqs3_4_5 : q3.1 < W5.heap.size := Nat.lt_of_lt_of_le hqs3_4 hg5.size
              refine wpAnyH_ready (rs := [22]) (by kernel_rfl) (by simp) ?_
              obtain ⟨q6, W6, hr6, hi6, hq6, hqs6, hg6⟩ := cpy W5 b2 he2_3_4_5 ⟨sq, 0, none⟩ sc3 zs HZL.out (fun j u hj => HSrc.out W5 hK5 j u hj)
              refine rdy_val (i := 22) rfl rfl (some 53) rfl (im q6) W6 (app_run3 (x := .tmp 50) (y := .tmp 52) rfl (by kernel_rfl) (by kernel_rfl) hr6) (keeps_of (hK5.grown hg6 (Nat.le_trans (Nat.le_trans (Nat.le_trans (Nat.le_trans (Nat.le_trans (hle0) hg1.size) hg2.size) hg3.size) hg4.size) hg5.size) (fun k hk => (Option.some.inj hk) ▸ hn2)) HNE.out) (fun hHeld => ?_) rdy_nil
              simp only [Act.put, List.setIfInBounds_toArray, List.set_cons_succ, List.set_cons_zero]
              clear hr6
              have hqn6 : n0 ≤ q6.1 := Nat.le_trans (Nat.le_trans (Nat.le_trans (Nat.le_trans (Nat.le_trans (Nat.le_trans (hle0) hg1.size) hg2.size) hg3.size) hg4.size) hg5.size) hq6
              have hK6 := hK5.grown hg6 (Nat.le_trans (Nat.le_trans (Nat.le_trans (Nat.le_trans (Nat.le_trans (hle0) hg1.size) hg2.size) hg3.size) hg4.size) hg5.size) (fun k hk => (Option.some.inj hk) ▸ hn2)
              have hsz6 : W5.heap.size ≤ W6.heap.size := hg6.size
              have hi3_4_5_6 := im_grown hi3_4_5 hg6 (fun e => Nat.ne_of_gt (Nat.lt_of_lt_of_le (Nat.lt_of_lt_of_le hbl2 (Nat.le_refl _)) hq3) (Option.some.inj e))
              have hqs3_4_5_6 : q3.1 < W6.heap.size := Nat.lt_of_lt_of_le hqs3_4_5 hg6.size
              have hi5_6 := im_grown hi5 hg6 (fun e => Nat.ne_of_gt (Nat.lt_of_lt_of_le (Nat.lt_of_lt_of_le hbl2 (Nat.le_trans (hsz3) hsz4)) hq5) (Option.some.inj e))
              have hqs5_6 : q5.1 < W6.heap.size := Nat.lt_of_lt_of_le hqs5 hg6.size
              refine drawn_take (i := 23) (v := .agg #[.slice (some ⟨sq, 0, none⟩) 128 sc3, im q3, im q5, im q6, .bool false]) (some 54) rfl rfl (by kernel_rfl) (by kernel_rfl) (by kernel_rfl) (fun _ _ _ h => h) (Or.inl ⟨by kernel_rfl, fun wq hw => by go_simp⟩) hHeld ?_
              simp only [Act.put, List.setIfInBounds_toArray, List.set_cons_succ, List.set_cons_zero]
              refine drawn_take (i := 24) (v := .pointer (some ⟨fg, j * 5, none⟩)) (some 55) rfl rfl (by kernel_rfl) (by kernel_rfl) (by kernel_rfl) (fun _ _ _ h => h) (Or.inl ⟨by kernel_rfl, fun wq hw => by go_simp⟩) hHeld ?_
              simp only [Act.put, List.setIfInBounds_toArray, List.set_cons_succ, List.set_cons_zero]
              refine wpAnyH_ready (rs := [25]) (by kernel_rfl) (by simp) ?_
              have hth : W6.there fg (j * 5) 5 := there_row (HRow.out W6 hK6) (by omega)
              refine rdy_unit (i := 25) rfl rfl none rfl (W6.setCells fg (j * 5) [.slice (some ⟨sq, 0, none⟩) 128 sc3, im q3, im q5, im q6, .bool false]) (st5_run (x := .tmp 55) (y := .tmp 54) rfl (by kernel_rfl) (by kernel_rfl) hth rfl rfl rfl rfl rfl) (keeps_setCells (keeps_of hK6 HNE.out)) (fun hHeld => ?_) rdy_nil
              simp only [Act.put]
              refine wpAnyH_done (by kernel_rfl) ?_ _
              refine NoPanic.normal ?_
              have hKeep := hHeld
              clear hHeld
              exact ⟨rfl, _, ⟨b1, b4, b2, q3, q5, q6, W6, rfl, rfl, hK6, hi3_4_5_6, hi5_6, hi6, hqn3, hqn5, hqn6, hqs3_4_5_6, hqs5_6, hqs6⟩, by kernel_rfl⟩
            refine rdy_val (i := 15) rfl rfl (some 46) rfl (.slice (some ⟨W2.heap.size, 0, none⟩) 0 0) (W2.alloc (.cells #[] 5)) (mk0_run rfl) (keeps_of (hK2.alloc (Nat.le_trans (Nat.le_trans (hle0) hg1.size) hg2.size) _) HNE.out) (fun hHeld => ?_) rdy_nil
            simp only [Act.put, List.setIfInBounds_toArray, List.set_cons_succ, List.set_cons_zero]
            have he3 := heap_alloc_new W2 (.cells #[] 5)
            have hg3 : W2.grownBy (W2.alloc (.cells #[] 5)) none := grown_alloc W2 _
            have hK3 := hK2.alloc (Nat.le_trans (Nat.le_trans (hle0) hg1.size) hg2.size) (.cells #[] 5)
            obtain ⟨b3, hb3⟩ : ∃ b, b = W2.heap.size := ⟨_, rfl⟩
            obtain ⟨W3, hW3⟩ : ∃ W', W' = W2.alloc (.cells #[] 5) := ⟨_, rfl⟩
            rw [← hW3] at hHeld hg3 hK3
            rw [← hb3, ← hW3] at he3
            rw [← hb3, ← hW3]
            have hn3 : n0 ≤ b3 := by rw [hb3]; exact Nat.le_trans (Nat.le_trans (hle0) hg1.size) hg2.size
            have hbl3 : b3 < W3.heap.size := (Array.getElem?_eq_some_iff.1 he3).1
            clear hW3
            have hsz3 : W2.heap.size ≤ W3.heap.size := hg3.size
            have he1_2_3 := (hg3.block b1 (Array.getElem?_eq_some_iff.1 he1_2).1 (fun e => by cases e)).trans he1_2
            have he2_3 := (hg3.block b2 (Array.getElem?_eq_some_iff.1 he2).1 (fun e => by cases e)).trans he2
            refine wpAnyH_ready (rs := [14]) (by kernel_rfl) (by simp) ?_
            obtain ⟨q4, W4, hr4, hi4, hq4, hqs4, hg4⟩ := cpy W3 b1 he1_2_3 ⟨sq, 0, none⟩ sc3 zs HZL.out (fun j u hj => HSrc.out W3 hK3 j u hj)
            refine rdy_val (i := 14) rfl rfl (some 45) rfl (im q4) W4 (app_run3 (x := .tmp 42) (y := .tmp 44) rfl (by kernel_rfl) (by kernel_rfl) hr4) (keeps_of (hK3.grown hg4 (Nat.le_trans (Nat.le_trans (Nat.le_trans (hle0) hg1.size) hg2.size) hg3.size) (fun k hk => (Option.some.inj hk) ▸ hn1)) HNE.out) (fun hHeld => ?_) rdy_nil
            simp only [Act.put, List.setIfInBounds_toArray, List.set_cons_succ, List.set_cons_zero]
            clear hr4
            have hqn4 : n0 ≤ q4.1 := Nat.le_trans (Nat.le_trans (Nat.le_trans (Nat.le_trans (hle0) hg1.size) hg2.size) hg3.size) hq4
            have hK4 := hK3.grown hg4 (Nat.le_trans (Nat.le_trans (Nat.le_trans (hle0) hg1.size) hg2.size) hg3.size) (fun k hk => (Option.some.inj hk) ▸ hn1)
            have hsz4 : W3.heap.size ≤ W4.heap.size := hg4.size
            have he2_3_4 := (hg4.block b2 (Array.getElem?_eq_some_iff.1 he2_3).1 (fun e => Nat.ne_of_gt (Nat.lt_of_lt_of_le (Nat.lt_of_lt_of_le hbl1 (Nat.le_refl _)) (Nat.le_of_eq hb2.symm)) (Option.some.inj e))).trans he2_3
            have he3_4 := (hg4.block b3 (Array.getElem?_eq_some_iff.1 he3).1 (fun e => Nat.ne_of_gt (Nat.lt_of_lt_of_le (Nat.lt_of_lt_of_le hbl1 (hsz2)) (Nat.le_of_eq hb3.symm)) (Option.some.inj e))).trans he3
            refine wpAnyH_ready (rs := [18]) (by kernel_rfl) (by simp) ?_
            obtain ⟨q5, W5, hr5, hi5, hq5, hqs5, hg5⟩ := cpy W4 b3 he3_4 ⟨sq, 0, none⟩ sc3 zs HZL.out (fun j u hj => HSrc.out W4 hK4 j u hj)
            refine rdy_val (i := 18) rfl rfl (some 49) rfl (im q5) W5 (app_run3 (x := .tmp 46) (y := .tmp 48) rfl (by kernel_rfl) (by kernel_rfl) hr5) (keeps_of (hK4.grown hg5 (Nat.le_trans (Nat.le_trans (Nat.le_trans (Nat.le_trans (hle0) hg1.size) hg2.size) hg3.size) hg4.size) (fun k hk => (Option.some.inj hk) ▸ hn3)) HNE.out) (fun hHeld => ?_) rdy_nil
            simp only [Act.put, List.setIfInBounds_toArray, List.set_cons_succ, List.set_cons_zero]
            clear hr5
            have hqn5 : n0 ≤ q5.1 := Nat.le_trans (Nat.le_trans (Nat.le_trans (Nat.le_trans (Nat.le_trans (hle0) hg1.size) hg2.size) hg3.size) hg4.size) hq5
            have hK5 := hK4.grown hg5 (Nat.le_trans (Nat.le_trans (Nat.le_trans (Nat.le_trans (hle0) hg1.size) hg2.size) hg3.size) hg4.size) (fun k hk => (Option.some.inj hk) ▸ hn3)
            have hsz5 : W4.heap.size ≤ W5.heap.size := hg5.size
            have he2_3_4_5 := (hg5.block b2 (Array.getElem?_eq_some_iff.1 he2_3_4).1 (fun e => Nat.ne_of_lt (Nat.lt_of_lt_of_le (Nat.lt_of_lt_of_le hbl2 (Nat.le_refl _)) (Nat.le_of_eq hb3.symm)) (Option.some.inj e))).trans he2_3_4
            have hi4_5 := im_grown hi4 hg5 (fun e => Nat.ne_of_gt (Nat.lt_of_lt_of_le (Nat.lt_of_lt_of_le hbl3 (Nat.le_refl _)) hq4) (Option.some.inj e))
            have hqs4_5 : q4.1 < W5.heap.size := Nat.lt_of_lt_of_le hqs4 hg5.size
            refine wpAnyH_ready (rs := [22]) (by kernel_rfl) (by simp) ?_
            obtain ⟨q6, W6, hr6, hi6, hq6, hqs6, hg6⟩ := cpy W5 b2 he2_3_4_5 ⟨sq, 0, none⟩ sc3 zs HZL.out (fun j u hj => HSrc.out W5 hK5 j u hj)
            refine rdy_val (i := 22) rfl rfl (some 53) rfl (im q6) W6 (app_run3 (x := .tmp 50) (y := .tmp 52) rfl (by kernel_rfl) (by kernel_rfl) hr6) (keeps_of (hK5.grown hg6 (Nat.le_trans (Nat.le_trans (Nat.le_trans (Nat.le_trans (Nat.le_trans (hle0) hg1.size) hg2.size) hg3.size) hg4.size) hg5.size) (fun k hk => (Option.some.inj hk) ▸ hn2)) HNE.out) (fun hHeld => ?_) rdy_nil
            simp only [Act.put, List.setIfInBounds_toArray, List.set_cons_succ, List.set_cons_zero]
            clear hr6
            have hqn6 : n0 ≤ q6.1 := Nat.le_trans (Nat.le_trans (Nat.le_trans (Nat.le_trans (Nat.le_trans (Nat.le_trans (hle0) hg1.size) hg2.size) hg3.size) hg4.size) hg5.size) hq6
            have hK6 := hK5.grown hg6 (Nat.le_trans (Nat.le_trans (Nat.le_trans (Nat.le_trans (Nat.le_trans (hle0) hg1.size) hg2.size) hg3.size) hg4.size) hg5.size) (fun k hk => (Option.some.inj hk) ▸ hn2)
            have hsz6 : W5.heap.size ≤ W6.heap.size := hg6.size
            have hi4_5_6 := im_grown hi4_5 hg6 (fun e => Nat.ne_of_gt (Nat.lt_of_lt_of_le (Nat.lt_of_lt_of_le hbl2 (hsz3)) hq4) (Option.some.inj e))
            have hqs4_5_6 : q4.1 < W6.heap.size := Nat.lt_of_lt_of_le hqs4_5 hg6.size
            have hi5_6 := im_grown hi5 hg6 (fun e => Nat.ne_of_gt (Nat.lt_of_lt_of_le (Nat.lt_of_lt_of_le hbl2 (Nat.le_trans (hsz3) hsz4)) hq5) (Option.some.inj e))
            have hqs5_6 : q5.1 < W6.heap.size := Nat.lt_of_lt_of_le hqs5 hg6.size
            refine drawn_take (i := 23) (v := .agg #[.slice (some ⟨sq, 0, none⟩) 128 sc3, im q4, im q5, im q6, .bool false]) (some 54) rfl rfl (by kernel_rfl) (by kernel_rfl) (by kernel_rfl) (fun _ _ _ h => h) (Or.inl ⟨by kernel_rfl, fun wq hw => by go_simp⟩) hHeld ?_
            simp only [Act.put, List.setIfInBounds_toArray, List.set_cons_succ, List.set_cons_zero]
            refine drawn_take (i := 24) (v := .pointer (some ⟨fg, j * 5, none⟩)) (some 55) rfl rfl (by kernel_rfl) (by kernel_rfl) (by kernel_rfl) (fun _ _ _ h => h) (Or.inl ⟨by kernel_rfl, fun wq hw => by go_simp⟩) hHeld ?_
            simp only [Act.put, List.setIfInBounds_toArray, List.set_cons_succ, List.set_cons_zero]
            refine wpAnyH_ready (rs := [25]) (by kernel_rfl) (by simp) ?_
            have hth : W6.there fg (j * 5) 5 := there_row (HRow.out W6 hK6) (by omega)
            refine rdy_unit (i := 25) rfl rfl none rfl (W6.setCells fg (j * 5) [.slice (some ⟨sq, 0, none⟩) 128 sc3, im q4, im q5, im q6, .bool false]) (st5_run (x := .tmp 55) (y := .tmp 54) rfl (by kernel_rfl) (by kernel_rfl) hth rfl rfl rfl rfl rfl) (keeps_setCells (keeps_of hK6 HNE.out)) (fun hHeld => ?_) rdy_nil
            simp only [Act.put]
            refine wpAnyH_done (by kernel_rfl) ?_ _
            refine NoPanic.normal ?_
            have hKeep := hHeld
            clear hHeld
            exact ⟨rfl, _, ⟨b1, b3, b2, q4, q5, q6, W6, rfl, rfl, hK6, hi4_5_6, hi5_6, hi6, hqn4, hqn5, hqn6, hqs4_5_6, hqs5_6, hqs6⟩, by kernel_rfl⟩
          refine rdy_val (i := 15) rfl rfl (some 46) rfl (.slice (some ⟨Wd.heap.size, 0, none⟩) 0 0) (Wd.alloc (.cells #[] 5)) (mk0_run rfl) (keeps_of (hK0.alloc (hle0) _) HNE.out) (fun hHeld => ?_) ?_
          · simp only [Act.put, List.setIfInBounds_toArray, List.set_cons_succ, List.set_cons_zero]
            have he1 := heap_alloc_new Wd (.cells #[] 5)
            have hg1 : Wd.grownBy (Wd.alloc (.cells #[] 5)) none := grown_alloc Wd _
            have hK1 := hK0.alloc (hle0) (.cells #[] 5)
            obtain ⟨b1, hb1⟩ : ∃ b, b = Wd.heap.size := ⟨_, rfl⟩
            obtain ⟨W1, hW1⟩ : ∃ W', W' = Wd.alloc (.cells #[] 5) := ⟨_, rfl⟩
            rw [← hW1] at hHeld hg1 hK1
            rw [← hb1, ← hW1] at he1
            rw [← hb1, ← hW1]
            have hn1 : n0 ≤ b1 := by rw [hb1]; exact hle0
            have hbl1 : b1 < W1.heap.size := (Array.getElem?_eq_some_iff.1 he1).1
            clear hW1
            have hsz1 : Wd.heap.size ≤ W1.heap.size := hg1.size
            refine wpAnyH_ready (rs := [11, 19]) (by kernel_rfl) (by simp) ?_
            refine rdy_val (i := 11) rfl rfl (some 42) rfl (.slice (some ⟨W1.heap.size, 0, none⟩) 0 0) (W1.alloc (.cells #[] 5)) (mk0_run rfl) (keeps_of (hK1.alloc (Nat.le_trans (hle0) hg1.size) _) HNE.out) (fun hHeld => ?_) ?_
            · simp only [Act.put, List.setIfInBounds_toArray, List.set_cons_succ, List.set_cons_zero]
              have he2 := heap_alloc_new W1 (.cells #[] 5)
              have hg2 : W1.grownBy (W1.alloc (.cells #[] 5)) none := grown_alloc W1 _
              have hK2 := hK1.alloc (Nat.le_trans (hle0) hg1.size) (.cells #[] 5)
              obtain ⟨b2, hb2⟩ : ∃ b, b = W1.heap.size := ⟨_, rfl⟩
              obtain ⟨W2, hW2⟩ : ∃ W', W' = W1.alloc (.cells #[] 5) := ⟨_, rfl⟩
              rw [← hW2] at hHeld hg2 hK2
              rw [← hb2, ← hW2] at he2
              rw [← hb2, ← hW2]
              have hn2 : n0 ≤ b2 := by rw [hb2]; exact Nat.le_trans (hle0) hg1.size
              have hbl2 : b2 < W2.heap.size := (Array.getElem?_eq_some_iff.1 he2).1
              clear hW2
              have hsz2 : W1.heap.size ≤ W2.heap.size := hg2.size
              have he1_2 := (hg2.block b1 (Array.getElem?_eq_some_iff.1 he1).1 (fun e => by cases e)).trans he1
              refine wpAnyH_ready (rs := [14, 19]) (by kernel_rfl) (by simp) ?_
              obtain ⟨q3, W3, hr3, hi3, hq3, hqs3, hg3⟩ := cpy W2 b2 he2 ⟨sq, 0, none⟩ sc3 zs HZL.out (fun j u hj => HSrc.out W2 hK2 j u hj)
              refine rdy_val (i := 14) rfl rfl (some 45) rfl (im q3) W3 (app_run3 (x := .tmp 42) (y := .tmp 44) rfl (by kernel_rfl) (by kernel_rfl) hr3) (keeps_of (hK2.grown hg3 (Nat.le_trans (Nat.le_trans (hle0) hg1.size) hg2.size) (fun k hk => (Option.some.inj hk) ▸ hn2)) HNE.out) (fun hHeld => ?_) ?_
              · simp only [Act.put, List.setIfInBounds_toArray, List.set_cons_succ, List.set_cons_zero]
                clear hr3
                have hqn3 : n0 ≤ q3.1 := Nat.le_trans (Nat.le_trans (Nat.le_trans (hle0) hg1.size) hg2.size) hq3
                have hK3 := hK2.grown hg3 (Nat.le_trans (Nat.le_trans (hle0) hg1.size) hg2.size) (fun k hk => (Option.some.inj hk) ▸ hn2)
                have hsz3 : W2.heap.size ≤ W3.heap.size := hg3.size
                have he1_2_3 := (hg3.block b1 (Array.getElem?_eq_some_iff.1 he1_2).1 (fun e => Nat.ne_of_lt (Nat.lt_of_lt_of_le (Nat.lt_of_lt_of_le hbl1 (Nat.le_refl _)) (Nat.le_of_eq hb2.symm)) (Option.some.inj e))).trans he1_2
                refine wpAnyH_ready (rs := [18, 19]) (by kernel_rfl) (by simp) ?_
                obtain ⟨q4, W4, hr4, hi4, hq4, hqs4, hg4⟩ := cpy W3 b1 he1_2_3 ⟨sq, 0, none⟩ sc3 zs HZL.out (fun j u hj => HSrc.out W3 hK3 j u hj)
                refine rdy_val (i := 18) rfl rfl (some 49) rfl (im q4) W4 (app_run3 (x := .tmp 46) (y := .tmp 48) rfl (by kernel_rfl) (by kernel_rfl) hr4) (keeps_of (hK3.grown hg4 (Nat.le_trans (Nat.le_trans (Nat.le_trans (hle0) hg1.size) hg2.size) hg3.size) (fun k hk => (Option.some.inj hk) ▸ hn1)) HNE.out) (fun hHeld => ?_) ?_
                · simp only [Act.put, List.setIfInBounds_toArray, List.set_cons_succ, List.set_cons_zero]
                  clear hr4
                  have hqn4 : n0 ≤ q4.1 := Nat.le_trans (Nat.le_trans (Nat.le_trans (Nat.le_trans (hle0) hg1.size) hg2.size) hg3.size) hq4
                  have hK4 := hK3.grown hg4 (Nat.le_trans (Nat.le_trans (Nat.le_trans (hle0) hg1.size) hg2.size) hg3.size) (fun k hk => (Option.some.inj hk) ▸ hn1)
                  have hsz4 : W3.heap.size ≤ W4.heap.size := hg4.size
                  have hi3_4 := im_grown hi3 hg4 (fun e => Nat.ne_of_gt (Nat.lt_of_lt_of_le (Nat.lt_of_lt_of_le hbl1 (hsz2)) hq3) (Option.some.inj e))
                  have hqs3_4 : q3.1 < W4.heap.size := Nat.lt_of_lt_of_le hqs3 hg4.size
                  refine wpAnyH_ready (rs := [19]) (by kernel_rfl) (by simp) ?_
                  refine rdy_val (i := 19) rfl rfl (some 50) rfl (.slice (some ⟨W4.heap.size, 0, none⟩) 0 0) (W4.alloc (.cells #[] 5)) (mk0_run rfl) (keeps_of (hK4.alloc (Nat.le_trans (Nat.le_trans (Nat.le_trans (Nat.le_trans (hle0) hg1.size) hg2.size) hg3.size) hg4.size) _) HNE.out) (fun hHeld => ?_) rdy_nil
                  simp only [Act.put, List.setIfInBounds_toArray, List.set_cons_succ, List.set_cons_zero]
                  have he5 := heap_alloc_new W4 (.cells #[] 5)
                  have hg5 : W4.grownBy (W4.alloc (.cells #[] 5)) none := grown_alloc W4 _
                  have hK5 := hK4.alloc (Nat.le_trans (Nat.le_trans (Nat.le_trans (Nat.le_trans (hle0) hg1.size) hg2.size) hg3.size) hg4.size) (.cells #[] 5)
                  obtain ⟨b5, hb5⟩ : ∃ b, b = W4.heap.size := ⟨_, rfl⟩
                  obtain ⟨W5, hW5⟩ : ∃ W', W' = W4.alloc (.cells #[] 5) := ⟨_, rfl⟩
                  rw [← hW5] at hHeld hg5 hK5
                  rw [← hb5, ← hW5] at he5
                  rw [← hb5, ← hW5]
                  have hn5 : n0 ≤ b5 := by rw [hb5]; exact Nat.le_trans (Nat.le_trans (Nat.le_trans (Nat.le_trans (hle0) hg1.size) hg2.size) hg3.size) hg4.size
                  have hbl5 : b5 < W5.heap.size := (Array.getElem?_eq_some_iff.1 he5).1
                  clear hW5
                  have hsz5 : W4.heap.size ≤ W5.heap.size := hg5.size
                  have hi3_4_5 := im_grown hi3_4 hg5 (fun e => by cases e)
                  have hqs3_4_5 : q3.1 < W5.heap.size := Nat.lt_of_lt_of_le hqs3_4 hg5.size
                  have hi4_5 := im_grown hi4 hg5 (fun e => by cases e)
                  have hqs4_5 : q4.1 < W5.heap.size := Nat.lt_of_lt_of_le hqs4 hg5.size
                  refine wpAnyH_ready (rs := [22]) (by kernel_rfl) (by simp) ?_
                  obtain ⟨q6, W6, hr6, hi6, hq6, hqs6, hg6⟩ := cpy W5 b5 he5 ⟨sq, 0, none⟩ sc3 zs HZL.out (fun j u hj => HSrc.out W5 hK5 j u hj)
                  refine rdy_val (i := 22) rfl rfl (some 53) rfl (im q6) W6 (app_run3 (x := .tmp 50) (y := .tmp 52) rfl (by kernel_rfl) (by kernel_rfl) hr6) (keeps_of (hK5.grown hg6 (Nat.le_trans (Nat.le_trans (Nat.le_trans (Nat.le_trans (Nat.le_trans (hle0) hg1.size) hg2.size) hg3.size) hg4.size) hg5.size) (fun k hk => (Option.some.inj hk) ▸ hn5)) HNE.out) (fun hHeld => ?_) rdy_nil
                  simp only [Act.put, List.setIfInBounds_toArray, List.set_cons_succ, List.set_cons_zero]
                  clear hr6
                  have hqn6 : n0 ≤ q6.1 := Nat.le_trans (Nat.le_trans (Nat.le_trans (Nat.le_trans (Nat.le_trans (Nat.le_trans (hle0) hg1.size) hg2.size) hg3.size) hg4.size) hg5.size) hq6
                  have hK6 := hK5.grown hg6 (Nat.le_trans (Nat.le_trans (Nat.le_trans (Nat.le_trans (Nat.le_trans (hle0) hg1.size) hg2.size) hg3.size) hg4.size) hg5.size) (fun k hk => (Option.some.inj hk) ▸ hn5)
                  have hsz6 : W5.heap.size ≤ W6.heap.size := hg6.size
                  have hi3_4_5_6 := im_grown hi3_4_5 hg6 (fun e => Nat.ne_of_lt (Nat.lt_of_lt_of_le (Nat.lt_of_lt_of_le hqs3 (hsz4)) (Nat.le_of_eq hb5.symm)) (Option.some.inj e))
                  have hqs3_4_5_6 : q3.1 < W6.heap.size := Nat.lt_of_lt_of_le hqs3_4_5 hg6.size
                  have hi4_5_6 := im_grown hi4_5 hg6 (fun e => Nat.ne_of_lt (Nat.lt_of_lt_of_le (Nat.lt_of_lt_of_le hqs4 (Nat.le_refl _)) (Nat.le_of_eq hb5.symm)) (Option.some.inj e))
                  have hqs4_5_6 : q4.1 < W6.heap.size := Nat.lt_of_lt_of_le hqs4_5 hg6.size
                  refine drawn_take (i := 23) (v := .agg #[.slice (some ⟨sq, 0, none⟩) 128 sc3, im q3, im q4, im q6, .bool false]) (some 54) rfl rfl (by kernel_rfl) (by kernel_rfl) (by kernel_rfl) (fun _ _ _ h => h) (Or.inl ⟨by kernel_rfl, fun wq hw => by go_simp⟩) hHeld ?_
                  simp only [Act.put, List.setIfInBounds_toArray, List.set_cons_succ, List.set_cons_zero]
                  refine drawn_take (i := 24) (v := .pointer (some ⟨fg, j * 5, none⟩)) (some 55) rfl rfl (by kernel_rfl) (by kernel_rfl) (by kernel_rfl) (fun _ _ _ h => h) (Or.inl ⟨by kernel_rfl, fun wq hw => by go_simp⟩) hHeld ?_
                  simp only [Act.put, List.setIfInBounds_toArray, List.set_cons_succ, List.set_cons_zero]
                  refine wpAnyH_ready (rs := [25]) (by kernel_rfl) (by simp) ?_
                  have hth : W6.there fg (j * 5) 5 := there_row (HRow.out W6 hK6) (by omega)
                  refine rdy_unit (i := 25) rfl rfl none rfl (W6.setCells fg (j * 5) [.slice (some ⟨sq, 0, none⟩) 128 sc3, im q3, im q4, im q6, .bool false]) (st5_run (x := .tmp 55) (y := .tmp 54) rfl (by kernel_rfl) (by kernel_rfl) hth rfl rfl rfl rfl rfl) (keeps_setCells (keeps_of hK6 HNE.out)) (fun hHeld => ?_) rdy_nil
                  simp only [Act.put]
                  refine wpAnyH_done (by kernel_rfl) ?_ _
                  refine NoPanic.normal ?_
                  have hKeep := hHeld
                  clear hHeld
                  exact ⟨rfl, _, ⟨b2, b1, b5, q3, q4, q6, W6, rfl, rfl, hK6, hi3_4_5_6, hi4_5_6, hi6, hqn3, hqn4, hqn6, hqs3_4_5_6, hqs4_5_6, hqs6⟩, by kernel_rfl⟩
                refine rdy_val (i := 19) rfl rfl (some 50) rfl (.slice (some ⟨W3.heap.size, 0, none⟩) 0 0) (W3.alloc (.cells #[] 5)) (mk0_run rfl) (keeps_of (hK3.alloc (Nat.le_trans (Nat.le_trans (Nat.le_trans (hle0) hg1.size) hg2.size) hg3.size) _) HNE.out) (fun hHeld => ?_) rdy_nil
                simp only [Act.put, List.setIfInBounds_toArray, List.set_cons_succ, List.set_cons_zero]
                have he4 := heap_alloc_new W3 (.cells #[] 5)
                have hg4 : W3.grownBy (W3.alloc (.cells #[] 5)) none := grown_alloc W3 _
                have hK4 := hK3.alloc (Nat.le_trans (Nat.le_trans (Nat.le_trans (hle0) hg1.size) hg2.size) hg3.size) (.cells #[] 5)
                obtain ⟨b4, hb4⟩ : ∃ b, b = W3.heap.size := ⟨_, rfl⟩
                obtain ⟨W4, hW4⟩ : ∃ W', W' = W3.alloc (.cells #[] 5) := ⟨_, rfl⟩
                rw [← hW4] at hHeld hg4 hK4
                rw [← hb4, ← hW4] at he4
                rw [← hb4, ← hW4]
                have hn4 : n0 ≤ b4 := by rw [hb4]; exact Nat.le_trans (Nat.le_trans (Nat.le_trans (hle0) hg1.size) hg2.size) hg3.size
                have hbl4 : b4 < W4.heap.size := (Array.getElem?_eq_some_iff.1 he4).1
                clear hW4
                have hsz4 : W3.heap.size ≤ W4.heap.size := hg4.size
                have he1_2_3_4 := (hg4.block b1 (Array.getElem?_eq_some_iff.1 he1_2_3).1 (fun e => by cases e)).trans he1_2_3
                have hi3_4 := im_grown hi3 hg4 (fun e => by cases e)
                have hqs3_4 : q3.1 < W4.heap.size := Nat.lt_of_lt_of_le hqs3 hg4.size
                refine wpAnyH_ready (rs := [18]) (by kernel_rfl) (by simp) ?_
                obtain ⟨q5, W5, hr5, hi5, hq5, hqs5, hg5⟩ := cpy W4 b1 he1_2_3_4 ⟨sq, 0, none⟩ sc3 zs HZL.out (fun j u hj => HSrc.out W4 hK4 j u hj)
                refine rdy_val (i := 18) rfl rfl (some 49) rfl (im q5) W5 (app_run3 (x := .tmp 46) (y := .tmp 48) rfl (by kernel_rfl) (by kernel_rfl) hr5) (keeps_of (hK4.grown hg5 (Nat.le_trans (Nat.le_trans (Nat.le_trans (Nat.le_trans (hle0) hg1.size) hg2.size) hg3.size) hg4.size) (fun k hk => (Option.some.inj hk) ▸ hn1)) HNE.out) (fun hHeld => ?_) rdy_nil
                simp only [Act.put, List.setIfInBounds_toArray, List.set_cons_succ, List.set_cons_zero]
                clear hr5
                have hqn5 : n0 ≤ q5.1 := Nat.le_trans (Nat.le_trans (Nat.le_trans (Nat.le_trans (Nat.le_trans (hle0) hg1.size) hg2.size) hg3.size) hg4.size) hq5
                have hK5 := hK4.grown hg5 (Nat.le_trans (Nat.le_trans (Nat.le_trans (Nat.le_trans (hle0) hg1.size) hg2.size) hg3.size) hg4.size) (fun k hk => (Option.some.inj hk) ▸ hn1)
                have hsz5 : W4.heap.size ≤ W5.heap.size := hg5.size
                have he4_5 := (hg5.block b4 (Array.getElem?_eq_some_iff.1 he4).1 (fun e => Nat.ne_of_gt (Nat.lt_of_lt_of_le (Nat.lt_of_lt_of_le hbl1 (Nat.le_trans (hsz2) hsz3)) (Nat.le_of_eq hb4.symm)) (Option.some.inj e))).trans he4
                have hi3_4_5 := im_grown hi3_4 hg5 (fun e => Nat.ne_of_gt (Nat.lt_of_lt_of_le (Nat.lt_of_lt_of_le hbl1 (hsz2)) hq3) (Option.some.inj e))
                have hqs3_4_5 : q3.1 < W5.heap.size := Nat.lt_of_lt_of_le hqs3_4 hg5.size
                refine wpAnyH_ready (rs := [22]) (by kernel_rfl) (by simp) ?_
                obtain ⟨q6, W6, hr6, hi6, hq6, hqs6, hg6⟩ := cpy W5 b4 he4_5 ⟨sq, 0, none⟩ sc3 zs HZL.out (fun j u hj => HSrc.out W5 hK5 j u hj)
                refine rdy_val (i := 22) rfl rfl (some 53) rfl (im q6) W6 (app_run3 (x := .tmp 50) (y := .tmp 52) rfl (by kernel_rfl) (by kernel_rfl) hr6) (keeps_of (hK5.grown hg6 (Nat.le_trans (Nat.le_trans (Nat.le_trans (Nat.le_trans (Nat.le_trans (hle0) hg1.size) hg2.size) hg3.size) hg4.size) hg5.size) (fun k hk => (Option.some.inj hk) ▸ hn4)) HNE.out) (fun hHeld => ?_) rdy_nil
                simp only [Act.put, List.setIfInBounds_toArray, List.set_cons_succ, List.set_cons_zero]
                clear hr6
                have hqn6 : n0 ≤ q6.1 := Nat.le_trans (Nat.le_trans (Nat.le_trans (Nat.le_trans (Nat.le_trans (Nat.le_trans (hle0) hg1.size) hg2.size) hg3.size) hg4.size) hg5.size) hq6
                have hK6 := hK5.grown hg6 (Nat.le_trans (Nat.le_trans (Nat.le_trans (Nat.le_trans (Nat.le_trans (hle0) hg1.size) hg2.size) hg3.size) hg4.size) hg5.size) (fun k hk => (Option.some.inj hk) ▸ hn4)
                have hsz6 : W5.heap.size ≤ W6.heap.size := hg6.size
                have hi3_4_5_6 := im_grown hi3_4_5 hg6 (fun e => Nat.ne_of_lt (Nat.lt_of_lt_of_le (Nat.lt_of_lt_of_le hqs3 (Nat.le_refl _)) (Nat.le_of_eq hb4.symm)) (Option.some.inj e))
                have hqs3_4_5_6 : q3.1 < W6.heap.size := Nat.lt_of_lt_of_le hqs3_4_5 hg6.size
                have hi5_6 := im_grown hi5 hg6 (fun e => Nat.ne_of_gt (Nat.lt_of_lt_of_le (Nat.lt_of_lt_of_le hbl4 (Nat.le_refl _)) hq5) (Option.some.inj e))
                have hqs5_6 : q5.1 < W6.heap.size := Nat.lt_of_lt_of_le hqs5 hg6.size
                refine drawn_take (i := 23) (v := .agg #[.slice (some ⟨sq, 0, none⟩) 128 sc3, im q3, im q5, im q6, .bool false]) (some 54) rfl rfl (by kernel_rfl) (by kernel_rfl) (by kernel_rfl) (fun _ _ _ h => h) (Or.inl ⟨by kernel_rfl, fun wq hw => by go_simp⟩) hHeld ?_
                simp only [Act.put, List.setIfInBounds_toArray, List.set_cons_succ, List.set_cons_zero]
                refine drawn_take (i := 24) (v := .pointer (some ⟨fg, j * 5, none⟩)) (some 55) rfl rfl (by kernel_rfl) (by kernel_rfl) (by kernel_rfl) (fun _ _ _ h => h) (Or.inl ⟨by kernel_rfl, fun wq hw => by go_simp⟩) hHeld ?_
                simp only [Act.put, List.setIfInBounds_toArray, List.set_cons_succ, List.set_cons_zero]
                refine wpAnyH_ready (rs := [25]) (by kernel_rfl) (by simp) ?_
                have hth : W6.there fg (j * 5) 5 := there_row (HRow.out W6 hK6) (by omega)
                refine rdy_unit (i := 25) rfl rfl none rfl (W6.setCells fg (j * 5) [.slice (some ⟨sq, 0, none⟩) 128 sc3, im q3, im q5, im q6, .bool false]) (st5_run (x := .tmp 55) (y := .tmp 54) rfl (by kernel_rfl) (by kernel_rfl) hth rfl rfl rfl rfl rfl) (keeps_setCells (keeps_of hK6 HNE.out)) (fun hHeld => ?_) rdy_nil
                simp only [Act.put]
                refine wpAnyH_done (by kernel_rfl) ?_ _
                refine NoPanic.normal ?_
                have hKeep := hHeld
                clear hHeld
                exact ⟨rfl, _, ⟨b2, b1, b4, q3, q5, q6, W6, rfl, rfl, hK6, hi3_4_5_6, hi5_6, hi6, hqn3, hqn5, hqn6, hqs3_4_5_6, hqs5_6, hqs6⟩, by kernel_rfl⟩
              refine rdy_val (i := 19) rfl rfl (some 50) rfl (.slice (some ⟨W2.heap.size, 0, none⟩) 0 0) (W2.alloc (.cells #[] 5)) (mk0_run rfl) (keeps_of (hK2.alloc (Nat.le_trans (Nat.le_trans (hle0) hg1.size) hg2.size) _) HNE.out) (fun hHeld => ?_) rdy_nil
              simp only [Act.put, List.setIfInBounds_toArray, List.set_cons_succ, List.set_cons_zero]
              have he3 := heap_alloc_new W2 (.cells #[] 5)
              have hg3 : W2.grownBy (W2.alloc (.cells #[] 5)) none := grown_alloc W2 _
              have hK3 := hK2.alloc (Nat.le_trans (Nat.le_trans (hle0) hg1.size) hg2.size) (.cells #[] 5)
              obtain ⟨b3, hb3⟩ : ∃ b, b = W2.heap.size := ⟨_, rfl⟩
              obtain ⟨W3, hW3⟩ : ∃ W', W' = W2.alloc (.cells #[] 5) := ⟨_, rfl⟩
              rw [← hW3] at hHeld hg3 hK3
              rw [← hb3, ← hW3] at he3
              rw [← hb3, ← hW3]
              have hn3 : n0 ≤ b3 := by rw [hb3]; exact Nat.le_trans (Nat.le_trans (hle0) hg1.size) hg2.size
              have hbl3 : b3 < W3.heap.size := (Array.getElem?_eq_some_iff.1 he3).1
              clear hW3
              have hsz3 : W2.heap.size ≤ W3.heap.size := hg3.size
              have he1_2_3 := (hg3.block b1 (Array.getElem?_eq_some_iff.1 he1_2).1 (fun e => by cases e)).trans he1_2
              have he2_3 := (hg3.block b2 (Array.getElem?_eq_some_iff.1 he2).1 (fun e => by cases e)).trans he2
              refine wpAnyH_ready (rs := [14]) (by kernel_rfl) (by simp) ?_
              obtain ⟨q4, W4, hr4, hi4, hq4, hqs4, hg4⟩ := cpy W3 b2 he2_3 ⟨sq, 0, none⟩ sc3 zs HZL.out (fun j u hj => HSrc.out W3 hK3 j u hj)
              refine rdy_val (i := 14) rfl rfl (some 45) rfl (im q4) W4 (app_run3 (x := .tmp 42) (y := .tmp 44) rfl (by kernel_rfl) (by kernel_rfl) hr4) (keeps_of (hK3.grown hg4 (Nat.le_trans (Nat.le_trans (Nat.le_trans (hle0) hg1.size) hg2.size) hg3.size) (fun k hk => (Option.some.inj hk) ▸ hn2)) HNE.out) (fun hHeld => ?_) rdy_nil
              simp only [Act.put, List.setIfInBounds_toArray, List.set_cons_succ, List.set_cons_zero]
              clear hr4
              have hqn4 : n0 ≤ q4.1 := Nat.le_trans (Nat.le_trans (Nat.le_trans (Nat.le_trans (hle0) hg1.size) hg2.size) hg3.size) hq4
              have hK4 := hK3.grown hg4 (Nat.le_trans (Nat.le_trans (Nat.le_trans (hle0) hg1.size) hg2.size) hg3.size) (fun k hk => (Option.some.inj hk) ▸ hn2)
              have hsz4 : W3.heap.size ≤ W4.heap.size := hg4.size
              have he1_2_3_4 := (hg4.block b1 (Array.getElem?_eq_some_iff.1 he1_2_3).1 (fun e => Nat.ne_of_lt (Nat.lt_of_lt_of_le (Nat.lt_of_lt_of_le hbl1 (Nat.le_refl _)) (Nat.le_of_eq hb2.symm)) (Option.some.inj e))).trans he1_2_3
              have he3_4 := (hg4.block b3 (Array.getElem?_eq_some_iff.1 he3).1 (fun e => Nat.ne_of_gt (Nat.lt_of_lt_of_le (Nat.lt_of_lt_of_le hbl2 (Nat.le_refl _)) (Nat.le_of_eq hb3.symm)) (Option.some.inj e))).trans he3
              refine wpAnyH_ready (rs := [18]) (by kernel_rfl) (by simp) ?_
              obtain ⟨q5, W5, hr5, hi5, hq5, hqs5, hg5⟩ := cpy W4 b1 he1_2_3_4 ⟨sq, 0, none⟩ sc3 zs HZL.out (fun j u hj => HSrc.out W4 hK4 j u hj)
              refine rdy_val (i := 18) rfl rfl (some 49) rfl (im q5) W5 (app_run3 (x := .tmp 46) (y := .tmp 48) rfl (by kernel_rfl) (by kernel_rfl) hr5) (keeps_of (hK4.grown hg5 (Nat.le_trans (Nat.le_trans (Nat.le_trans (Nat.le_trans (hle0) hg1.size) hg2.size) hg3.size) hg4.size) (fun k hk => (Option.some.inj hk) ▸ hn1)) HNE.out) (fun hHeld => ?_) rdy_nil
              simp only [Act.put, List.setIfInBounds_toArray, List.set_cons_succ, List.set_cons_zero]
              clear hr5
              have hqn5 : n0 ≤ q5.1 := Nat.le_trans (Nat.le_trans (Nat.le_trans (Nat.le_trans (Nat.le_trans (hle0) hg1.size) hg2.size) hg3.size) hg4.size) hq5
              have hK5 := hK4.grown hg5 (Nat.le_trans (Nat.le_trans (Nat.le_trans (Nat.le_trans (hle0) hg1.size) hg2.size) hg3.size) hg4.size) (fun k hk => (Option.some.inj hk) ▸ hn1)
              have hsz5 : W4.heap.size ≤ W5.heap.size := hg5.size
              have he3_4_5 := (hg5.block b3 (Array.getElem?_eq_some_iff.1 he3_4).1 (fun e => Nat.ne_of_gt (Nat.lt_of_lt_of_le (Nat.lt_of_lt_of_le hbl1 (hsz2)) (Nat.le_of_eq hb3.symm)) (Option.some.inj e))).trans he3_4
              have hi4_5 := im_grown hi4 hg5 (fun e => Nat.ne_of_gt (Nat.lt_of_lt_of_le (Nat.lt_of_lt_of_le hbl1 (Nat.le_trans (hsz2) hsz3)) hq4) (Option.some.inj e))
              have hqs4_5 : q4.1 < W5.heap.size := Nat.lt_of_lt_of_le hqs4 hg5.size
              refine wpAnyH_ready (rs := [22]) (by kernel_rfl) (by simp) ?_
              obtain ⟨q6, W6, hr6, hi6, hq6, hqs6, hg6⟩ := cpy W5 b3 he3_4_5 ⟨sq, 0, none⟩ sc3 zs HZL.out (fun j u hj => HSrc.out W5 hK5 j u hj)
              refine rdy_val (i := 22) rfl rfl (some 53) rfl (im q6) W6 (app_run3 (x := .tmp 50) (y := .tmp 52) rfl (by kernel_rfl) (by kernel_rfl) hr6) (keeps_of (hK5.grown hg6 (Nat.le_trans (Nat.le_trans (Nat.le_trans (Nat.le_trans (Nat.le_trans (hle0) hg1.size) hg2.size) hg3.size) hg4.size) hg5.size) (fun k hk => (Option.some.inj hk) ▸ hn3)) HNE.out) (fun hHeld => ?_) rdy_nil
              simp only [Act.put, List.setIfInBounds_toArray, List.set_cons_succ, List.set_cons_zero]
              clear hr6
              have hqn6 : n0 ≤ q6.1 := Nat.le_trans (Nat.le_trans (Nat.le_trans (Nat.le_trans (Nat.le_trans (Nat.le_trans (hle0) hg1.size) hg2.size) hg3.size) hg4.size) hg5.size) hq6
              have hK6 := hK5.grown hg6 (Nat.le_trans (Nat.le_trans (Nat.le_trans (Nat.le_trans (Nat.le_trans (hle0) hg1.size) hg2.size) hg3.size) hg4.size) hg5.size) (fun k hk => (Option.some.inj hk) ▸ hn3)
              have hsz6 : W5.heap.size ≤ W6.heap.size := hg6.size
              have hi4_5_6 := im_grown hi4_5 hg6 (fun e => Nat.ne_of_gt (Nat.lt_of_lt_of_le (Nat.lt_of_lt_of_le hbl3 (Nat.le_refl _)) hq4) (Option.some.inj e))
              have hqs4_5_6 : q4.1 < W6.heap.size := Nat.lt_of_lt_of_le hqs4_5 hg6.size
              have hi5_6 := im_grown hi5 hg6 (fun e => Nat.ne_of_gt (Nat.lt_of_lt_of_le (Nat.lt_of_lt_of_le hbl3 (hsz4)) hq5) (Option.some.inj e))
              have hqs5_6 : q5.1 < W6.heap.size := Nat.lt_of_lt_of_le hqs5 hg6.size
              refine drawn_take (i := 23) (v := .agg #[.slice (some ⟨sq, 0, none⟩) 128 sc3, im q4, im q5, im q6, .bool false]) (some 54) rfl rfl (by kernel_rfl) (by kernel_rfl) (by kernel_rfl) (fun _ _ _ h => h) (Or.inl ⟨by kernel_rfl, fun wq hw => by go_simp⟩) hHeld ?_
              simp only [Act.put, List.setIfInBounds_toArray, List.set_cons_succ, List.set_cons_zero]
              refine drawn_take (i := 24) (v := .pointer (some ⟨fg, j * 5, none⟩)) (some 55) rfl rfl (by kernel_rfl) (by kernel_rfl) (by kernel_rfl) (fun _ _ _ h => h) (Or.inl ⟨by kernel_rfl, fun wq hw => by go_simp⟩) hHeld ?_
              simp only [Act.put, List.setIfInBounds_toArray, List.set_cons_succ, List.set_cons_zero]
              refine wpAnyH_ready (rs := [25]) (by kernel_rfl) (by simp) ?_
              have hth : W6.there fg (j * 5) 5 := there_row (HRow.out W6 hK6) (by omega)
              refine rdy_unit (i := 25) rfl rfl none rfl (W6.setCells fg (j * 5) [.slice (some ⟨sq, 0, none⟩) 128 sc3, im q4, im q5, im q6, .bool false]) (st5_run (x := .tmp 55) (y := .tmp 54) rfl (by kernel_rfl) (by kernel_rfl) hth rfl rfl rfl rfl rfl) (keeps_setCells (keeps_of hK6 HNE.out)) (fun hHeld => ?_) rdy_nil
              simp only [Act.put]
              refine wpAnyH_done (by kernel_rfl) ?_ _
              refine NoPanic.normal ?_
              have hKeep := hHeld
              clear hHeld
              exact ⟨rfl, _, ⟨b2, b1, b3, q4, q5, q6, W6, rfl, rfl, hK6, hi4_5_6, hi5_6, hi6, hqn4, hqn5, hqn6, hqs4_5_6, hqs5_6, hqs6⟩, by kernel_rfl⟩
            refine rdy_val (i := 19) rfl rfl (some 50) rfl (.slice (some ⟨W1.heap.size, 0, none⟩) 0 0) (W1.alloc (.cells #[] 5)) (mk0_run rfl) (keeps_of (hK1.alloc (Nat.le_trans (hle0) hg1.size) _) HNE.out) (fun hHeld => ?_) rdy_nil
            simp only [Act.put, List.setIfInBounds_toArray, List.set_cons_succ, List.set_cons_zero]
            have he2 := heap_alloc_new W1 (.cells #[] 5)
            have hg2 : W1.grownBy (W1.alloc (.cells #[] 5)) none := grown_alloc W1 _
            have hK2 := hK1.alloc (Nat.le_trans (hle0) hg1.size) (.cells #[] 5)
            obtain ⟨b2, hb2⟩ : ∃ b, b = W1.heap.size := ⟨_, rfl⟩
            obtain ⟨W2, hW2⟩ : ∃ W', W' = W1.alloc (.cells #[] 5) := ⟨_, rfl⟩
            rw [← hW2] at hHeld hg2 hK2
            rw [← hb2, ← hW2] at he2
            rw [← hb2, ← hW2]
            have hn2 : n0 ≤ b2 := by rw [hb2]; exact Nat.le_trans (hle0) hg1.size
            have hbl2 : b2 < W2.heap.size := (Array.getElem?_eq_some_iff.1 he2).1
            clear hW2
            have hsz2 : W1.heap.size ≤ W2.heap.size := hg2.size
            have he1_2 := (hg2.block b1 (Array.getElem?_eq_some_iff.1 he1).1 (fun e => by cases e)).trans he1
            refine wpAnyH_ready (rs := [11]) (by kernel_rfl) (by simp) ?_
            refine rdy_val (i := 11) rfl rfl (some 42) rfl (.slice (some ⟨W2.heap.size, 0, none⟩) 0 0) (W2.alloc (.cells #[] 5)) (mk0_run rfl) (keeps_of (hK2.alloc (Nat.le_trans (Nat.le_trans (hle0) hg1.size) hg2.size) _) HNE.out) (fun hHeld => ?_) rdy_nil
            simp only [Act.put, List.setIfInBounds_toArray, List.set_cons_succ, List.set_cons_zero]
            have he3 := heap_alloc_new W2 (.cells #[] 5)
            have hg3 : W2.grownBy (W2.alloc (.cells #[] 5)) none := grown_alloc W2 _
            have hK3 := hK2.alloc (Nat.le_trans (Nat.le_trans (hle0) hg1.size) hg2.size) (.cells #[] 5)
            obtain ⟨b3, hb3⟩ : ∃ b, b = W2.heap.size := ⟨_, rfl⟩
            obtain ⟨W3, hW3⟩ : ∃ W', W' = W2.alloc (.cells #[] 5) := ⟨_, rfl⟩
            rw [← hW3] at hHeld hg3 hK3
            rw [← hb3, ← hW3] at he3
            rw [← hb3, ← hW3]
            have hn3 : n0 ≤ b3 := by rw [hb3]; exact Nat.le_trans (Nat.le_trans (hle0) hg1.size) hg2.size
            have hbl3 : b3 < W3.heap.size := (Array.getElem?_eq_some_iff.1 he3).1
            clear hW3
            have hsz3 : W2.heap.size ≤ W3.heap.size := hg3.size
            have he1_2_3 := (hg3.block b1 (Array.getElem?_eq_some_iff.1 he1_2).1 (fun e => by cases e)).trans he1_2
            have he2_3 := (hg3.block b2 (Array.getElem?_eq_some_iff.1 he2).1 (fun e => by cases e)).trans he2
            refine wpAnyH_ready (rs := [14]) (by kernel_rfl) (by simp) ?_
            obtain ⟨q4, W4, hr4, hi4, hq4, hqs4, hg4⟩ := cpy W3 b3 he3 ⟨sq, 0, none⟩ sc3 zs HZL.out (fun j u hj => HSrc.out W3 hK3 j u hj)
            refine rdy_val (i := 14) rfl rfl (some 45) rfl (im q4) W4 (app_run3 (x := .tmp 42) (y := .tmp 44) rfl (by kernel_rfl) (by kernel_rfl) hr4) (keeps_of (hK3.grown hg4 (Nat.le_trans (Nat.le_trans (Nat.le_trans (hle0) hg1.size) hg2.size) hg3.size) (fun k hk => (Option.some.inj hk) ▸ hn3)) HNE.out) (fun hHeld => ?_) rdy_nil
            simp only [Act.put, List.setIfInBounds_toArray, List.set_cons_succ, List.set_cons_zero]
            clear hr4
            have hqn4 : n0 ≤ q4.1 := Nat.le_trans (Nat.le_trans (Nat.le_trans (Nat.le_trans (hle0) hg1.size) hg2.size) hg3.size) hq4
            have hK4 := hK3.grown hg4 (Nat.le_trans (Nat.le_trans (Nat.le_trans (hle0) hg1.size) hg2.size) hg3.size) (fun k hk => (Option.some.inj hk) ▸ hn3)
            have hsz4 : W3.heap.size ≤ W4.heap.size := hg4.size
            have he1_2_3_4 := (hg4.block b1 (Array.getElem?_eq_some_iff.1 he1_2_3).1 (fun e => Nat.ne_of_lt (Nat.lt_of_lt_of_le (Nat.lt_of_lt_of_le hbl1 (hsz2)) (Nat.le_of_eq hb3.symm)) (Option.some.inj e))).trans he1_2_3
            have he2_3_4 := (hg4.block b2 (Array.getElem?_eq_some_iff.1 he2_3).1 (fun e => Nat.ne_of_lt (Nat.lt_of_lt_of_le (Nat.lt_of_lt_of_le hbl2 (Nat.le_refl _)) (Nat.le_of_eq hb3.symm)) (Option.some.inj e))).trans he2_3
            refine wpAnyH_ready (rs := [18]) (by kernel_rfl) (by simp) ?_
            obtain ⟨q5, W5, hr5, hi5, hq5, hqs5, hg5⟩ := cpy W4 b1 he1_2_3_4 ⟨sq, 0, none⟩ sc3 zs HZL.out (fun j u hj => HSrc.out W4 hK4 j u hj)
            refine rdy_val (i := 18) rfl rfl (some 49) rfl (im q5) W5 (app_run3 (x := .tmp 46) (y := .tmp 48) rfl (by kernel_rfl) (by kernel_rfl) hr5) (keeps_of (hK4.grown hg5 (Nat.le_trans (Nat.le_trans (Nat.le_trans (Nat.le_trans (hle0) hg1.size) hg2.size) hg3.size) hg4.size) (fun k hk => (Option.some.inj hk) ▸ hn1)) HNE.out) (fun hHeld => ?_) rdy_nil
            simp only [Act.put, List.setIfInBounds_toArray, List.set_cons_succ, List.set_cons_zero]
            clear hr5
            have hqn5 : n0 ≤ q5.1 := Nat.le_trans (Nat.le_trans (Nat.le_trans (Nat.le_trans (Nat.le_trans (hle0) hg1.size) hg2.size) hg3.size) hg4.size) hq5
            have hK5 := hK4.grown hg5 (Nat.le_trans (Nat.le_trans (Nat.le_trans (Nat.le_trans (hle0) hg1.size) hg2.size) hg3.size) hg4.size) (fun k hk => (Option.some.inj hk) ▸ hn1)
            have hsz5 : W4.heap.size ≤ W5.heap.size := hg5.size
            have he2_3_4_5 := (hg5.block b2 (Array.getElem?_eq_some_iff.1 he2_3_4).1 (fun e => Nat.ne_of_gt (Nat.lt_of_lt_of_le (Nat.lt_of_lt_of_le hbl1 (Nat.le_refl _)) (Nat.le_of_eq hb2.symm)) (Option.some.inj e))).trans he2_3_4
            have hi4_5 := im_grown hi4 hg5 (fun e => Nat.ne_of_gt (Nat.lt_of_lt_of_le (Nat.lt_of_lt_of_le hbl1 (Nat.le_trans (hsz2) hsz3)) hq4) (Option.some.inj e))
            have hqs4_5 : q4.1 < W5.heap.size := Nat.lt_of_lt_of_le hqs4 hg5.size
            refine wpAnyH_ready (rs := [22]) (by kernel_rfl) (by simp) ?_
            obtain ⟨q6, W6, hr6, hi6, hq6, hqs6, hg6⟩ := cpy W5 b2 he2_3_4_5 ⟨sq, 0, none⟩ sc3 zs HZL.out (fun j u hj => HSrc.out W5 hK5 j u hj)
            refine rdy_val (i := 22) rfl rfl (some 53) rfl (im q6) W6 (app_run3 (x := .tmp 50) (y := .tmp 52) rfl (by kernel_rfl) (by kernel_rfl) hr6) (keeps_of (hK5.grown hg6 (Nat.le_trans (Nat.le_trans (Nat.le_trans (Nat.le_trans (Nat.le_trans (hle0) hg1.size) hg2.size) hg3.size) hg4.size) hg5.size) (fun k hk => (Option.some.inj hk) ▸ hn2)) HNE.out) (fun hHeld => ?_) rdy_nil
            simp only [Act.put, List.setIfInBounds_toArray, List.set_cons_succ, List.set_cons_zero]
            clear hr6
            have hqn6 : n0 ≤ q6.1 := Nat.le_trans (Nat.le_trans (Nat.le_trans (Nat.le_trans (Nat.le_trans (Nat.le_trans (hle0) hg1.size) hg2.size) hg3.size) hg4.size) hg5.size) hq6
            have hK6 := hK5.grown hg6 (Nat.le_trans (Nat.le_trans (Nat.le_trans (Nat.le_trans (Nat.le_trans (hle0) hg1.size) hg2.size) hg3.size) hg4.size) hg5.size) (fun k hk => (Option.some.inj hk) ▸ hn2)
            have hsz6 : W5.heap.size ≤ W6.heap.size := hg6.size
            have hi4_5_6 := im_grown hi4_5 hg6 (fun e => Nat.ne_of_gt (Nat.lt_of_lt_of_le (Nat.lt_of_lt_of_le hbl2 (hsz3)) hq4) (Option.some.inj e))
            have hqs4_5_6 : q4.1 < W6.heap.size := Nat.lt_of_lt_of_le hqs4_5 hg6.size
            have hi5_6 := im_grown hi5 hg6 (fun e => Nat.ne_of_gt (Nat.lt_of_lt_of_le (Nat.lt_of_lt_of_le hbl2 (Nat.le_trans (hsz3) hsz4)) hq5) (Option.some.inj e))
            have hqs5_6 : q5.1 < W6.heap.size := Nat.lt_of_lt_of_le hqs5 hg6.size
            refine drawn_take (i := 23) (v := .agg #[.slice (some ⟨sq, 0, none⟩) 128 sc3, im q4, im q5, im q6, .bool false]) (some 54) rfl rfl (by kernel_rfl) (by kernel_rfl) (by kernel_rfl) (fun _ _ _ h => h) (Or.inl ⟨by kernel_rfl, fun wq hw => by go_simp⟩) hHeld ?_
            simp only [Act.put, List.setIfInBounds_toArray, List.set_cons_succ, List.set_cons_zero]
            refine drawn_take (i := 24) (v := .pointer (some ⟨fg, j * 5, none⟩)) (some 55) rfl rfl (by kernel_rfl) (by kernel_rfl) (by kernel_rfl) (fun _ _ _ h => h) (Or.inl ⟨by kernel_rfl, fun wq hw => by go_simp⟩) hHeld ?_
            simp only [Act.put, List.setIfInBounds_toArray, List.set_cons_succ, List.set_cons_zero]
            refine wpAnyH_ready (rs := [25]) (by kernel_rfl) (by simp) ?_
            have hth : W6.there fg (j * 5) 5 := there_row (HRow.out W6 hK6) (by omega)
            refine rdy_unit (i := 25) rfl rfl none rfl (W6.setCells fg (j * 5) [.slice (some ⟨sq, 0, none⟩) 128 sc3, im q4, im q5, im q6, .bool false]) (st5_run (x := .tmp 55) (y := .tmp 54) rfl (by kernel_rfl) (by kernel_rfl) hth rfl rfl rfl rfl rfl) (keeps_setCells (keeps_of hK6 HNE.out)) (fun hHeld => ?_) rdy_nil
            simp only [Act.put]
            refine wpAnyH_done (by kernel_rfl) ?_ _
            refine NoPanic.normal ?_
            have hKeep := hHeld
            clear hHeld
            exact ⟨rfl, _, ⟨b3, b1, b2, q4, q5, q6, W6, rfl, rfl, hK6, hi4_5_6, hi5_6, hi6, hqn4, hqn5, hqn6, hqs4_5_6, hqs5_6, hqs6⟩, by kernel_rfl⟩
          refine rdy_val (i := 19) rfl rfl (some 50) rfl (.slice (some ⟨Wd.heap.size, 0, none⟩) 0 0) (Wd.alloc (.cells #[] 5)) (mk0_run rfl) (keeps_of (hK0.alloc (hle0) _) HNE.out) (fun hHeld => ?_) rdy_nil
          simp only [Act.put, List.setIfInBounds_toArray, List.set_cons_succ, List.set_cons_zero]
          have he1 := heap_alloc_new Wd (.cells #[] 5)
          have hg1 : Wd.grownBy (Wd.alloc (.cells #[] 5)) none := grown_alloc Wd _
          have hK1 := hK0.alloc (hle0) (.cells #[] 5)
          obtain ⟨b1, hb1⟩ : ∃ b, b = Wd.heap.size := ⟨_, rfl⟩
          obtain ⟨W1, hW1⟩ : ∃ W', W' = Wd.alloc (.cells #[] 5) := ⟨_, rfl⟩
          rw [← hW1] at hHeld hg1 hK1
          rw [← hb1, ← hW1] at he1
          rw [← hb1, ← hW1]
          have hn1 : n0 ≤ b1 := by rw [hb1]; exact hle0
          have hbl1 : b1 < W1.heap.size := (Array.getElem?_eq_some_iff.1 he1).1
          clear hW1
          have hsz1 : Wd.heap.size ≤ W1.heap.size := hg1.size
          refine wpAnyH_ready (rs := [11, 15]) (by kernel_rfl) (by simp) ?_
          refine rdy_val (i := 11) rfl rfl (some 42) rfl (.slice (some ⟨W1.heap.size, 0, none⟩) 0 0) (W1.alloc (.cells #[] 5)) (mk0_run rfl) (keeps_of (hK1.alloc (Nat.le_trans (hle0) hg1.size) _) HNE.out) (fun hHeld => ?_) ?_
          · simp only [Act.put, List.setIfInBounds_toArray, List.set_cons_succ, List.set_cons_zero]
            have he2 := heap_alloc_new W1 (.cells #[] 5)
            have hg2 : W1.grownBy (W1.alloc (.cells #[] 5)) none := grown_alloc W1 _
            have hK2 := hK1.alloc (Nat.le_trans (hle0) hg1.size) (.cells #[] 5)
            obtain ⟨b2, hb2⟩ : ∃ b, b = W1.heap.size := ⟨_, rfl⟩
            obtain ⟨W2, hW2⟩ : ∃ W', W' = W1.alloc (.cells #[] 5) := ⟨_, rfl⟩
            rw [← hW2] at hHeld hg2 hK2
            rw [← hb2, ← hW2] at he2
            rw [← hb2, ← hW2]
            have hn2 : n0 ≤ b2 := by rw [hb2]; exact Nat.le_trans (hle0) hg1.size
            have hbl2 : b2 < W2.heap.size := (Array.getElem?_eq_some_iff.1 he2).1
            clear hW2
            have hsz2 : W1.heap.size ≤ W2.heap.size := hg2.size
            have he1_2 := (hg2.block b1 (Array.getElem?_eq_some_iff.1 he1).1 (fun e => by cases e)).trans he1
            refine wpAnyH_ready (rs := [14, 15]) (by kernel_rfl) (by simp) ?_
            obtain ⟨q3, W3, hr3, hi3, hq3, hqs3, hg3⟩ := cpy W2 b2 he2 ⟨sq, 0, none⟩ sc3 zs HZL.out (fun j u hj => HSrc.out W2 hK2 j u hj)
            refine rdy_val (i := 14) rfl rfl (some 45) rfl (im q3) W3 (app_run3 (x := .tmp 42) (y := .tmp 44) rfl (by kernel_rfl) (by kernel_rfl) hr3) (keeps_of (hK2.grown hg3 (Nat.le_trans (Nat.le_trans (hle0) hg1.size) hg2.size) (fun k hk => (Option.some.inj hk) ▸ hn2)) HNE.out) (fun hHeld => ?_) ?_
            · simp only [Act.put, List.setIfInBounds_toArray, List.set_cons_succ, List.set_cons_zero]
              clear hr3
              have hqn3 : n0 ≤ q3.1 := Nat.le_trans (Nat.le_trans (Nat.le_trans (hle0) hg1.size) hg2.size) hq3
              have hK3 := hK2.grown hg3 (Nat.le_trans (Nat.le_trans (hle0) hg1.size) hg2.size) (fun k hk => (Option.some.inj hk) ▸ hn2)
              have hsz3 : W2.heap.size ≤ W3.heap.size := hg3.size
              have he1_2_3 := (hg3.block b1 (Array.getElem?_eq_some_iff.1 he1_2).1 (fun e => Nat.ne_of_lt (Nat.lt_of_lt_of_le (Nat.lt_of_lt_of_le hbl1 (Nat.le_refl _)) (Nat.le_of_eq hb2.symm)) (Option.some.inj e))).trans he1_2
              refine wpAnyH_ready (rs := [15]) (by kernel_rfl) (by simp) ?_
              refine rdy_val (i := 15) rfl rfl (some 46) rfl (.slice (some ⟨W3.heap.size, 0, none⟩) 0 0) (W3.alloc (.cells #[] 5)) (mk0_run rfl) (keeps_of (hK3.alloc (Nat.le_trans (Nat.le_trans (Nat.le_trans (hle0) hg1.size) hg2.size) hg3.size) _) HNE.out) (fun hHeld => ?_) rdy_nil
              simp only [Act.put, List.setIfInBounds_toArray, List.set_cons_succ, List.set_cons_zero]
              have he4 := heap_alloc_new W3 (.cells #[] 5)
              have hg4 : W3.grownBy (W3.alloc (.cells #[] 5)) none := grown_alloc W3 _
              have hK4 := hK3.alloc (Nat.le_trans (Nat.le_trans (Nat.le_trans (hle0) hg1.size) hg2.size) hg3.size) (.cells #[] 5)
              obtain ⟨b4, hb4⟩ : ∃ b, b = W3.heap.size := ⟨_, rfl⟩
              obtain ⟨W4, hW4⟩ : ∃ W', W' = W3.alloc (.cells #[] 5) := ⟨_, rfl⟩
              rw [← hW4] at hHeld hg4 hK4
              rw [← hb4, ← hW4] at he4
              rw [← hb4, ← hW4]
              have hn4 : n0 ≤ b4 := by rw [hb4]; exact Nat.le_trans (Nat.le_trans (Nat.le_trans (hle0) hg1.size) hg2.size) hg3.size
              have hbl4 : b4 < W4.heap.size := (Array.getElem?_eq_some_iff.1 he4).1
              clear hW4
              have hsz4 : W3.heap.size ≤ W4.heap.size := hg4.size
              have he1_2_3_4 := (hg4.block b1 (Array.getElem?_eq_some_iff.1 he1_2_3).1 (fun e => by cases e)).trans he1_2_3
              have hi3_4 := im_grown hi3 hg4 (fun e => by cases e)
              have hqs3_4 : q3.1 < W4.heap.size := Nat.lt_of_lt_of_le hqs3 hg4.size
              refine wpAnyH_ready (rs := [18]) (by kernel_rfl) (by simp) ?_
              obtain ⟨q5, W5, hr5, hi5, hq5, hqs5, hg5⟩ := cpy W4 b4 he4 ⟨sq, 0, none⟩ sc3 zs HZL.out (fun j u hj => HSrc.out W4 hK4 j u hj)
              refine rdy_val (i := 18) rfl rfl (some 49) rfl (im q5) W5 (app_run3 (x := .tmp 46) (y := .tmp 48) rfl (by kernel_rfl) (by kernel_rfl) hr5) (keeps_of (hK4.grown hg5 (Nat.le_trans (Nat.le_trans (Nat.le_trans (Nat.le_trans (hle0) hg1.size) hg2.size) hg3.size) hg4.size) (fun k hk => (Option.some.inj hk) ▸ hn4)) HNE.out) (fun hHeld => ?_) rdy_nil
              simp only [Act.put, List.setIfInBounds_toArray, List.set_cons_succ, List.set_cons_zero]
              clear hr5
              have hqn5 : n0 ≤ q5.1 := Nat.le_trans (Nat.le_trans (Nat.le_trans (Nat.le_trans (Nat.le_trans (hle0) hg1.size) hg2.size) hg3.size) hg4.size) hq5
              have hK5 := hK4.grown hg5 (Nat.le_trans (Nat.le_trans (Nat.le_trans (Nat.le_trans (hle0) hg1.size) hg2.size) hg3.size) hg4.size) (fun k hk => (Option.some.inj hk) ▸ hn4)
              have hsz5 : W4.heap.size ≤ W5.heap.size := hg5.size
              have he1_2_3_4_5 := (hg5.block b1 (Array.getElem?_eq_some_iff.1 he1_2_3_4).1 (fun e => Nat.ne_of_lt (Nat.lt_of_lt_of_le (Nat.lt_of_lt_of_le hbl1 (Nat.le_trans (hsz2) hsz3)) (Nat.le_of_eq hb4.symm)) (Option.some.inj e))).trans he1_2_3_4
              have hi3_4_5 := im_grown hi3_4 hg5 (fun e => Nat.ne_of_lt (Nat.lt_of_lt_of_le (Nat.lt_of_lt_of_le hqs3 (Nat.le_refl _)) (Nat.le_of_eq hb4.symm)) (Option.some.inj e))
              have hqs3_4_5 : q3.1 < W5.heap.size := Nat.lt_of_lt_of_le hqs3_4 hg5.size
              refine wpAnyH_ready (rs := [22]) (by kernel_rfl) (by simp) ?_
              obtain ⟨q6, W6, hr6, hi6, hq6, hqs6, hg6⟩ := cpy W5 b1 he1_2_3_4_5 ⟨sq, 0, none⟩ sc3 zs HZL.out (fun j u hj => HSrc.out W5 hK5 j u hj)
              refine rdy_val (i := 22) rfl rfl (some 53) rfl (im q6) W6 (app_run3 (x := .tmp 50) (y := .tmp 52) rfl (by kernel_rfl) (by kernel_rfl) hr6) (keeps_of (hK5.grown hg6 (Nat.le_trans (Nat.le_trans (Nat.le_trans (Nat.le_trans (Nat.le_trans (hle0) hg1.size) hg2.size) hg3.size) hg4.size) hg5.size) (fun k hk => (Option.some.inj hk) ▸ hn1)) HNE.out) (fun hHeld => ?_) rdy_nil
              simp only [Act.put, List.setIfInBounds_toArray, List.set_cons_succ, List.set_cons_zero]
              clear hr6
              have hqn6 : n0 ≤ q6.1 := Nat.le_trans (Nat.le_trans (Nat.le_trans (Nat.le_trans (Nat.le_trans (Nat.le_trans (hle0) hg1.size) hg2.size) hg3.size) hg4.size) hg5.size) hq6
              have hK6 := hK5.grown hg6 (Nat.le_trans (Nat.le_trans (Nat.le_trans (Nat.le_trans (Nat.le_trans (hle0) hg1.size) hg2.size) hg3.size) hg4.size) hg5.size) (fun k hk => (Option.some.inj hk) ▸ hn1)
              have hsz6 : W5.heap.size ≤ W6.heap.size := hg6.size
              have hi3_4_5_6 := im_grown hi3_4_5 hg6 (fun e => Nat.ne_of_gt (Nat.lt_of_lt_of_le (Nat.lt_of_lt_of_le hbl1 (hsz2)) hq3) (Option.some.inj e))
              have hqs3_4_5_6 : q3.1 < W6.heap.size := Nat.lt_of_lt_of_le hqs3_4_5 hg6.size
              have hi5_6 := im_grown hi5 hg6 (fun e => Nat.ne_of_gt (Nat.lt_of_lt_of_le (Nat.lt_of_lt_of_le hbl1 (Nat.le_trans (Nat.le_trans (hsz2) hsz3) hsz4)) hq5) (Option.some.inj e))
              have hqs5_6 : q5.1 < W6.heap.size := Nat.lt_of_lt_of_le hqs5 hg6.size
              refine drawn_take (i := 23) (v := .agg #[.slice (some ⟨sq, 0, none⟩) 128 sc3, im q3, im q5, im q6, .bool false]) (some 54) rfl rfl (by kernel_rfl) (by kernel_rfl) (by kernel_rfl) (fun _ _ _ h => h) (Or.inl ⟨by kernel_rfl, fun wq hw => by go_simp⟩) hHeld ?_
              simp only [Act.put, List.setIfInBounds_toArray, List.set_cons_succ, List.set_cons_zero]
              refine drawn_take (i := 24) (v := .pointer (some ⟨fg, j * 5, none⟩)) (some 55) rfl rfl (by kernel_rfl) (by kernel_rfl) (by kernel_rfl) (fun _ _ _ h => h) (Or.inl ⟨by kernel_rfl, fun wq hw => by go_simp⟩) hHeld ?_
              simp only [Act.put, List.setIfInBounds_toArray, List.set_cons_succ, List.set_cons_zero]
              refine wpAnyH_ready (rs := [25]) (by kernel_rfl) (by simp) ?_
              have hth : W6.there fg (j * 5) 5 := there_row (HRow.out W6 hK6) (by omega)
              refine rdy_unit (i := 25) rfl rfl none rfl (W6.setCells fg (j * 5) [.slice (some ⟨sq, 0, none⟩) 128 sc3, im q3, im q5, im q6, .bool false]) (st5_run (x := .tmp 55) (y := .tmp 54) rfl (by kernel_rfl) (by kernel_rfl) hth rfl rfl rfl rfl rfl) (keeps_setCells (keeps_of hK6 HNE.out)) (fun hHeld => ?_) rdy_nil
              simp only [Act.put]
              refine wpAnyH_done (by kernel_rfl) ?_ _
              refine NoPanic.normal ?_
              have hKeep := hHeld
              clear hHeld
              exact ⟨rfl, _, ⟨b2, b4, b1, q3, q5, q6, W6, rfl, rfl, hK6, hi3_4_5_6, hi5_6, hi6, hqn3, hqn5, hqn6, hqs3_4_5_6, hqs5_6, hqs6⟩, by kernel_rfl⟩
            refine rdy_val (i := 15) rfl rfl (some 46) rfl (.slice (some ⟨W2.heap.size, 0, none⟩) 0 0) (W2.alloc (.cells #[] 5)) (mk0_run rfl) (keeps_of (hK2.alloc (Nat.le_trans (Nat.le_trans (hle0) hg1.size) hg2.size) _) HNE.out) (fun hHeld => ?_) rdy_nil
            simp only [Act.put, List.setIfInBounds_toArray, List.set_cons_succ, List.set_cons_zero]
            have he3 := heap_alloc_new W2 (.cells #[] 5)
            have hg3 : W2.grownBy (W2.alloc (.cells #[] 5)) none := grown_alloc W2 _
            have hK3 := hK2.alloc (Nat.le_trans (Nat.le_trans (hle0) hg1.size) hg2.size) (.cells #[] 5)
            obtain ⟨b3, hb3⟩ : ∃ b, b = W2.heap.size := ⟨_, rfl⟩
            obtain ⟨W3, hW3⟩ : ∃ W', W' = W2.alloc (.cells #[] 5) := ⟨_, rfl⟩
            rw [← hW3] at hHeld hg3 hK3
            rw [← hb3, ← hW3] at he3
            rw [← hb3, ← hW3]
            have hn3 : n0 ≤ b3 := by rw [hb3]; exact Nat.le_trans (Nat.le_trans (hle0) hg1.size) hg2.size
            have hbl3 : b3 < W3.heap.size := (Array.getElem?_eq_some_iff.1 he3).1
            clear hW3
            have hsz3 : W2.heap.size ≤ W3.heap.size := hg3.size
            have he1_2_3 := (hg3.block b1 (Array.getElem?_eq_some_iff.1 he1_2).1 (fun e => by cases e)).trans he1_2
            have he2_3 := (hg3.block b2 (Array.getElem?_eq_some_iff.1 he2).1 (fun e => by cases e)).trans he2
            refine wpAnyH_ready (rs := [14]) (by kernel_rfl) (by simp) ?_
            obtain ⟨q4, W4, hr4, hi4, hq4, hqs4, hg4⟩ := cpy W3 b2 he2_3 ⟨sq, 0, none⟩ sc3 zs HZL.out (fun j u hj => HSrc.out W3 hK3 j u hj)
            refine rdy_val (i := 14) rfl rfl (some 45) rfl (im q4) W4 (app_run3 (x := .tmp 42) (y := .tmp 44) rfl (by kernel_rfl) (by kernel_rfl) hr4) (keeps_of (hK3.grown hg4 (Nat.le_trans (Nat.le_trans (Nat.le_trans (hle0) hg1.size) hg2.size) hg3.size) (fun k hk => (Option.some.inj hk) ▸ hn2)) HNE.out) (fun hHeld => ?_) rdy_nil
            simp only [Act.put, List.setIfInBounds_toArray, List.set_cons_succ, List.set_cons_zero]
            clear hr4
            have hqn4 : n0 ≤ q4.1 := Nat.le_trans (Nat.le_trans (Nat.le_trans (Nat.le_trans (hle0) hg1.size) hg2.size) hg3.size) hq4
            have hK4 := hK3.grown hg4 (Nat.le_trans (Nat.le_trans (Nat.le_trans (hle0) hg1.size) hg2.size) hg3.size) (fun k hk => (Option.some.inj hk) ▸ hn2)
            have hsz4 : W3.heap.size ≤ W4.heap.size := hg4.size
            have he1_2_3_4 := (hg4.block b1 (Array.getElem?_eq_some_iff.1 he1_2_3).1 (fun e => Nat.ne_of_lt (Nat.lt_of_lt_of_le (Nat.lt_of_lt_of_le hbl1 (Nat.le_refl _)) (Nat.le_of_eq hb2.symm)) (Option.some.inj e))).trans he1_2_3
            have he3_4 := (hg4.block b3 (Array.getElem?_eq_some_iff.1 he3).1 (fun e => Nat.ne_of_gt (Nat.lt_of_lt_of_le (Nat.lt_of_lt_of_le hbl2 (Nat.le_refl _)) (Nat.le_of_eq hb3.symm)) (Option.some.inj e))).trans he3
            refine wpAnyH_ready (rs := [18]) (by kernel_rfl) (by simp) ?_
            obtain ⟨q5, W5, hr5, hi5, hq5, hqs5, hg5⟩ := cpy W4 b3 he3_4 ⟨sq, 0, none⟩ sc3 zs HZL.out (fun j u hj => HSrc.out W4 hK4 j u hj)
            refine rdy_val (i := 18) rfl rfl (some 49) rfl (im q5) W5 (app_run3 (x := .tmp 46) (y := .tmp 48) rfl (by kernel_rfl) (by kernel_rfl) hr5) (keeps_of (hK4.grown hg5 (Nat.le_trans (Nat.le_trans (Nat.le_trans (Nat.le_trans (hle0) hg1.size) hg2.size) hg3.size) hg4.size) (fun k hk => (Option.some.inj hk) ▸ hn3)) HNE.out) (fun hHeld => ?_) rdy_nil
            simp only [Act.put, List.setIfInBounds_toArray, List.set_cons_succ, List.set_cons_zero]
            clear hr5
            have hqn5 : n0 ≤ q5.1 := Nat.le_trans (Nat.le_trans (Nat.le_trans (Nat.le_trans (Nat.le_trans (hle0) hg1.size) hg2.size) hg3.size) hg4.size) hq5
            have hK5 := hK4.grown hg5 (Nat.le_trans (Nat.le_trans (Nat.le_trans (Nat.le_trans (hle0) hg1.size) hg2.size) hg3.size) hg4.size) (fun k hk => (Option.some.inj hk) ▸ hn3)
            have hsz5 : W4.heap.size ≤ W5.heap.size := hg5.size
            have he1_2_3_4_5 := (hg5.block b1 (Array.getElem?_eq_some_iff.1 he1_2_3_4).1 (fun e => Nat.ne_of_lt (Nat.lt_of_lt_of_le (Nat.lt_of_lt_of_le hbl1 (hsz2)) (Nat.le_of_eq hb3.symm)) (Option.some.inj e))).trans he1_2_3_4
            have hi4_5 := im_grown hi4 hg5 (fun e => Nat.ne_of_gt (Nat.lt_of_lt_of_le (Nat.lt_of_lt_of_le hbl3 (Nat.le_refl _)) hq4) (Option.some.inj e))
            have hqs4_5 : q4.1 < W5.heap.size := Nat.lt_of_lt_of_le hqs4 hg5.size
            refine wpAnyH_ready (rs := [22]) (by kernel_rfl) (by simp) ?_
            obtain ⟨q6, W6, hr6, hi6, hq6, hqs6, hg6⟩ := cpy W5 b1 he1_2_3_4_5 ⟨sq, 0, none⟩ sc3 zs HZL.out (fun j u hj => HSrc.out W5 hK5 j u hj)
            refine rdy_val (i := 22) rfl rfl (some 53) rfl (im q6) W6 (app_run3 (x := .tmp 50) (y := .tmp 52) rfl (by kernel_rfl) (by kernel_rfl) hr6) (keeps_of (hK5.grown hg6 (Nat.le_trans (Nat.le_trans (Nat.le_trans (Nat.le_trans (Nat.le_trans (hle0) hg1.size) hg2.size) hg3.size) hg4.size) hg5.size) (fun k hk => (Option.some.inj hk) ▸ hn1)) HNE.out) (fun hHeld => ?_) rdy_nil
            simp only [Act.put, List.setIfInBounds_toArray, List.set_cons_succ, List.set_cons_zero]
            clear hr6
            have hqn6 : n0 ≤ q6.1 := Nat.le_trans (Nat.le_trans (Nat.le_trans (Nat.le_trans (Nat.le_trans (Nat.le_trans (hle0) hg1.size) hg2.size) hg3.size) hg4.size) hg5.size) hq6
            have hK6 := hK5.grown hg6 (Nat.le_trans (Nat.le_trans (Nat.le_trans (Nat.le_trans (Nat.le_trans (hle0) hg1.size) hg2.size) hg3.size) hg4.size) hg5.size) (fun k hk => (Option.some.inj hk) ▸ hn1)
            have hsz6 : W5.heap.size ≤ W6.heap.size := hg6.size
            have hi4_5_6 := im_grown hi4_5 hg6 (fun e => Nat.ne_of_gt (Nat.lt_of_lt_of_le (Nat.lt_of_lt_of_le hbl1 (Nat.le_trans (hsz2) hsz3)) hq4) (Option.some.inj e))
            have hqs4_5_6 : q4.1 < W6.heap.size := Nat.lt_of_lt_of_le hqs4_5 hg6.size
            have hi5_6 := im_grown hi5 hg6 (fun e => Nat.ne_of_gt (Nat.lt_of_lt_of_le (Nat.lt_of_lt_of_le hbl1 (Nat.le_trans (Nat.le_trans (hsz2) hsz3) hsz4)) hq5) (Option.some.inj e))
            have hqs5_6 : q5.1 < W6.heap.size := Nat.lt_of_lt_of_le hqs5 hg6.size
            refine drawn_take (i := 23) (v := .agg #[.slice (some ⟨sq, 0, none⟩) 128 sc3, im q4, im q5, im q6, .bool false]) (some 54) rfl rfl (by kernel_rfl) (by kernel_rfl) (by kernel_rfl) (fun _ _ _ h => h) (Or.inl ⟨by kernel_rfl, fun wq hw => by go_simp⟩) hHeld ?_
            simp only [Act.put, List.setIfInBounds_toArray, List.set_cons_succ, List.set_cons_zero]
            refine drawn_take (i := 24) (v := .pointer (some ⟨fg, j * 5, none⟩)) (some 55) rfl rfl (by kernel_rfl) (by kernel_rfl) (by kernel_rfl) (fun _ _ _ h => h) (Or.inl ⟨by kernel_rfl, fun wq hw => by go_simp⟩) hHeld ?_
            simp only [Act.put, List.setIfInBounds_toArray, List.set_cons_succ, List.set_cons_zero]
            refine wpAnyH_ready (rs := [25]) (by kernel_rfl) (by simp) ?_
            have hth : W6.there fg (j * 5) 5 := there_row (HRow.out W6 hK6) (by omega)
            refine rdy_unit (i := 25) rfl rfl none rfl (W6.setCells fg (j * 5) [.slice (some ⟨sq, 0, none⟩) 128 sc3, im q4, im q5, im q6, .bool false]) (st5_run (x := .tmp 55) (y := .tmp 54) rfl (by kernel_rfl) (by kernel_rfl) hth rfl rfl rfl rfl rfl) (keeps_setCells (keeps_of hK6 HNE.out)) (fun hHeld => ?_) rdy_nil
            simp only [Act.put]
            refine wpAnyH_done (by kernel_rfl) ?_ _
            refine NoPanic.normal ?_
            have hKeep := hHeld
            clear hHeld
            exact ⟨rfl, _, ⟨b2, b3, b1, q4, q5, q6, W6, rfl, rfl, hK6, hi4_5_6, hi5_6, hi6, hqn4, hqn5, hqn6, hqs4_5_6, hqs5_6, hqs6⟩, by kernel_rfl⟩
          refine rdy_val (i := 15) rfl rfl (some 46) rfl (.slice (some ⟨W1.heap.size, 0, none⟩) 0 0) (W1.alloc (.cells #[] 5)) (mk0_run rfl) (keeps_of (hK1.alloc (Nat.le_trans (hle0) hg1.size) _) HNE.out) (fun hHeld => ?_) rdy_nil
          simp only [Act.put, List.setIfInBounds_toArray, List.set_cons_succ, List.set_cons_zero]
          have he2 := heap_alloc_new W1 (.cells #[] 5)
          have hg2 : W1.grownBy (W1.alloc (.cells #[] 5)) none := grown_alloc W1 _
          have hK2 := hK1.alloc (Nat.le_trans (hle0) hg1.size) (.cells #[] 5)
          obtain ⟨b2, hb2⟩ : ∃ b, b = W1.heap.size := ⟨_, rfl⟩
          obtain ⟨W2, hW2⟩ : ∃ W', W' = W1.alloc (.cells #[] 5) := ⟨_, rfl⟩
          rw [← hW2] at hHeld hg2 hK2
          rw [← hb2, ← hW2] at he2
          rw [← hb2, ← hW2]
          have hn2 : n0 ≤ b2 := by rw [hb2]; exact Nat.le_trans (hle0) hg1.size
          have hbl2 : b2 < W2.heap.size := (Array.getElem?_eq_some_iff.1 he2).1
          clear hW2
          have hsz2 : W1.heap.size ≤ W2.heap.size := hg2.size
          have he1_2 := (hg2.block b1 (Array.getElem?_eq_some_iff.1 he1).1 (fun e => by cases e)).trans he1
          refine wpAnyH_ready (rs := [11]) (by kernel_rfl) (by simp) ?_
          refine rdy_val (i := 11) rfl rfl (some 42) rfl (.slice (some ⟨W2.heap.size, 0, none⟩) 0 0) (W2.alloc (.cells #[] 5)) (mk0_run rfl) (keeps_of (hK2.alloc (Nat.le_trans (Nat.le_trans (hle0) hg1.size) hg2.size) _) HNE.out) (fun hHeld => ?_) rdy_nil
          simp only [Act.put, List.setIfInBounds_toArray, List.set_cons_succ, List.set_cons_zero]
          have he3 := heap_alloc_new W2 (.cells #[] 5)
          have hg3 : W2.grownBy (W2.alloc (.cells #[] 5)) none := grown_alloc W2 _
          have hK3 := hK2.alloc (Nat.le_trans (Nat.le_trans (hle0) hg1.size) hg2.size) (.cells #[] 5)
          obtain ⟨b3, hb3⟩ : ∃ b, b = W2.heap.size := ⟨_, rfl⟩
          obtain ⟨W3, hW3⟩ : ∃ W', W' = W2.alloc (.cells #[] 5) := ⟨_, rfl⟩
          rw [← hW3] at hHeld hg3 hK3
          rw [← hb3, ← hW3] at he3
          rw [← hb3, ← hW3]
          have hn3 : n0 ≤ b3 := by rw [hb3]; exact Nat.le_trans (Nat.le_trans (hle0) hg1.size) hg2.size
          have hbl3 : b3 < W3.heap.size := (Array.getElem?_eq_some_iff.1 he3).1
          clear hW3
          have hsz3 : W2.heap.size ≤ W3.heap.size := hg3.size
          have he1_2_3 := (hg3.block b1 (Array.getElem?_eq_some_iff.1 he1_2).1 (fun e => by cases e)).trans he1_2
          have he2_3 := (hg3.block b2 (Array.getElem?_eq_some_iff.1 he2).1 (fun e => by cases e)).trans he2
          refine wpAnyH_ready (rs := [14]) (by kernel_rfl) (by simp) ?_
          obtain ⟨q4, W4, hr4, hi4, hq4, hqs4, hg4⟩ := cpy W3 b3 he3 ⟨sq, 0, none⟩ sc3 zs HZL.out (fun j u hj => HSrc.out W3 hK3 j u hj)
          refine rdy_val (i := 14) rfl rfl (some 45) rfl (im q4) W4 (app_run3 (x := .tmp 42) (y := .tmp 44) rfl (by kernel_rfl) (by kernel_rfl) hr4) (keeps_of (hK3.grown hg4 (Nat.le_trans (Nat.le_trans (Nat.le_trans (hle0) hg1.size) hg2.size) hg3.size) (fun k hk => (Option.some.inj hk) ▸ hn3)) HNE.out) (fun hHeld => ?_) rdy_nil
          simp only [Act.put, List.setIfInBounds_toArray, List.set_cons_succ, List.set_cons_zero]
          clear hr4
          have hqn4 : n0 ≤ q4.1 := Nat.le_trans (Nat.le_trans (Nat.le_trans (Nat.le_trans (hle0) hg1.size) hg2.size) hg3.size) hq4
          have hK4 := hK3.grown hg4 (Nat.le_trans (Nat.le_trans (Nat.le_trans (hle0) hg1.size) hg2.size) hg3.size) (fun k hk => (Option.some.inj hk) ▸ hn3)
          have hsz4 : W3.heap.size ≤ W4.heap.size := hg4.size
          have he1_2_3_4 := (hg4.block b1 (Array.getElem?_eq_some_iff.1 he1_2_3).1 (fun e => Nat.ne_of_lt (Nat.lt_of_lt_of_le (Nat.lt_of_lt_of_le hbl1 (hsz2)) (Nat.le_of_eq hb3.symm)) (Option.some.inj e))).trans he1_2_3
          have he2_3_4 := (hg4.block b2 (Array.getElem?_eq_some_iff.1 he2_3).1 (fun e => Nat.ne_of_lt (Nat.lt_of_lt_of_le (Nat.lt_of_lt_of_le hbl2 (Nat.le_refl _)) (Nat.le_of_eq hb3.symm)) (Option.some.inj e))).trans he2_3
          refine wpAnyH_ready (rs := [18]) (by kernel_rfl) (by simp) ?_
          obtain ⟨q5, W5, hr5, hi5, hq5, hqs5, hg5⟩ := cpy W4 b2 he2_3_4 ⟨sq, 0, none⟩ sc3 zs HZL.out (fun j u hj => HSrc.out W4 hK4 j u hj)
          refine rdy_val (i := 18) rfl rfl (some 49) rfl (im q5) W5 (app_run3 (x := .tmp 46) (y := .tmp 48) rfl (by kernel_rfl) (by kernel_rfl) hr5) (keeps_of (hK4.grown hg5 (Nat.le_trans (Nat.le_trans (Nat.le_trans (Nat.le_trans (hle0) hg1.size) hg2.size) hg3.size) hg4.size) (fun k hk => (Option.some.inj hk) ▸ hn2)) HNE.out) (fun hHeld => ?_) rdy_nil
          simp only [Act.put, List.setIfInBounds_toArray, List.set_cons_succ, List.set_cons_zero]
          clear hr5
          have hqn5 : n0 ≤ q5.1 := Nat.le_trans (Nat.le_trans (Nat.le_trans (Nat.le_trans (Nat.le_trans (hle0) hg1.size) hg2.size) hg3.size) hg4.size) hq5
          have hK5 := hK4.grown hg5 (Nat.le_trans (Nat.le_trans (Nat.le_trans (Nat.le_trans (hle0) hg1.size) hg2.size) hg3.size) hg4.size) (fun k hk => (Option.some.inj hk) ▸ hn2)
          have hsz5 : W4.heap.size ≤ W5.heap.size := hg5.size
          have he1_2_3_4_5 := (hg5.block b1 (Array.getElem?_eq_some_iff.1 he1_2_3_4).1 (fun e => Nat.ne_of_lt (Nat.lt_of_lt_of_le (Nat.lt_of_lt_of_le hbl1 (Nat.le_refl _)) (Nat.le_of_eq hb2.symm)) (Option.some.inj e))).trans he1_2_3_4
          have hi4_5 := im_grown hi4 hg5 (fun e => Nat.ne_of_gt (Nat.lt_of_lt_of_le (Nat.lt_of_lt_of_le hbl2 (hsz3)) hq4) (Option.some.inj e))
          have hqs4_5 : q4.1 < W5.heap.size := Nat.lt_of_lt_of_le hqs4 hg5.size
          refine wpAnyH_ready (rs := [22]) (by kernel_rfl) (by simp) ?_
          obtain ⟨q6, W6, hr6, hi6, hq6, hqs6, hg6⟩ := cpy W5 b1 he1_2_3_4_5 ⟨sq, 0, none⟩ sc3 zs HZL.out (fun j u hj => HSrc.out W5 hK5 j u hj)
          refine rdy_val (i := 22) rfl rfl (some 53) rfl (im q6) W6 (app_run3 (x := .tmp 50) (y := .tmp 52) rfl (by kernel_rfl) (by kernel_rfl) hr6) (keeps_of (hK5.grown hg6 (Nat.le_trans (Nat.le_trans (Nat.le_trans (Nat.le_trans (Nat.le_trans (hle0) hg1.size) hg2.size) hg3.size) hg4.size) hg5.size) (fun k hk => (Option.some.inj hk) ▸ hn1)) HNE.out) (fun hHeld => ?_) rdy_nil
          simp only [Act.put, List.setIfInBounds_toArray, List.set_cons_succ, List.set_cons_zero]
          clear hr6
          have hqn6 : n0 ≤ q6.1 := Nat.le_trans (Nat.le_trans (Nat.le_trans (Nat.le_trans (Nat.le_trans (Nat.le_trans (hle0) hg1.size) hg2.size) hg3.size) hg4.size) hg5.size) hq6
          have hK6 := hK5.grown hg6 (Nat.le_trans (Nat.le_trans (Nat.le_trans (Nat.le_trans (Nat.le_trans (hle0) hg1.size) hg2.size) hg3.size) hg4.size) hg5.size) (fun k hk => (Option.some.inj hk) ▸ hn1)
          have hsz6 : W5.heap.size ≤ W6.heap.size := hg6.size
          have hi4_5_6 := im_grown hi4_5 hg6 (fun e => Nat.ne_of_gt (Nat.lt_of_lt_of_le (Nat.lt_of_lt_of_le hbl1 (Nat.le_trans (hsz2) hsz3)) hq4) (Option.some.inj e))
          have hqs4_5_6 : q4.1 < W6.heap.size := Nat.lt_of_lt_of_le hqs4_5 hg6.size
          have hi5_6 := im_grown hi5 hg6 (fun e => Nat.ne_of_gt (Nat.lt_of_lt_of_le (Nat.lt_of_lt_of_le hbl1 (Nat.le_trans (Nat.le_trans (hsz2) hsz3) hsz4)) hq5) (Option.some.inj e))
          have hqs5_6 : q5.1 < W6.heap.size := Nat.lt_of_lt_of_le hqs5 hg6.size
          refine drawn_take (i := 23) (v := .agg #[.slice (some ⟨sq, 0, none⟩) 128 sc3, im q4, im q5, im q6, .bool false]) (some 54) rfl rfl (by kernel_rfl) (by kernel_rfl) (by kernel_rfl) (fun _ _ _ h => h) (Or.inl ⟨by kernel_rfl, fun wq hw => by go_simp⟩) hHeld ?_
          simp only [Act.put, List.setIfInBounds_toArray, List.set_cons_succ, List.set_cons_zero]
          refine drawn_take (i := 24) (v := .pointer (some ⟨fg, j * 5, none⟩)) (some 55) rfl rfl (by kernel_rfl) (by kernel_rfl) (by kernel_rfl) (fun _ _ _ h => h) (Or.inl ⟨by kernel_rfl, fun wq hw => by go_simp⟩) hHeld ?_
          simp only [Act.put, List.setIfInBounds_toArray, List.set_cons_succ, List.set_cons_zero]
          refine wpAnyH_ready (rs := [25]) (by kernel_rfl) (by simp) ?_
          have hth : W6.there fg (j * 5) 5 := there_row (HRow.out W6 hK6) (by omega)
          refine rdy_unit (i := 25) rfl rfl none rfl (W6.setCells fg (j * 5) [.slice (some ⟨sq, 0, none⟩) 128 sc3, im q4, im q5, im q6, .bool false]) (st5_run (x := .tmp 55) (y := .tmp 54) rfl (by kernel_rfl) (by kernel_rfl) hth rfl rfl rfl rfl rfl) (keeps_setCells (keeps_of hK6 HNE.out)) (fun hHeld => ?_) rdy_nil
          simp only [Act.put]
          refine wpAnyH_done (by kernel_rfl) ?_ _
          refine NoPanic.normal ?_
          have hKeep := hHeld
          clear hHeld
          exact ⟨rfl, _, ⟨b3, b2, b1, q4, q5, q6, W6, rfl, rfl, hK6, hi4_5_6, hi5_6, hi6, hqn4, hqn5, hqn6, hqs4_5_6, hqs5_6, hqs6⟩, by kernel_rfl⟩
        · rintro l9 w9 ⟨v42, v46, v50, qa, qb, qd, W, rfl, rfl, hBW, ha, hb, hd, na, nb, nd, sa, sb, sd⟩
          have hB9 : Below wr.heap.size wr W := HB5.out.1.trans (hBW.mono (by rw [HB5.out.2.1]; exact HB5.out.2.2))
          have hle : wr.heap.size ≤ n0 := by rw [HB5.out.2.1]; exact HB5.out.2.2
          have HN := hidn (HNX.out W hB9 qa qb qd ha hb hd (by omega) (by omega) (by omega) sa sb sd)
          clear hB9 hle hBW ha hb hd na nb nd sa sb sd
          simp only [putAll, List.foldl, Act.put, List.setIfInBounds_toArray, List.set_cons_succ, List.set_cons_zero]
          go_wp2
          go_roundw
          case rel => exact ⟨j + 1, hlt, by simp, HN⟩
          case measure => simp [intOf]; omega
    · have hlt2 : ¬ (j : Int) < (fl : Int) := by omega
      have hjf : j = fl := by omega
      obtain ⟨F', l, h1, h2, h3, h4, h5⟩ := HI.out
      have HR := hidn (And.intro h3 h4)
      have HL : Hid (l.length = f.l.length ∧ l.map Yc.x = (f.l.map Yc.x).map Ext.synced) := hidn ⟨h1, by
        rw [h2, hjf, HFL.out]
        have := syncYTo_all (f.l.map Yc.x)
        rwa [List.length_map] at this⟩
      clear h1 h2 h3 h4 h5 hjf HI
      go_wp2
      go_ret
      exact ⟨rfl, F', _, _, _, HR.out.1, ⟨l, HL.out.1, by first | exact HL.out.2 | (rw [HL.out.2, List.map_map]), rfl⟩, HR.out.2⟩
end Go.Proofs.Ytocfbokgbpaneaa
