/- The document's disk: Write of a new extent of a file that is there. -/
import Derived.Test.YtocfbokgbpaneaaRyH
namespace Go.Proofs.Ytocfbokgbpaneaa
open Go.RowKit Go.Maps
set_option linter.unusedVariables false

set_option maxRecDepth 100000 in
set_option maxHeartbeats 16000000 in
theorem writeY_new (w : World) (y : Nat) (F : Nat → Prop) (fa : Option Addr) (fc : Nat) (R : List Yf) (room fuse : Int) (h : RyOf w y F fa fc R room fuse) (hF : ∀ k, F k → k < w.heap.size) (s : ByteArray) (hs : nameB s.data.toList = true) (hR : R.length ≤ 1000000) (hr0 : 0 ≤ room) (hr1 : room ≤ 100000) (hsm : sumL R ≤ 100000) (hf0 : fuse ≠ 0) (hf1 : -1 ≤ fuse) (hf2 : fuse ≤ 9223372036854775807) (i : Nat) (ba cap : Nat) (boff : Nat) (zs : List Nat) (hB : BsF F w (some ⟨ba, boff, none⟩) 128 zs) (n : Nat) (HN : Hid (n = (extY R s).length)) (hin : i = n) (hroom : 0 < room - (sumL R : Int)) (k : Nat) (f : Yf) (hp : placeY R s = some k) (hk : R[k]? = some f) :
    Calls Try.prog 16 #[.pointer (some ⟨y, 0, none⟩), .string s, .int .i64 (i : Int), .slice (some ⟨ba, boff, none⟩) 128 cap] w (RyPost w y F (fun R2 => ∃ c' g2 c2, c'.x = zeroE.wrote zs ∧ R2 = R.set k ⟨f.name, g2, c2, f.l ++ [c']⟩) room (burnt fuse) 0) := by
  have HNm := hidn (isNameY_any w s (by have := nameB_size hs; unfold maxLen; omega))
  rw [hs] at HNm
  have HE := hidn (extentsY_any w y F fa fc R room fuse h hF s hR n HN)
  have HF := hidn hF
  have HBz := hidn hB
  have HYF := hidn h.fy
  have HSt := hidn (fun (wx : World) (hx : RyOf wx y F fa fc R room fuse) => stops_no wx y F fa fc R room fuse hx hf0 hf1 hf2)
  have HE2 := hidn (fun (wx : World) (hx : RyOf wx y F fa fc R room (burnt fuse)) (hl : ∀ k, F k → k < wx.heap.size) => extentsY_any wx y F fa fc R room (burnt fuse) hx hl s hR n HN)
  have HPl := hidn (fun (wx : World) (hx : RyOf wx y F fa fc R room (burnt fuse)) (hl : ∀ k, F k → k < wx.heap.size) => place_any wx y F fa fc R room (burnt fuse) hx hl s hR)
  have HFr := hidn (fun (wx : World) (hx : RyOf wx y F fa fc R room (burnt fuse)) (hl : ∀ k, F k → k < wx.heap.size) => freeY_any wx y F fa fc R room (burnt fuse) hx hl hR hr0 hr1 hsm)
  have H := hidn h
  have e2 : decide ((i : Int) < 0) = false := by simp
  have e3 : decide ((n : Int) < (i : Int)) = false := by simp; omega
  clear h hF hs hB hf0 hf1 hf2
  have HPI : Hid (placeI R s = (k : Int)) := hidn (by unfold placeI; rw [hp])
  have HFK := hidn hk
  have HRl := hidn hR
  have HFL : Hid (f.l.length ≤ 100000) := hidn (by
    have h1 := sumL_take R k f hk
    have h2 := sumL_le R (k + 1)
    omega)
  have HIE : Hid (i = f.l.length) := hidn (by rw [hin, HN.out, extY_at hp hk])
  have e3n : decide (n < i) = false := by simp; omega
  have e3m : ¬ ((n : Int) < (i : Int)) := by omega
  have e4 : ((i : Int) == (n : Int)) = true := by rw [hin]; simp
  have e4n : decide (i = n) = true := by simpa using hin
  obtain ⟨fr, hfr⟩ : ∃ fr, fr = room - (sumL R : Int) := ⟨_, rfl⟩
  rw [← hfr] at HFr
  have e5 : decide (fr ≤ 0) = false := by rw [hfr]; simp; omega
  have e6 : decide ((k : Int) < 0) = false := by simp
  clear hp hk hR hin hroom hfr
  go_enter Try.func16, Try.ntmps16
  go_wp2_with fail
  refine HNm.out.mono ?_
  clear HNm
  rintro e w1 ⟨rfl, hw1⟩
  rw [hw1]
  clear hw1
  go_wp2_with fail
  refine HE.out.mono ?_
  clear HE
  rintro e w2 ⟨rfl, hb2⟩
  have HG2 := hidn (Gr.of (Keeps.of_below (F := F) hb2))
  have HL2 : Hid (∀ k, F k → k < w2.heap.size) := hidn (fun k hk => Nat.lt_of_lt_of_le (HF.out k hk) hb2.size)
  have HR2 := hidn (H.out.below HF.out hb2)
  clear hb2 H HF
  go_wp2_with fail
  refine (HSt.out _ HR2.out).mono ?_
  clear HSt HR2
  rintro e w3 ⟨rfl, hR3, hG3, hs3⟩
  have HR3 := hidn hR3
  have HG3 := hidn (HG2.out.trans hG3)
  have HL3 : Hid (∀ k, F k → k < w3.heap.size) := hidn (fun k hk => by rw [hs3]; exact HL2.out k hk)
  clear hR3 hG3 hs3 HG2 HL2
  go_wp2_with fail
  refine (HE2.out _ HR3.out HL3.out).mono ?_
  clear HE2
  rintro e w4 ⟨rfl, hb4⟩
  have HR4 := hidn (HR3.out.below HL3.out hb4)
  have HG4 := hidn (HG3.out.trans (Gr.of (Keeps.of_below (F := F) hb4)))
  have HL4 : Hid (∀ k, F k → k < w4.heap.size) := hidn (fun k hk => Nat.lt_of_lt_of_le (HL3.out k hk) hb4.size)
  clear hb4 HR3 HG3 HL3
  go_wp2_with fail
  refine (HFr.out _ HR4.out HL4.out).mono ?_
  clear HFr
  rintro e w45 ⟨rfl, hb45⟩
  have HR4 := hidn (HR4.out.below HL4.out hb45)
  have HG4 := hidn (HG4.out.trans (Gr.of (Keeps.of_below (F := F) hb45)))
  have HL4 : Hid (∀ k, F k → k < w45.heap.size) := hidn (fun k hk => Nat.lt_of_lt_of_le (HL4.out k hk) hb45.size)
  clear hb45
  go_wp2_with fail
  have HP := hidn (HPl.out _ HR4.out HL4.out)
  rw [HPI.out] at HP
  refine HP.out.mono ?_
  clear HP HPl HPI
  rintro e w5 ⟨rfl, hb5⟩
  have h5 := HR4.out.below HL4.out hb5
  have HG5 := hidn (HG4.out.trans (Gr.of (Keeps.of_below (F := F) hb5)))
  have HL5 : Hid (∀ k, F k → k < w5.heap.size) := hidn (fun k hk => Nat.lt_of_lt_of_le (HL4.out k hk) hb5.size)
  clear hb5 HR4 HG4 HL4
  have hmem := List.mem_of_getElem? HFK.out
  obtain ⟨g, hfa, hFg, hc0, hc1⟩ := h5.at HFK.out
  subst hfa
  have c1 : w5.cell? ⟨y, 1, none⟩ = some (.slice (some ⟨g, 0, none⟩) R.length fc) := by rw [cell_of_row _ _ _ _ _ _ h5.disk]; rfl
  have HEnd := hidn (new_end w5 y F g fc R room (burnt fuse) h5 HL5.out k f HFK.out zs ba boff cap (HBz.out.gr HG5.out))
  have HRow := hidn (h5.rows f hmem)
  obtain ⟨fcur, hfrow⟩ := own_ty h5.files (g := g) rfl
  obtain ⟨N, hN⟩ : ∃ N, N = R.length := ⟨_, rfl⟩
  have hkN : (k : Int) < (N : Int) := by rw [hN]; have := (List.getElem?_eq_some_iff.1 HFK.out).1; omega
  have hNb : N ≤ 1000000 := by rw [hN]; exact HRl.out
  have ly := HL5.out _ h5.fy
  have lg := HL5.out _ hFg
  have nyf : ¬ (fun b => b = f.g ∨ b = g) y := fun hb => by
    rcases hb with hb | hb
    · exact (Ne.symm (own_ne (h5.rows f hmem) (g := f.g) rfl h5.disk (Ne.symm tyDF.2.1))) hb
    · exact (Ne.symm (own_ne h5.files (g := g) rfl h5.disk (Ne.symm tyDF.1))) hb
  have lfg0 := HL5.out _ (h5.fr f hmem)
  have ngf : ¬ (fun b => b = f.g) g := own_ne2 h5.files (h5.rows f hmem) (g := g) rfl rfl tyDF.2.2.2.1
  unfold Yf.row at hc1 HRow
  obtain ⟨fg, hfg⟩ : ∃ fg, fg = f.g := ⟨_, rfl⟩
  obtain ⟨fcc, hfcc⟩ : ∃ fcc, fcc = f.c := ⟨_, rfl⟩
  obtain ⟨fl, hfl⟩ : ∃ fl, fl = f.l.length := ⟨_, rfl⟩
  obtain ⟨n0, hn0⟩ : ∃ n0, n0 = w5.heap.size := ⟨_, rfl⟩
  have HNE := hidn hn0
  have hie : i = fl := by rw [hfl]; exact HIE.out
  rw [← hfg, ← hfl] at HEnd
  rw [← hn0] at HEnd
  have lfg : fg < n0 := by rw [hn0, hfg]; exact lfg0
  clear lfg0
  rw [← hfg, ← hfcc, ← hfl] at hc1 HRow
  rw [← hfg] at nyf ngf
  rw [← hN] at HEnd c1
  have hflb : fl ≤ 100000 := by rw [hfl]; exact HFL.out
  have e7 : ((i : Int) == (fl : Int)) = true := by rw [hie]; simp
  have e7n : decide (i = fl) = true := by simpa using hie
  have e8 : (i : Int) < ((fl + 1 : Nat) : Int) := by omega
  have e8' : (i : Int) < (fl : Int) + 1 := by omega
  subst hie
  clear hN hfl hfg hfcc hn0 hFg hc0 h5 hmem
  go_wp2_with fail
  refine wp_region_noPanic ?_
  refine wp_region_held_drew (S := Keeps (fun b => b = fg ∨ b = g) w5) (by kernel_rfl) (⟨rfl, rfl, rfl, Nat.le_refl _, fun _ _ _ => rfl⟩) (fun hHeld => ?_)
  obtain ⟨Wd, hWd⟩ : ∃ Wd, Wd = w5.drew := ⟨_, rfl⟩
  have hle0 : n0 ≤ Wd.heap.size := by rw [hWd]; exact Nat.le_of_eq HNE.out
  have hK0 : Keeps (fun b => b = fg) w5 Wd := by rw [hWd]; exact ⟨rfl, rfl, rfl, Nat.le_refl _, fun _ _ _ => rfl⟩
  have hrow0 : Wd.ownsRow 0 57 5 (.slice (some ⟨fg, 0, none⟩) i fcc) i (cellsC f.l) := own_other HRow.out (fun b hb => by rw [hWd]; rfl)
  rw [← hWd] at hHeld ⊢
  clear hWd
  refine drawn_take (i := 0) (v := .pointer (some ⟨y, 0, none⟩)) (some 101) rfl rfl (by kernel_rfl) (by kernel_rfl) (by kernel_rfl) (fun _ _ _ h => h) (Or.inl ⟨by kernel_rfl, fun wq hw => by go_simp⟩) hHeld ?_
  simp only [Act.put, List.setIfInBounds_toArray, List.set_cons_succ, List.set_cons_zero]
  refine drawn_take (i := 1) (v := .pointer (some ⟨y, 0, none⟩)) (some 102) rfl rfl (by kernel_rfl) (by kernel_rfl) (by kernel_rfl) (fun _ _ _ h => h) (Or.inl ⟨by kernel_rfl, fun wq hw => by go_simp⟩) hHeld ?_
  simp only [Act.put, List.setIfInBounds_toArray, List.set_cons_succ, List.set_cons_zero]
  refine drawn_take (i := 2) (v := .pointer (some ⟨y, 1, none⟩)) (some 103) rfl rfl (by kernel_rfl) (by kernel_rfl) (by kernel_rfl) (fun _ _ _ h => h) (Or.inl ⟨by kernel_rfl, fun wq hw => by go_simp⟩) hHeld ?_
  simp only [Act.put, List.setIfInBounds_toArray, List.set_cons_succ, List.set_cons_zero]
  refine drawn_take (i := 3) (v := .slice (some ⟨g, 0, none⟩) N fc) (some 104) rfl rfl (by kernel_rfl) (by kernel_rfl) (by kernel_rfl) (fun _ _ _ h => h) (Or.inl ⟨by kernel_rfl, fun wq hw => by have q := (hw.cellK (p := ⟨y, 1, none⟩) ly nyf).trans c1; go_simp⟩) hHeld ?_
  simp only [Act.put, List.setIfInBounds_toArray, List.set_cons_succ, List.set_cons_zero]
  refine drawn_take (i := 4) (v := .int .i64 (k : Int)) (some 105) rfl rfl (by kernel_rfl) (by kernel_rfl) (by kernel_rfl) (fun _ _ _ h => h) (Or.inl ⟨by kernel_rfl, fun wq hw => by go_simp⟩) hHeld ?_
  simp only [Act.put, List.setIfInBounds_toArray, List.set_cons_succ, List.set_cons_zero]
  refine drawn_take (i := 5) (v := .pointer (some ⟨y, 0, none⟩)) (some 106) rfl rfl (by kernel_rfl) (by kernel_rfl) (by kernel_rfl) (fun _ _ _ h => h) (Or.inl ⟨by kernel_rfl, fun wq hw => by go_simp⟩) hHeld ?_
  simp only [Act.put, List.setIfInBounds_toArray, List.set_cons_succ, List.set_cons_zero]
  refine drawn_take (i := 6) (v := .pointer (some ⟨y, 0, none⟩)) (some 107) rfl rfl (by kernel_rfl) (by kernel_rfl) (by kernel_rfl) (fun _ _ _ h => h) (Or.inl ⟨by kernel_rfl, fun wq hw => by go_simp⟩) hHeld ?_
  simp only [Act.put, List.setIfInBounds_toArray, List.set_cons_succ, List.set_cons_zero]
  refine drawn_take (i := 7) (v := .pointer (some ⟨y, 1, none⟩)) (some 108) rfl rfl (by kernel_rfl) (by kernel_rfl) (by kernel_rfl) (fun _ _ _ h => h) (Or.inl ⟨by kernel_rfl, fun wq hw => by go_simp⟩) hHeld ?_
  simp only [Act.put, List.setIfInBounds_toArray, List.set_cons_succ, List.set_cons_zero]
  refine drawn_take (i := 8) (v := .slice (some ⟨g, 0, none⟩) N fc) (some 109) rfl rfl (by kernel_rfl) (by kernel_rfl) (by kernel_rfl) (fun _ _ _ h => h) (Or.inl ⟨by kernel_rfl, fun wq hw => by have q := (hw.cellK (p := ⟨y, 1, none⟩) ly nyf).trans c1; go_simp⟩) hHeld ?_
  simp only [Act.put, List.setIfInBounds_toArray, List.set_cons_succ, List.set_cons_zero]
  refine drawn_take (i := 9) (v := .int .i64 (k : Int)) (some 110) rfl rfl (by kernel_rfl) (by kernel_rfl) (by kernel_rfl) (fun _ _ _ h => h) (Or.inl ⟨by kernel_rfl, fun wq hw => by go_simp⟩) hHeld ?_
  simp only [Act.put, List.setIfInBounds_toArray, List.set_cons_succ, List.set_cons_zero]
  refine drawn_take (i := 10) (v := .pointer (some ⟨g, k * 2, none⟩)) (some 111) rfl rfl (by kernel_rfl) (by kernel_rfl) (by kernel_rfl) (fun _ _ _ h => h) (Or.inl ⟨by kernel_rfl, fun wq hw => by go_simp⟩) hHeld ?_
  simp only [Act.put, List.setIfInBounds_toArray, List.set_cons_succ, List.set_cons_zero]
  refine drawn_take (i := 11) (v := .pointer (some ⟨g, k * 2 + 1, none⟩)) (some 112) rfl rfl (by kernel_rfl) (by kernel_rfl) (by kernel_rfl) (fun _ _ _ h => h) (Or.inl ⟨by kernel_rfl, fun wq hw => by go_simp⟩) hHeld ?_
  simp only [Act.put, List.setIfInBounds_toArray, List.set_cons_succ, List.set_cons_zero]
  refine wpAnyH_ready (rs := [12, 13, 14]) (by kernel_rfl) (by simp) ?_
  have hcx1 := (hK0.cellK (p := ⟨g, k * 2 + 1, none⟩) lg ngf).trans hc1
  refine rdy_val (i := 12) rfl rfl (some 113) rfl (.slice (some ⟨fg, 0, none⟩) i fcc) Wd (by have q := hcx1; go_simp) hK0.or (fun hHeld => ?_) ?_
  · simp only [Act.put, List.setIfInBounds_toArray, List.set_cons_succ, List.set_cons_zero]
    refine wpAnyH_ready (rs := [13, 14]) (by kernel_rfl) (by simp) ?_
    refine rdy_val (i := 13) rfl rfl (some 114) rfl (.slice (some ⟨Wd.heap.size, 0, none⟩) 128 128) (Wd.alloc (.cells (Array.replicate 128 (.int .u8 0)) 5)) (mkm_run rfl) ((hK0.grown0 (grown_alloc Wd _)).or) (fun hHeld => ?_) ?_
    · simp only [Act.put, List.setIfInBounds_toArray, List.set_cons_succ, List.set_cons_zero]
      have hi1 := im_make Wd
      have hg1 : Wd.grownBy (Wd.alloc (.cells (Array.replicate 128 (.int .u8 0)) 5)) none := grown_alloc Wd _
      obtain ⟨m1, hm1⟩ : ∃ b, b = Wd.heap.size := ⟨_, rfl⟩
      obtain ⟨W1, hW1⟩ : ∃ W', W' = Wd.alloc (.cells (Array.replicate 128 (.int .u8 0)) 5) := ⟨_, rfl⟩
      rw [← hW1] at hHeld hg1
      rw [← hm1, ← hW1] at hi1
      rw [← hm1, ← hW1]
      have hn1 : n0 ≤ m1 := by rw [hm1]; exact hle0
      have hl1 : m1 < W1.heap.size := own_lt hi1 _ rfl
      clear hW1
      have hK1 : Keeps (fun b => b = fg) w5 W1 := hK0.grown0 hg1
      have hrow0_1 := own_grown hrow0 hg1 (.inl (fun e => by cases e))
      refine wpAnyH_ready (rs := [14]) (by kernel_rfl) (by simp) ?_
      refine rdy_val (i := 14) rfl rfl (some 115) rfl (.slice (some ⟨W1.heap.size, 0, none⟩) 128 128) (W1.alloc (.cells (Array.replicate 128 (.int .u8 0)) 5)) (mkm_run rfl) ((hK1.grown0 (grown_alloc W1 _)).or) (fun hHeld => ?_) rdy_nil
      simp only [Act.put, List.setIfInBounds_toArray, List.set_cons_succ, List.set_cons_zero]
      have hi2 := im_make W1
      have hg2 : W1.grownBy (W1.alloc (.cells (Array.replicate 128 (.int .u8 0)) 5)) none := grown_alloc W1 _
      obtain ⟨m2, hm2⟩ : ∃ b, b = W1.heap.size := ⟨_, rfl⟩
      obtain ⟨W2, hW2⟩ : ∃ W', W' = W1.alloc (.cells (Array.replicate 128 (.int .u8 0)) 5) := ⟨_, rfl⟩
      rw [← hW2] at hHeld hg2
      rw [← hm2, ← hW2] at hi2
      rw [← hm2, ← hW2]
      have hn2 : n0 ≤ m2 := by rw [hm2]; exact Nat.le_trans (hle0) hg1.size
      have hl2 : m2 < W2.heap.size := own_lt hi2 _ rfl
      clear hW2
      have hi1_2 := im_grown hi1 hg2 (fun e => by cases e)
      have hl1_2 : m1 < W2.heap.size := Nat.lt_of_lt_of_le hl1 hg2.size
      have hK2 : Keeps (fun b => b = fg) w5 W2 := hK1.grown0 hg2
      have hrow0_1_2 := own_grown hrow0_1 hg2 (.inl (fun e => by cases e))
      refine drawn_take (i := 15) (v := .agg #[.slice none 0 0, .slice (some ⟨m1, 0, none⟩) 128 128, .slice (some ⟨m2, 0, none⟩) 128 128, .slice none 0 0, .bool false]) (some 116) rfl rfl (by kernel_rfl) (by kernel_rfl) (by kernel_rfl) (fun _ _ _ h => h) (Or.inl ⟨by kernel_rfl, fun wq hw => by go_simp⟩) hHeld ?_
      simp only [Act.put, List.setIfInBounds_toArray, List.set_cons_succ, List.set_cons_zero]
      refine wpAnyH_ready (rs := [16]) (by kernel_rfl) (by simp) ?_
      refine rdy_val (i := 16) rfl rfl (some 117) rfl (.slice (some ⟨W2.heap.size, 0, none⟩) 1 1) (W2.alloc (.cells #[.slice none 0 0, .slice (some ⟨m1, 0, none⟩) 128 128, .slice (some ⟨m2, 0, none⟩) 128 128, .slice none 0 0, .bool false] 57)) (bs1_run (x := .tmp 116) rfl (by kernel_rfl)) ((hK2.grown0 (grown_alloc W2 _)).or) (fun hHeld => ?_) rdy_nil
      simp only [Act.put, List.setIfInBounds_toArray, List.set_cons_succ, List.set_cons_zero]
      have he3 := heap_alloc_new W2 (.cells #[.slice none 0 0, .slice (some ⟨m1, 0, none⟩) 128 128, .slice (some ⟨m2, 0, none⟩) 128 128, .slice none 0 0, .bool false] 57)
      have hg3 : W2.grownBy (W2.alloc (.cells #[.slice none 0 0, .slice (some ⟨m1, 0, none⟩) 128 128, .slice (some ⟨m2, 0, none⟩) 128 128, .slice none 0 0, .bool false] 57)) none := grown_alloc W2 _
      obtain ⟨b3, hb3⟩ : ∃ b, b = W2.heap.size := ⟨_, rfl⟩
      obtain ⟨W3, hW3⟩ : ∃ W', W' = W2.alloc (.cells #[.slice none 0 0, .slice (some ⟨m1, 0, none⟩) 128 128, .slice (some ⟨m2, 0, none⟩) 128 128, .slice none 0 0, .bool false] 57) := ⟨_, rfl⟩
      rw [← hW3] at hHeld hg3
      rw [← hb3, ← hW3] at he3
      rw [← hb3, ← hW3]
      clear hW3
      have hi1_2_3 := im_grown hi1_2 hg3 (fun e => by cases e)
      have hl1_2_3 : m1 < W3.heap.size := Nat.lt_of_lt_of_le hl1_2 hg3.size
      have hi2_3 := im_grown hi2 hg3 (fun e => by cases e)
      have hl2_3 : m2 < W3.heap.size := Nat.lt_of_lt_of_le hl2 hg3.size
      have hK3 : Keeps (fun b => b = fg) w5 W3 := hK2.grown0 hg3
      have hrow0_1_2_3 := own_grown hrow0_1_2 hg3 (.inl (fun e => by cases e))
      refine wpAnyH_ready (rs := [17]) (by kernel_rfl) (by simp) ?_
      obtain ⟨g2, c2, W4, hr4, ho4, hg4, hpl⟩ := appC W3 fg i fcc (cellsC f.l) hrow0_1_2_3 b3 (.slice none 0 0) (.slice (some ⟨m1, 0, none⟩) 128 128) (.slice (some ⟨m2, 0, none⟩) 128 128) (.slice none 0 0) (.bool false) rfl rfl rfl rfl rfl he3 (by unfold maxLen; omega) (by omega)
      refine rdy_val (i := 17) rfl rfl (some 118) rfl (.slice (some ⟨g2, 0, none⟩) (i + 1) c2) W4 (app_run3 (x := .tmp 113) (y := .tmp 117) rfl (by kernel_rfl) (by kernel_rfl) hr4) ((hK3.grown1 hg4).or) (fun hHeld => ?_) rdy_nil
      simp only [Act.put, List.setIfInBounds_toArray, List.set_cons_succ, List.set_cons_zero]
      have hMA := im_grown hi1_2_3 hg4 (fun e => by have := Option.some.inj e; simp only at this; omega)
      have hMB := im_grown hi2_3 hg4 (fun e => by have := Option.some.inj e; simp only at this; omega)
      have hg2n : fg = g2 ∨ n0 ≤ g2 := hpl.imp id (fun h => Nat.le_trans (Nat.le_trans (Nat.le_trans (Nat.le_trans (hle0) hg1.size) hg2.size) hg3.size) h)
      have hK4 : Keeps (fun b => b = fg) w5 W4 := hK3.grown1 hg4
      clear hr4
      refine drawn_take (i := 18) (v := .pointer (some ⟨g, k * 2, none⟩)) (some 119) rfl rfl (by kernel_rfl) (by kernel_rfl) (by kernel_rfl) (fun _ _ _ h => h) (Or.inl ⟨by kernel_rfl, fun wq hw => by go_simp⟩) hHeld ?_
      simp only [Act.put, List.setIfInBounds_toArray, List.set_cons_succ, List.set_cons_zero]
      refine drawn_take (i := 19) (v := .pointer (some ⟨g, k * 2 + 1, none⟩)) (some 120) rfl rfl (by kernel_rfl) (by kernel_rfl) (by kernel_rfl) (fun _ _ _ h => h) (Or.inl ⟨by kernel_rfl, fun wq hw => by go_simp⟩) hHeld ?_
      simp only [Act.put, List.setIfInBounds_toArray, List.set_cons_succ, List.set_cons_zero]
      refine wpAnyH_ready (rs := [20]) (by kernel_rfl) (by simp) ?_
      have hcf := (hK4.cellK (p := ⟨g, k * 2 + 1, none⟩) lg ngf).trans hc1
      have hfz := frozen_of_row _ _ (k * 2 + 1) _ _ ((hK4.block g lg ngf).trans hfrow)
      refine rdy_unit (i := 20) rfl rfl none rfl (W4.setCell ⟨g, k * 2 + 1, none⟩ (.slice (some ⟨g2, 0, none⟩) (i + 1) c2)) (by go_simp) (hK4.or.setCell (p := ⟨g, k * 2 + 1, none⟩) (Or.inr rfl) _) (fun hHeld => ?_) rdy_nil
      simp only [Act.put]
      refine wpAnyH_done (by kernel_rfl) ?_ _
      refine NoPanic.normal ?_
      have hKeep := hHeld
      clear hHeld
      obtain ⟨p1, X2, p2, X4, hr1', hr2', c1, c2', k0, k3, k4, ⟨cur, hcur⟩, F', c', hFin, hcx, hGr⟩ := HEnd.out m1 m2 g2 c2 W4 ho4 hMA hMB hn1 hn2 hg2n hK4
      clear hKeep
      skip
      obtain ⟨Wz, hWz⟩ : ∃ Wz, Wz = W4.setCell ⟨g, k * 2 + 1, none⟩ (.slice (some ⟨g2, 0, none⟩) (i + 1) c2) := ⟨_, rfl⟩
      rw [← hWz] at hr1' c1 c2' ⊢
      have HR1 := hidn hr1'
      have HR2 := hidn hr2'
      have fz0 := frozen_of_row _ _ (i * 5) _ _ hcur
      have fz3 := frozen_of_row _ _ (i * 5 + 3) _ _ hcur
      have fz4 := frozen_of_row _ _ (i * 5 + 4) _ _ hcur
      have HFin := hidn (And.intro hFin (And.intro hcx hGr))
      clear hr1' hr2' hcur hFin hcx hGr hWz hc1 hfrow
      go_wp2_with (at_builtin; first | (refine wpList_app_run2 rfl _ _ 29 29 rfl rfl (.slice (some ⟨Wz.heap.size, 0, none⟩) 0 0) _ _ rfl rfl HR1.out ?_) | (refine wpList_app_run2 rfl _ _ 29 29 rfl rfl (.slice (some ⟨X2.heap.size, 0, none⟩) 0 0) _ _ rfl rfl HR2.out ?_))
      go_ret
      exact ⟨rfl, _, _, _, _, HFin.out.1, ⟨c', g2, c2, HFin.out.2.1, rfl⟩, HG5.out.trans HFin.out.2.2⟩
    refine rdy_val (i := 14) rfl rfl (some 115) rfl (.slice (some ⟨Wd.heap.size, 0, none⟩) 128 128) (Wd.alloc (.cells (Array.replicate 128 (.int .u8 0)) 5)) (mkm_run rfl) ((hK0.grown0 (grown_alloc Wd _)).or) (fun hHeld => ?_) rdy_nil
    simp only [Act.put, List.setIfInBounds_toArray, List.set_cons_succ, List.set_cons_zero]
    have hi1 := im_make Wd
    have hg1 : Wd.grownBy (Wd.alloc (.cells (Array.replicate 128 (.int .u8 0)) 5)) none := grown_alloc Wd _
    obtain ⟨m1, hm1⟩ : ∃ b, b = Wd.heap.size := ⟨_, rfl⟩
    obtain ⟨W1, hW1⟩ : ∃ W', W' = Wd.alloc (.cells (Array.replicate 128 (.int .u8 0)) 5) := ⟨_, rfl⟩
    rw [← hW1] at hHeld hg1
    rw [← hm1, ← hW1] at hi1
    rw [← hm1, ← hW1]
    have hn1 : n0 ≤ m1 := by rw [hm1]; exact hle0
    have hl1 : m1 < W1.heap.size := own_lt hi1 _ rfl
    clear hW1
    have hK1 : Keeps (fun b => b = fg) w5 W1 := hK0.grown0 hg1
    have hrow0_1 := own_grown hrow0 hg1 (.inl (fun e => by cases e))
    refine wpAnyH_ready (rs := [13]) (by kernel_rfl) (by simp) ?_
    refine rdy_val (i := 13) rfl rfl (some 114) rfl (.slice (some ⟨W1.heap.size, 0, none⟩) 128 128) (W1.alloc (.cells (Array.replicate 128 (.int .u8 0)) 5)) (mkm_run rfl) ((hK1.grown0 (grown_alloc W1 _)).or) (fun hHeld => ?_) rdy_nil
    simp only [Act.put, List.setIfInBounds_toArray, List.set_cons_succ, List.set_cons_zero]
    have hi2 := im_make W1
    have hg2 : W1.grownBy (W1.alloc (.cells (Array.replicate 128 (.int .u8 0)) 5)) none := grown_alloc W1 _
    obtain ⟨m2, hm2⟩ : ∃ b, b = W1.heap.size := ⟨_, rfl⟩
    obtain ⟨W2, hW2⟩ : ∃ W', W' = W1.alloc (.cells (Array.replicate 128 (.int .u8 0)) 5) := ⟨_, rfl⟩
    rw [← hW2] at hHeld hg2
    rw [← hm2, ← hW2] at hi2
    rw [← hm2, ← hW2]
    have hn2 : n0 ≤ m2 := by rw [hm2]; exact Nat.le_trans (hle0) hg1.size
    have hl2 : m2 < W2.heap.size := own_lt hi2 _ rfl
    clear hW2
    have hi1_2 := im_grown hi1 hg2 (fun e => by cases e)
    have hl1_2 : m1 < W2.heap.size := Nat.lt_of_lt_of_le hl1 hg2.size
    have hK2 : Keeps (fun b => b = fg) w5 W2 := hK1.grown0 hg2
    have hrow0_1_2 := own_grown hrow0_1 hg2 (.inl (fun e => by cases e))
    refine drawn_take (i := 15) (v := .agg #[.slice none 0 0, .slice (some ⟨m2, 0, none⟩) 128 128, .slice (some ⟨m1, 0, none⟩) 128 128, .slice none 0 0, .bool false]) (some 116) rfl rfl (by kernel_rfl) (by kernel_rfl) (by kernel_rfl) (fun _ _ _ h => h) (Or.inl ⟨by kernel_rfl, fun wq hw => by go_simp⟩) hHeld ?_
    simp only [Act.put, List.setIfInBounds_toArray, List.set_cons_succ, List.set_cons_zero]
    refine wpAnyH_ready (rs := [16]) (by kernel_rfl) (by simp) ?_
    refine rdy_val (i := 16) rfl rfl (some 117) rfl (.slice (some ⟨W2.heap.size, 0, none⟩) 1 1) (W2.alloc (.cells #[.slice none 0 0, .slice (some ⟨m2, 0, none⟩) 128 128, .slice (some ⟨m1, 0, none⟩) 128 128, .slice none 0 0, .bool false] 57)) (bs1_run (x := .tmp 116) rfl (by kernel_rfl)) ((hK2.grown0 (grown_alloc W2 _)).or) (fun hHeld => ?_) rdy_nil
    simp only [Act.put, List.setIfInBounds_toArray, List.set_cons_succ, List.set_cons_zero]
    have he3 := heap_alloc_new W2 (.cells #[.slice none 0 0, .slice (some ⟨m2, 0, none⟩) 128 128, .slice (some ⟨m1, 0, none⟩) 128 128, .slice none 0 0, .bool false] 57)
    have hg3 : W2.grownBy (W2.alloc (.cells #[.slice none 0 0, .slice (some ⟨m2, 0, none⟩) 128 128, .slice (some ⟨m1, 0, none⟩) 128 128, .slice none 0 0, .bool false] 57)) none := grown_alloc W2 _
    obtain ⟨b3, hb3⟩ : ∃ b, b = W2.heap.size := ⟨_, rfl⟩
    obtain ⟨W3, hW3⟩ : ∃ W', W' = W2.alloc (.cells #[.slice none 0 0, .slice (some ⟨m2, 0, none⟩) 128 128, .slice (some ⟨m1, 0, none⟩) 128 128, .slice none 0 0, .bool false] 57) := ⟨_, rfl⟩
    rw [← hW3] at hHeld hg3
    rw [← hb3, ← hW3] at he3
    rw [← hb3, ← hW3]
    clear hW3
    have hi1_2_3 := im_grown hi1_2 hg3 (fun e => by cases e)
    have hl1_2_3 : m1 < W3.heap.size := Nat.lt_of_lt_of_le hl1_2 hg3.size
    have hi2_3 := im_grown hi2 hg3 (fun e => by cases e)
    have hl2_3 : m2 < W3.heap.size := Nat.lt_of_lt_of_le hl2 hg3.size
    have hK3 : Keeps (fun b => b = fg) w5 W3 := hK2.grown0 hg3
    have hrow0_1_2_3 := own_grown hrow0_1_2 hg3 (.inl (fun e => by cases e))
    refine wpAnyH_ready (rs := [17]) (by kernel_rfl) (by simp) ?_
    obtain ⟨g2, c2, W4, hr4, ho4, hg4, hpl⟩ := appC W3 fg i fcc (cellsC f.l) hrow0_1_2_3 b3 (.slice none 0 0) (.slice (some ⟨m2, 0, none⟩) 128 128) (.slice (some ⟨m1, 0, none⟩) 128 128) (.slice none 0 0) (.bool false) rfl rfl rfl rfl rfl he3 (by unfold maxLen; omega) (by omega)
    refine rdy_val (i := 17) rfl rfl (some 118) rfl (.slice (some ⟨g2, 0, none⟩) (i + 1) c2) W4 (app_run3 (x := .tmp 113) (y := .tmp 117) rfl (by kernel_rfl) (by kernel_rfl) hr4) ((hK3.grown1 hg4).or) (fun hHeld => ?_) rdy_nil
    simp only [Act.put, List.setIfInBounds_toArray, List.set_cons_succ, List.set_cons_zero]
    have hMA := im_grown hi2_3 hg4 (fun e => by have := Option.some.inj e; simp only at this; omega)
    have hMB := im_grown hi1_2_3 hg4 (fun e => by have := Option.some.inj e; simp only at this; omega)
    have hg2n : fg = g2 ∨ n0 ≤ g2 := hpl.imp id (fun h => Nat.le_trans (Nat.le_trans (Nat.le_trans (Nat.le_trans (hle0) hg1.size) hg2.size) hg3.size) h)
    have hK4 : Keeps (fun b => b = fg) w5 W4 := hK3.grown1 hg4
    clear hr4
    refine drawn_take (i := 18) (v := .pointer (some ⟨g, k * 2, none⟩)) (some 119) rfl rfl (by kernel_rfl) (by kernel_rfl) (by kernel_rfl) (fun _ _ _ h => h) (Or.inl ⟨by kernel_rfl, fun wq hw => by go_simp⟩) hHeld ?_
    simp only [Act.put, List.setIfInBounds_toArray, List.set_cons_succ, List.set_cons_zero]
    refine drawn_take (i := 19) (v := .pointer (some ⟨g, k * 2 + 1, none⟩)) (some 120) rfl rfl (by kernel_rfl) (by kernel_rfl) (by kernel_rfl) (fun _ _ _ h => h) (Or.inl ⟨by kernel_rfl, fun wq hw => by go_simp⟩) hHeld ?_
    simp only [Act.put, List.setIfInBounds_toArray, List.set_cons_succ, List.set_cons_zero]
    refine wpAnyH_ready (rs := [20]) (by kernel_rfl) (by simp) ?_
    have hcf := (hK4.cellK (p := ⟨g, k * 2 + 1, none⟩) lg ngf).trans hc1
    have hfz := frozen_of_row _ _ (k * 2 + 1) _ _ ((hK4.block g lg ngf).trans hfrow)
    refine rdy_unit (i := 20) rfl rfl none rfl (W4.setCell ⟨g, k * 2 + 1, none⟩ (.slice (some ⟨g2, 0, none⟩) (i + 1) c2)) (by go_simp) (hK4.or.setCell (p := ⟨g, k * 2 + 1, none⟩) (Or.inr rfl) _) (fun hHeld => ?_) rdy_nil
    simp only [Act.put]
    refine wpAnyH_done (by kernel_rfl) ?_ _
    refine NoPanic.normal ?_
    have hKeep := hHeld
    clear hHeld
    obtain ⟨p1, X2, p2, X4, hr1', hr2', c1, c2', k0, k3, k4, ⟨cur, hcur⟩, F', c', hFin, hcx, hGr⟩ := HEnd.out m2 m1 g2 c2 W4 ho4 hMA hMB hn2 hn1 hg2n hK4
    clear hKeep
    skip
    obtain ⟨Wz, hWz⟩ : ∃ Wz, Wz = W4.setCell ⟨g, k * 2 + 1, none⟩ (.slice (some ⟨g2, 0, none⟩) (i + 1) c2) := ⟨_, rfl⟩
    rw [← hWz] at hr1' c1 c2' ⊢
    have HR1 := hidn hr1'
    have HR2 := hidn hr2'
    have fz0 := frozen_of_row _ _ (i * 5) _ _ hcur
    have fz3 := frozen_of_row _ _ (i * 5 + 3) _ _ hcur
    have fz4 := frozen_of_row _ _ (i * 5 + 4) _ _ hcur
    have HFin := hidn (And.intro hFin (And.intro hcx hGr))
    clear hr1' hr2' hcur hFin hcx hGr hWz hc1 hfrow
    go_wp2_with (at_builtin; first | (refine wpList_app_run2 rfl _ _ 29 29 rfl rfl (.slice (some ⟨Wz.heap.size, 0, none⟩) 0 0) _ _ rfl rfl HR1.out ?_) | (refine wpList_app_run2 rfl _ _ 29 29 rfl rfl (.slice (some ⟨X2.heap.size, 0, none⟩) 0 0) _ _ rfl rfl HR2.out ?_))
    go_ret
    exact ⟨rfl, _, _, _, _, HFin.out.1, ⟨c', g2, c2, HFin.out.2.1, rfl⟩, HG5.out.trans HFin.out.2.2⟩
  refine rdy_val (i := 13) rfl rfl (some 114) rfl (.slice (some ⟨Wd.heap.size, 0, none⟩) 128 128) (Wd.alloc (.cells (Array.replicate 128 (.int .u8 0)) 5)) (mkm_run rfl) ((hK0.grown0 (grown_alloc Wd _)).or) (fun hHeld => ?_) ?_
  · simp only [Act.put, List.setIfInBounds_toArray, List.set_cons_succ, List.set_cons_zero]
    have hi1 := im_make Wd
    have hg1 : Wd.grownBy (Wd.alloc (.cells (Array.replicate 128 (.int .u8 0)) 5)) none := grown_alloc Wd _
    obtain ⟨m1, hm1⟩ : ∃ b, b = Wd.heap.size := ⟨_, rfl⟩
    obtain ⟨W1, hW1⟩ : ∃ W', W' = Wd.alloc (.cells (Array.replicate 128 (.int .u8 0)) 5) := ⟨_, rfl⟩
    rw [← hW1] at hHeld hg1
    rw [← hm1, ← hW1] at hi1
    rw [← hm1, ← hW1]
    have hn1 : n0 ≤ m1 := by rw [hm1]; exact hle0
    have hl1 : m1 < W1.heap.size := own_lt hi1 _ rfl
    clear hW1
    have hK1 : Keeps (fun b => b = fg) w5 W1 := hK0.grown0 hg1
    have hrow0_1 := own_grown hrow0 hg1 (.inl (fun e => by cases e))
    refine wpAnyH_ready (rs := [12, 14]) (by kernel_rfl) (by simp) ?_
    have hcx2 := (hK1.cellK (p := ⟨g, k * 2 + 1, none⟩) lg ngf).trans hc1
    refine rdy_val (i := 12) rfl rfl (some 113) rfl (.slice (some ⟨fg, 0, none⟩) i fcc) W1 (by have q := hcx2; go_simp) hK1.or (fun hHeld => ?_) ?_
    · simp only [Act.put, List.setIfInBounds_toArray, List.set_cons_succ, List.set_cons_zero]
      refine wpAnyH_ready (rs := [14]) (by kernel_rfl) (by simp) ?_
      refine rdy_val (i := 14) rfl rfl (some 115) rfl (.slice (some ⟨W1.heap.size, 0, none⟩) 128 128) (W1.alloc (.cells (Array.replicate 128 (.int .u8 0)) 5)) (mkm_run rfl) ((hK1.grown0 (grown_alloc W1 _)).or) (fun hHeld => ?_) rdy_nil
      simp only [Act.put, List.setIfInBounds_toArray, List.set_cons_succ, List.set_cons_zero]
      have hi2 := im_make W1
      have hg2 : W1.grownBy (W1.alloc (.cells (Array.replicate 128 (.int .u8 0)) 5)) none := grown_alloc W1 _
      obtain ⟨m2, hm2⟩ : ∃ b, b = W1.heap.size := ⟨_, rfl⟩
      obtain ⟨W2, hW2⟩ : ∃ W', W' = W1.alloc (.cells (Array.replicate 128 (.int .u8 0)) 5) := ⟨_, rfl⟩
      rw [← hW2] at hHeld hg2
      rw [← hm2, ← hW2] at hi2
      rw [← hm2, ← hW2]
      have hn2 : n0 ≤ m2 := by rw [hm2]; exact Nat.le_trans (hle0) hg1.size
      have hl2 : m2 < W2.heap.size := own_lt hi2 _ rfl
      clear hW2
      have hi1_2 := im_grown hi1 hg2 (fun e => by cases e)
      have hl1_2 : m1 < W2.heap.size := Nat.lt_of_lt_of_le hl1 hg2.size
      have hK2 : Keeps (fun b => b = fg) w5 W2 := hK1.grown0 hg2
      have hrow0_1_2 := own_grown hrow0_1 hg2 (.inl (fun e => by cases e))
      refine drawn_take (i := 15) (v := .agg #[.slice none 0 0, .slice (some ⟨m1, 0, none⟩) 128 128, .slice (some ⟨m2, 0, none⟩) 128 128, .slice none 0 0, .bool false]) (some 116) rfl rfl (by kernel_rfl) (by kernel_rfl) (by kernel_rfl) (fun _ _ _ h => h) (Or.inl ⟨by kernel_rfl, fun wq hw => by go_simp⟩) hHeld ?_
      simp only [Act.put, List.setIfInBounds_toArray, List.set_cons_succ, List.set_cons_zero]
      refine wpAnyH_ready (rs := [16]) (by kernel_rfl) (by simp) ?_
      refine rdy_val (i := 16) rfl rfl (some 117) rfl (.slice (some ⟨W2.heap.size, 0, none⟩) 1 1) (W2.alloc (.cells #[.slice none 0 0, .slice (some ⟨m1, 0, none⟩) 128 128, .slice (some ⟨m2, 0, none⟩) 128 128, .slice none 0 0, .bool false] 57)) (bs1_run (x := .tmp 116) rfl (by kernel_rfl)) ((hK2.grown0 (grown_alloc W2 _)).or) (fun hHeld => ?_) rdy_nil
      simp only [Act.put, List.setIfInBounds_toArray, List.set_cons_succ, List.set_cons_zero]
      have he3 := heap_alloc_new W2 (.cells #[.slice none 0 0, .slice (some ⟨m1, 0, none⟩) 128 128, .slice (some ⟨m2, 0, none⟩) 128 128, .slice none 0 0, .bool false] 57)
      have hg3 : W2.grownBy (W2.alloc (.cells #[.slice none 0 0, .slice (some ⟨m1, 0, none⟩) 128 128, .slice (some ⟨m2, 0, none⟩) 128 128, .slice none 0 0, .bool false] 57)) none := grown_alloc W2 _
      obtain ⟨b3, hb3⟩ : ∃ b, b = W2.heap.size := ⟨_, rfl⟩
      obtain ⟨W3, hW3⟩ : ∃ W', W' = W2.alloc (.cells #[.slice none 0 0, .slice (some ⟨m1, 0, none⟩) 128 128, .slice (some ⟨m2, 0, none⟩) 128 128, .slice none 0 0, .bool false] 57) := ⟨_, rfl⟩
      rw [← hW3] at hHeld hg3
      rw [← hb3, ← hW3] at he3
      rw [← hb3, ← hW3]
      clear hW3
      have hi1_2_3 := im_grown hi1_2 hg3 (fun e => by cases e)
      have hl1_2_3 : m1 < W3.heap.size := Nat.lt_of_lt_of_le hl1_2 hg3.size
      have hi2_3 := im_grown hi2 hg3 (fun e => by cases e)
      have hl2_3 : m2 < W3.heap.size := Nat.lt_of_lt_of_le hl2 hg3.size
      have hK3 : Keeps (fun b => b = fg) w5 W3 := hK2.grown0 hg3
      have hrow0_1_2_3 := own_grown hrow0_1_2 hg3 (.inl (fun e => by cases e))
      refine wpAnyH_ready (rs := [17]) (by kernel_rfl) (by simp) ?_
      obtain ⟨g2, c2, W4, hr4, ho4, hg4, hpl⟩ := appC W3 fg i fcc (cellsC f.l) hrow0_1_2_3 b3 (.slice none 0 0) (.slice (some ⟨m1, 0, none⟩) 128 128) (.slice (some ⟨m2, 0, none⟩) 128 128) (.slice none 0 0) (.bool false) rfl rfl rfl rfl rfl he3 (by unfold maxLen; omega) (by omega)
      refine rdy_val (i := 17) rfl rfl (some 118) rfl (.slice (some ⟨g2, 0, none⟩) (i + 1) c2) W4 (app_run3 (x := .tmp 113) (y := .tmp 117) rfl (by kernel_rfl) (by kernel_rfl) hr4) ((hK3.grown1 hg4).or) (fun hHeld => ?_) rdy_nil
      simp only [Act.put, List.setIfInBounds_toArray, List.set_cons_succ, List.set_cons_zero]
      have hMA := im_grown hi1_2_3 hg4 (fun e => by have := Option.some.inj e; simp only at this; omega)
      have hMB := im_grown hi2_3 hg4 (fun e => by have := Option.some.inj e; simp only at this; omega)
      have hg2n : fg = g2 ∨ n0 ≤ g2 := hpl.imp id (fun h => Nat.le_trans (Nat.le_trans (Nat.le_trans (Nat.le_trans (hle0) hg1.size) hg2.size) hg3.size) h)
      have hK4 : Keeps (fun b => b = fg) w5 W4 := hK3.grown1 hg4
      clear hr4
      refine drawn_take (i := 18) (v := .pointer (some ⟨g, k * 2, none⟩)) (some 119) rfl rfl (by kernel_rfl) (by kernel_rfl) (by kernel_rfl) (fun _ _ _ h => h) (Or.inl ⟨by kernel_rfl, fun wq hw => by go_simp⟩) hHeld ?_
      simp only [Act.put, List.setIfInBounds_toArray, List.set_cons_succ, List.set_cons_zero]
      refine drawn_take (i := 19) (v := .pointer (some ⟨g, k * 2 + 1, none⟩)) (some 120) rfl rfl (by kernel_rfl) (by kernel_rfl) (by kernel_rfl) (fun _ _ _ h => h) (Or.inl ⟨by kernel_rfl, fun wq hw => by go_simp⟩) hHeld ?_
      simp only [Act.put, List.setIfInBounds_toArray, List.set_cons_succ, List.set_cons_zero]
      refine wpAnyH_ready (rs := [20]) (by kernel_rfl) (by simp) ?_
      have hcf := (hK4.cellK (p := ⟨g, k * 2 + 1, none⟩) lg ngf).trans hc1
      have hfz := frozen_of_row _ _ (k * 2 + 1) _ _ ((hK4.block g lg ngf).trans hfrow)
      refine rdy_unit (i := 20) rfl rfl none rfl (W4.setCell ⟨g, k * 2 + 1, none⟩ (.slice (some ⟨g2, 0, none⟩) (i + 1) c2)) (by go_simp) (hK4.or.setCell (p := ⟨g, k * 2 + 1, none⟩) (Or.inr rfl) _) (fun hHeld => ?_) rdy_nil
      simp only [Act.put]
      refine wpAnyH_done (by kernel_rfl) ?_ _
      refine NoPanic.normal ?_
      have hKeep := hHeld
      clear hHeld
      obtain ⟨p1, X2, p2, X4, hr1', hr2', c1, c2', k0, k3, k4, ⟨cur, hcur⟩, F', c', hFin, hcx, hGr⟩ := HEnd.out m1 m2 g2 c2 W4 ho4 hMA hMB hn1 hn2 hg2n hK4
      clear hKeep
      skip
      obtain ⟨Wz, hWz⟩ : ∃ Wz, Wz = W4.setCell ⟨g, k * 2 + 1, none⟩ (.slice (some ⟨g2, 0, none⟩) (i + 1) c2) := ⟨_, rfl⟩
      rw [← hWz] at hr1' c1 c2' ⊢
      have HR1 := hidn hr1'
      have HR2 := hidn hr2'
      have fz0 := frozen_of_row _ _ (i * 5) _ _ hcur
      have fz3 := frozen_of_row _ _ (i * 5 + 3) _ _ hcur
      have fz4 := frozen_of_row _ _ (i * 5 + 4) _ _ hcur
      have HFin := hidn (And.intro hFin (And.intro hcx hGr))
      clear hr1' hr2' hcur hFin hcx hGr hWz hc1 hfrow
      go_wp2_with (at_builtin; first | (refine wpList_app_run2 rfl _ _ 29 29 rfl rfl (.slice (some ⟨Wz.heap.size, 0, none⟩) 0 0) _ _ rfl rfl HR1.out ?_) | (refine wpList_app_run2 rfl _ _ 29 29 rfl rfl (.slice (some ⟨X2.heap.size, 0, none⟩) 0 0) _ _ rfl rfl HR2.out ?_))
      go_ret
      exact ⟨rfl, _, _, _, _, HFin.out.1, ⟨c', g2, c2, HFin.out.2.1, rfl⟩, HG5.out.trans HFin.out.2.2⟩
    refine rdy_val (i := 14) rfl rfl (some 115) rfl (.slice (some ⟨W1.heap.size, 0, none⟩) 128 128) (W1.alloc (.cells (Array.replicate 128 (.int .u8 0)) 5)) (mkm_run rfl) ((hK1.grown0 (grown_alloc W1 _)).or) (fun hHeld => ?_) rdy_nil
    simp only [Act.put, List.setIfInBounds_toArray, List.set_cons_succ, List.set_cons_zero]
    have hi2 := im_make W1
    have hg2 : W1.grownBy (W1.alloc (.cells (Array.replicate 128 (.int .u8 0)) 5)) none := grown_alloc W1 _
    obtain ⟨m2, hm2⟩ : ∃ b, b = W1.heap.size := ⟨_, rfl⟩
    obtain ⟨W2, hW2⟩ : ∃ W', W' = W1.alloc (.cells (Array.replicate 128 (.int .u8 0)) 5) := ⟨_, rfl⟩
    rw [← hW2] at hHeld hg2
    rw [← hm2, ← hW2] at hi2
    rw [← hm2, ← hW2]
    have hn2 : n0 ≤ m2 := by rw [hm2]; exact Nat.le_trans (hle0) hg1.size
    have hl2 : m2 < W2.heap.size := own_lt hi2 _ rfl
    clear hW2
    have hi1_2 := im_grown hi1 hg2 (fun e => by cases e)
    have hl1_2 : m1 < W2.heap.size := Nat.lt_of_lt_of_le hl1 hg2.size
    have hK2 : Keeps (fun b => b = fg) w5 W2 := hK1.grown0 hg2
    have hrow0_1_2 := own_grown hrow0_1 hg2 (.inl (fun e => by cases e))
    refine drawn_take (i := 15) (v := .agg #[.slice none 0 0, .slice (some ⟨m1, 0, none⟩) 128 128, .slice (some ⟨m2, 0, none⟩) 128 128, .slice none 0 0, .bool false]) (some 116) rfl rfl (by kernel_rfl) (by kernel_rfl) (by kernel_rfl) (fun _ _ _ h => h) (Or.inl ⟨by kernel_rfl, fun wq hw => by go_simp⟩) hHeld ?_
    simp only [Act.put, List.setIfInBounds_toArray, List.set_cons_succ, List.set_cons_zero]
    refine wpAnyH_ready (rs := [12, 16]) (by kernel_rfl) (by simp) ?_
    have hcx3 := (hK2.cellK (p := ⟨g, k * 2 + 1, none⟩) lg ngf).trans hc1
    refine rdy_val (i := 12) rfl rfl (some 113) rfl (.slice (some ⟨fg, 0, none⟩) i fcc) W2 (by have q := hcx3; go_simp) hK2.or (fun hHeld => ?_) ?_
    · simp only [Act.put, List.setIfInBounds_toArray, List.set_cons_succ, List.set_cons_zero]
      refine wpAnyH_ready (rs := [16]) (by kernel_rfl) (by simp) ?_
      refine rdy_val (i := 16) rfl rfl (some 117) rfl (.slice (some ⟨W2.heap.size, 0, none⟩) 1 1) (W2.alloc (.cells #[.slice none 0 0, .slice (some ⟨m1, 0, none⟩) 128 128, .slice (some ⟨m2, 0, none⟩) 128 128, .slice none 0 0, .bool false] 57)) (bs1_run (x := .tmp 116) rfl (by kernel_rfl)) ((hK2.grown0 (grown_alloc W2 _)).or) (fun hHeld => ?_) rdy_nil
      simp only [Act.put, List.setIfInBounds_toArray, List.set_cons_succ, List.set_cons_zero]
      have he3 := heap_alloc_new W2 (.cells #[.slice none 0 0, .slice (some ⟨m1, 0, none⟩) 128 128, .slice (some ⟨m2, 0, none⟩) 128 128, .slice none 0 0, .bool false] 57)
      have hg3 : W2.grownBy (W2.alloc (.cells #[.slice none 0 0, .slice (some ⟨m1, 0, none⟩) 128 128, .slice (some ⟨m2, 0, none⟩) 128 128, .slice none 0 0, .bool false] 57)) none := grown_alloc W2 _
      obtain ⟨b3, hb3⟩ : ∃ b, b = W2.heap.size := ⟨_, rfl⟩
      obtain ⟨W3, hW3⟩ : ∃ W', W' = W2.alloc (.cells #[.slice none 0 0, .slice (some ⟨m1, 0, none⟩) 128 128, .slice (some ⟨m2, 0, none⟩) 128 128, .slice none 0 0, .bool false] 57) := ⟨_, rfl⟩
      rw [← hW3] at hHeld hg3
      rw [← hb3, ← hW3] at he3
      rw [← hb3, ← hW3]
      clear hW3
      have hi1_2_3 := im_grown hi1_2 hg3 (fun e => by cases e)
      have hl1_2_3 : m1 < W3.heap.size := Nat.lt_of_lt_of_le hl1_2 hg3.size
      have hi2_3 := im_grown hi2 hg3 (fun e => by cases e)
      have hl2_3 : m2 < W3.heap.size := Nat.lt_of_lt_of_le hl2 hg3.size
      have hK3 : Keeps (fun b => b = fg) w5 W3 := hK2.grown0 hg3
      have hrow0_1_2_3 := own_grown hrow0_1_2 hg3 (.inl (fun e => by cases e))
      refine wpAnyH_ready (rs := [17]) (by kernel_rfl) (by simp) ?_
      obtain ⟨g2, c2, W4, hr4, ho4, hg4, hpl⟩ := appC W3 fg i fcc (cellsC f.l) hrow0_1_2_3 b3 (.slice none 0 0) (.slice (some ⟨m1, 0, none⟩) 128 128) (.slice (some ⟨m2, 0, none⟩) 128 128) (.slice none 0 0) (.bool false) rfl rfl rfl rfl rfl he3 (by unfold maxLen; omega) (by omega)
      refine rdy_val (i := 17) rfl rfl (some 118) rfl (.slice (some ⟨g2, 0, none⟩) (i + 1) c2) W4 (app_run3 (x := .tmp 113) (y := .tmp 117) rfl (by kernel_rfl) (by kernel_rfl) hr4) ((hK3.grown1 hg4).or) (fun hHeld => ?_) rdy_nil
      simp only [Act.put, List.setIfInBounds_toArray, List.set_cons_succ, List.set_cons_zero]
      have hMA := im_grown hi1_2_3 hg4 (fun e => by have := Option.some.inj e; simp only at this; omega)
      have hMB := im_grown hi2_3 hg4 (fun e => by have := Option.some.inj e; simp only at this; omega)
      have hg2n : fg = g2 ∨ n0 ≤ g2 := hpl.imp id (fun h => Nat.le_trans (Nat.le_trans (Nat.le_trans (Nat.le_trans (hle0) hg1.size) hg2.size) hg3.size) h)
      have hK4 : Keeps (fun b => b = fg) w5 W4 := hK3.grown1 hg4
      clear hr4
      refine drawn_take (i := 18) (v := .pointer (some ⟨g, k * 2, none⟩)) (some 119) rfl rfl (by kernel_rfl) (by kernel_rfl) (by kernel_rfl) (fun _ _ _ h => h) (Or.inl ⟨by kernel_rfl, fun wq hw => by go_simp⟩) hHeld ?_
      simp only [Act.put, List.setIfInBounds_toArray, List.set_cons_succ, List.set_cons_zero]
      refine drawn_take (i := 19) (v := .pointer (some ⟨g, k * 2 + 1, none⟩)) (some 120) rfl rfl (by kernel_rfl) (by kernel_rfl) (by kernel_rfl) (fun _ _ _ h => h) (Or.inl ⟨by kernel_rfl, fun wq hw => by go_simp⟩) hHeld ?_
      simp only [Act.put, List.setIfInBounds_toArray, List.set_cons_succ, List.set_cons_zero]
      refine wpAnyH_ready (rs := [20]) (by kernel_rfl) (by simp) ?_
      have hcf := (hK4.cellK (p := ⟨g, k * 2 + 1, none⟩) lg ngf).trans hc1
      have hfz := frozen_of_row _ _ (k * 2 + 1) _ _ ((hK4.block g lg ngf).trans hfrow)
      refine rdy_unit (i := 20) rfl rfl none rfl (W4.setCell ⟨g, k * 2 + 1, none⟩ (.slice (some ⟨g2, 0, none⟩) (i + 1) c2)) (by go_simp) (hK4.or.setCell (p := ⟨g, k * 2 + 1, none⟩) (Or.inr rfl) _) (fun hHeld => ?_) rdy_nil
      simp only [Act.put]
      refine wpAnyH_done (by kernel_rfl) ?_ _
      refine NoPanic.normal ?_
      have hKeep := hHeld
      clear hHeld
      obtain ⟨p1, X2, p2, X4, hr1', hr2', c1, c2', k0, k3, k4, ⟨cur, hcur⟩, F', c', hFin, hcx, hGr⟩ := HEnd.out m1 m2 g2 c2 W4 ho4 hMA hMB hn1 hn2 hg2n hK4
      clear hKeep
      skip
      obtain ⟨Wz, hWz⟩ : ∃ Wz, Wz = W4.setCell ⟨g, k * 2 + 1, none⟩ (.slice (some ⟨g2, 0, none⟩) (i + 1) c2) := ⟨_, rfl⟩
      rw [← hWz] at hr1' c1 c2' ⊢
      have HR1 := hidn hr1'
      have HR2 := hidn hr2'
      have fz0 := frozen_of_row _ _ (i * 5) _ _ hcur
      have fz3 := frozen_of_row _ _ (i * 5 + 3) _ _ hcur
      have fz4 := frozen_of_row _ _ (i * 5 + 4) _ _ hcur
      have HFin := hidn (And.intro hFin (And.intro hcx hGr))
      clear hr1' hr2' hcur hFin hcx hGr hWz hc1 hfrow
      go_wp2_with (at_builtin; first | (refine wpList_app_run2 rfl _ _ 29 29 rfl rfl (.slice (some ⟨Wz.heap.size, 0, none⟩) 0 0) _ _ rfl rfl HR1.out ?_) | (refine wpList_app_run2 rfl _ _ 29 29 rfl rfl (.slice (some ⟨X2.heap.size, 0, none⟩) 0 0) _ _ rfl rfl HR2.out ?_))
      go_ret
      exact ⟨rfl, _, _, _, _, HFin.out.1, ⟨c', g2, c2, HFin.out.2.1, rfl⟩, HG5.out.trans HFin.out.2.2⟩
    refine rdy_val (i := 16) rfl rfl (some 117) rfl (.slice (some ⟨W2.heap.size, 0, none⟩) 1 1) (W2.alloc (.cells #[.slice none 0 0, .slice (some ⟨m1, 0, none⟩) 128 128, .slice (some ⟨m2, 0, none⟩) 128 128, .slice none 0 0, .bool false] 57)) (bs1_run (x := .tmp 116) rfl (by kernel_rfl)) ((hK2.grown0 (grown_alloc W2 _)).or) (fun hHeld => ?_) rdy_nil
    simp only [Act.put, List.setIfInBounds_toArray, List.set_cons_succ, List.set_cons_zero]
    have he3 := heap_alloc_new W2 (.cells #[.slice none 0 0, .slice (some ⟨m1, 0, none⟩) 128 128, .slice (some ⟨m2, 0, none⟩) 128 128, .slice none 0 0, .bool false] 57)
    have hg3 : W2.grownBy (W2.alloc (.cells #[.slice none 0 0, .slice (some ⟨m1, 0, none⟩) 128 128, .slice (some ⟨m2, 0, none⟩) 128 128, .slice none 0 0, .bool false] 57)) none := grown_alloc W2 _
    obtain ⟨b3, hb3⟩ : ∃ b, b = W2.heap.size := ⟨_, rfl⟩
    obtain ⟨W3, hW3⟩ : ∃ W', W' = W2.alloc (.cells #[.slice none 0 0, .slice (some ⟨m1, 0, none⟩) 128 128, .slice (some ⟨m2, 0, none⟩) 128 128, .slice none 0 0, .bool false] 57) := ⟨_, rfl⟩
    rw [← hW3] at hHeld hg3
    rw [← hb3, ← hW3] at he3
    rw [← hb3, ← hW3]
    clear hW3
    have hi1_2_3 := im_grown hi1_2 hg3 (fun e => by cases e)
    have hl1_2_3 : m1 < W3.heap.size := Nat.lt_of_lt_of_le hl1_2 hg3.size
    have hi2_3 := im_grown hi2 hg3 (fun e => by cases e)
    have hl2_3 : m2 < W3.heap.size := Nat.lt_of_lt_of_le hl2 hg3.size
    have hK3 : Keeps (fun b => b = fg) w5 W3 := hK2.grown0 hg3
    have hrow0_1_2_3 := own_grown hrow0_1_2 hg3 (.inl (fun e => by cases e))
    refine wpAnyH_ready (rs := [12]) (by kernel_rfl) (by simp) ?_
    have hcx4 := (hK3.cellK (p := ⟨g, k * 2 + 1, none⟩) lg ngf).trans hc1
    refine rdy_val (i := 12) rfl rfl (some 113) rfl (.slice (some ⟨fg, 0, none⟩) i fcc) W3 (by have q := hcx4; go_simp) hK3.or (fun hHeld => ?_) rdy_nil
    simp only [Act.put, List.setIfInBounds_toArray, List.set_cons_succ, List.set_cons_zero]
    refine wpAnyH_ready (rs := [17]) (by kernel_rfl) (by simp) ?_
    obtain ⟨g2, c2, W4, hr4, ho4, hg4, hpl⟩ := appC W3 fg i fcc (cellsC f.l) hrow0_1_2_3 b3 (.slice none 0 0) (.slice (some ⟨m1, 0, none⟩) 128 128) (.slice (some ⟨m2, 0, none⟩) 128 128) (.slice none 0 0) (.bool false) rfl rfl rfl rfl rfl he3 (by unfold maxLen; omega) (by omega)
    refine rdy_val (i := 17) rfl rfl (some 118) rfl (.slice (some ⟨g2, 0, none⟩) (i + 1) c2) W4 (app_run3 (x := .tmp 113) (y := .tmp 117) rfl (by kernel_rfl) (by kernel_rfl) hr4) ((hK3.grown1 hg4).or) (fun hHeld => ?_) rdy_nil
    simp only [Act.put, List.setIfInBounds_toArray, List.set_cons_succ, List.set_cons_zero]
    have hMA := im_grown hi1_2_3 hg4 (fun e => by have := Option.some.inj e; simp only at this; omega)
    have hMB := im_grown hi2_3 hg4 (fun e => by have := Option.some.inj e; simp only at this; omega)
    have hg2n : fg = g2 ∨ n0 ≤ g2 := hpl.imp id (fun h => Nat.le_trans (Nat.le_trans (Nat.le_trans (Nat.le_trans (hle0) hg1.size) hg2.size) hg3.size) h)
    have hK4 : Keeps (fun b => b = fg) w5 W4 := hK3.grown1 hg4
    clear hr4
    refine drawn_take (i := 18) (v := .pointer (some ⟨g, k * 2, none⟩)) (some 119) rfl rfl (by kernel_rfl) (by kernel_rfl) (by kernel_rfl) (fun _ _ _ h => h) (Or.inl ⟨by kernel_rfl, fun wq hw => by go_simp⟩) hHeld ?_
    simp only [Act.put, List.setIfInBounds_toArray, List.set_cons_succ, List.set_cons_zero]
    refine drawn_take (i := 19) (v := .pointer (some ⟨g, k * 2 + 1, none⟩)) (some 120) rfl rfl (by kernel_rfl) (by kernel_rfl) (by kernel_rfl) (fun _ _ _ h => h) (Or.inl ⟨by kernel_rfl, fun wq hw => by go_simp⟩) hHeld ?_
    simp only [Act.put, List.setIfInBounds_toArray, List.set_cons_succ, List.set_cons_zero]
    refine wpAnyH_ready (rs := [20]) (by kernel_rfl) (by simp) ?_
    have hcf := (hK4.cellK (p := ⟨g, k * 2 + 1, none⟩) lg ngf).trans hc1
    have hfz := frozen_of_row _ _ (k * 2 + 1) _ _ ((hK4.block g lg ngf).trans hfrow)
    refine rdy_unit (i := 20) rfl rfl none rfl (W4.setCell ⟨g, k * 2 + 1, none⟩ (.slice (some ⟨g2, 0, none⟩) (i + 1) c2)) (by go_simp) (hK4.or.setCell (p := ⟨g, k * 2 + 1, none⟩) (Or.inr rfl) _) (fun hHeld => ?_) rdy_nil
    simp only [Act.put]
    refine wpAnyH_done (by kernel_rfl) ?_ _
    refine NoPanic.normal ?_
    have hKeep := hHeld
    clear hHeld
    obtain ⟨p1, X2, p2, X4, hr1', hr2', c1, c2', k0, k3, k4, ⟨cur, hcur⟩, F', c', hFin, hcx, hGr⟩ := HEnd.out m1 m2 g2 c2 W4 ho4 hMA hMB hn1 hn2 hg2n hK4
    clear hKeep
    skip
    obtain ⟨Wz, hWz⟩ : ∃ Wz, Wz = W4.setCell ⟨g, k * 2 + 1, none⟩ (.slice (some ⟨g2, 0, none⟩) (i + 1) c2) := ⟨_, rfl⟩
    rw [← hWz] at hr1' c1 c2' ⊢
    have HR1 := hidn hr1'
    have HR2 := hidn hr2'
    have fz0 := frozen_of_row _ _ (i * 5) _ _ hcur
    have fz3 := frozen_of_row _ _ (i * 5 + 3) _ _ hcur
    have fz4 := frozen_of_row _ _ (i * 5 + 4) _ _ hcur
    have HFin := hidn (And.intro hFin (And.intro hcx hGr))
    clear hr1' hr2' hcur hFin hcx hGr hWz hc1 hfrow
    go_wp2_with (at_builtin; first | (refine wpList_app_run2 rfl _ _ 29 29 rfl rfl (.slice (some ⟨Wz.heap.size, 0, none⟩) 0 0) _ _ rfl rfl HR1.out ?_) | (refine wpList_app_run2 rfl _ _ 29 29 rfl rfl (.slice (some ⟨X2.heap.size, 0, none⟩) 0 0) _ _ rfl rfl HR2.out ?_))
    go_ret
    exact ⟨rfl, _, _, _, _, HFin.out.1, ⟨c', g2, c2, HFin.out.2.1, rfl⟩, HG5.out.trans HFin.out.2.2⟩
  refine rdy_val (i := 14) rfl rfl (some 115) rfl (.slice (some ⟨Wd.heap.size, 0, none⟩) 128 128) (Wd.alloc (.cells (Array.replicate 128 (.int .u8 0)) 5)) (mkm_run rfl) ((hK0.grown0 (grown_alloc Wd _)).or) (fun hHeld => ?_) rdy_nil
  simp only [Act.put, List.setIfInBounds_toArray, List.set_cons_succ, List.set_cons_zero]
  have hi1 := im_make Wd
  have hg1 : Wd.grownBy (Wd.alloc (.cells (Array.replicate 128 (.int .u8 0)) 5)) none := grown_alloc Wd _
  obtain ⟨m1, hm1⟩ : ∃ b, b = Wd.heap.size := ⟨_, rfl⟩
  obtain ⟨W1, hW1⟩ : ∃ W', W' = Wd.alloc (.cells (Array.replicate 128 (.int .u8 0)) 5) := ⟨_, rfl⟩
  rw [← hW1] at hHeld hg1
  rw [← hm1, ← hW1] at hi1
  rw [← hm1, ← hW1]
  have hn1 : n0 ≤ m1 := by rw [hm1]; exact hle0
  have hl1 : m1 < W1.heap.size := own_lt hi1 _ rfl
  clear hW1
  have hK1 : Keeps (fun b => b = fg) w5 W1 := hK0.grown0 hg1
  have hrow0_1 := own_grown hrow0 hg1 (.inl (fun e => by cases e))
  refine wpAnyH_ready (rs := [12, 13]) (by kernel_rfl) (by simp) ?_
  have hcx2 := (hK1.cellK (p := ⟨g, k * 2 + 1, none⟩) lg ngf).trans hc1
  refine rdy_val (i := 12) rfl rfl (some 113) rfl (.slice (some ⟨fg, 0, none⟩) i fcc) W1 (by have q := hcx2; go_simp) hK1.or (fun hHeld => ?_) ?_
  · simp only [Act.put, List.setIfInBounds_toArray, List.set_cons_succ, List.set_cons_zero]
    refine wpAnyH_ready (rs := [13]) (by kernel_rfl) (by simp) ?_
    refine rdy_val (i := 13) rfl rfl (some 114) rfl (.slice (some ⟨W1.heap.size, 0, none⟩) 128 128) (W1.alloc (.cells (Array.replicate 128 (.int .u8 0)) 5)) (mkm_run rfl) ((hK1.grown0 (grown_alloc W1 _)).or) (fun hHeld => ?_) rdy_nil
    simp only [Act.put, List.setIfInBounds_toArray, List.set_cons_succ, List.set_cons_zero]
    have hi2 := im_make W1
    have hg2 : W1.grownBy (W1.alloc (.cells (Array.replicate 128 (.int .u8 0)) 5)) none := grown_alloc W1 _
    obtain ⟨m2, hm2⟩ : ∃ b, b = W1.heap.size := ⟨_, rfl⟩
    obtain ⟨W2, hW2⟩ : ∃ W', W' = W1.alloc (.cells (Array.replicate 128 (.int .u8 0)) 5) := ⟨_, rfl⟩
    rw [← hW2] at hHeld hg2
    rw [← hm2, ← hW2] at hi2
    rw [← hm2, ← hW2]
    have hn2 : n0 ≤ m2 := by rw [hm2]; exact Nat.le_trans (hle0) hg1.size
    have hl2 : m2 < W2.heap.size := own_lt hi2 _ rfl
    clear hW2
    have hi1_2 := im_grown hi1 hg2 (fun e => by cases e)
    have hl1_2 : m1 < W2.heap.size := Nat.lt_of_lt_of_le hl1 hg2.size
    have hK2 : Keeps (fun b => b = fg) w5 W2 := hK1.grown0 hg2
    have hrow0_1_2 := own_grown hrow0_1 hg2 (.inl (fun e => by cases e))
    refine drawn_take (i := 15) (v := .agg #[.slice none 0 0, .slice (some ⟨m2, 0, none⟩) 128 128, .slice (some ⟨m1, 0, none⟩) 128 128, .slice none 0 0, .bool false]) (some 116) rfl rfl (by kernel_rfl) (by kernel_rfl) (by kernel_rfl) (fun _ _ _ h => h) (Or.inl ⟨by kernel_rfl, fun wq hw => by go_simp⟩) hHeld ?_
    simp only [Act.put, List.setIfInBounds_toArray, List.set_cons_succ, List.set_cons_zero]
    refine wpAnyH_ready (rs := [16]) (by kernel_rfl) (by simp) ?_
    refine rdy_val (i := 16) rfl rfl (some 117) rfl (.slice (some ⟨W2.heap.size, 0, none⟩) 1 1) (W2.alloc (.cells #[.slice none 0 0, .slice (some ⟨m2, 0, none⟩) 128 128, .slice (some ⟨m1, 0, none⟩) 128 128, .slice none 0 0, .bool false] 57)) (bs1_run (x := .tmp 116) rfl (by kernel_rfl)) ((hK2.grown0 (grown_alloc W2 _)).or) (fun hHeld => ?_) rdy_nil
    simp only [Act.put, List.setIfInBounds_toArray, List.set_cons_succ, List.set_cons_zero]
    have he3 := heap_alloc_new W2 (.cells #[.slice none 0 0, .slice (some ⟨m2, 0, none⟩) 128 128, .slice (some ⟨m1, 0, none⟩) 128 128, .slice none 0 0, .bool false] 57)
    have hg3 : W2.grownBy (W2.alloc (.cells #[.slice none 0 0, .slice (some ⟨m2, 0, none⟩) 128 128, .slice (some ⟨m1, 0, none⟩) 128 128, .slice none 0 0, .bool false] 57)) none := grown_alloc W2 _
    obtain ⟨b3, hb3⟩ : ∃ b, b = W2.heap.size := ⟨_, rfl⟩
    obtain ⟨W3, hW3⟩ : ∃ W', W' = W2.alloc (.cells #[.slice none 0 0, .slice (some ⟨m2, 0, none⟩) 128 128, .slice (some ⟨m1, 0, none⟩) 128 128, .slice none 0 0, .bool false] 57) := ⟨_, rfl⟩
    rw [← hW3] at hHeld hg3
    rw [← hb3, ← hW3] at he3
    rw [← hb3, ← hW3]
    clear hW3
    have hi1_2_3 := im_grown hi1_2 hg3 (fun e => by cases e)
    have hl1_2_3 : m1 < W3.heap.size := Nat.lt_of_lt_of_le hl1_2 hg3.size
    have hi2_3 := im_grown hi2 hg3 (fun e => by cases e)
    have hl2_3 : m2 < W3.heap.size := Nat.lt_of_lt_of_le hl2 hg3.size
    have hK3 : Keeps (fun b => b = fg) w5 W3 := hK2.grown0 hg3
    have hrow0_1_2_3 := own_grown hrow0_1_2 hg3 (.inl (fun e => by cases e))
    refine wpAnyH_ready (rs := [17]) (by kernel_rfl) (by simp) ?_
    obtain ⟨g2, c2, W4, hr4, ho4, hg4, hpl⟩ := appC W3 fg i fcc (cellsC f.l) hrow0_1_2_3 b3 (.slice none 0 0) (.slice (some ⟨m2, 0, none⟩) 128 128) (.slice (some ⟨m1, 0, none⟩) 128 128) (.slice none 0 0) (.bool false) rfl rfl rfl rfl rfl he3 (by unfold maxLen; omega) (by omega)
    refine rdy_val (i := 17) rfl rfl (some 118) rfl (.slice (some ⟨g2, 0, none⟩) (i + 1) c2) W4 (app_run3 (x := .tmp 113) (y := .tmp 117) rfl (by kernel_rfl) (by kernel_rfl) hr4) ((hK3.grown1 hg4).or) (fun hHeld => ?_) rdy_nil
    simp only [Act.put, List.setIfInBounds_toArray, List.set_cons_succ, List.set_cons_zero]
    have hMA := im_grown hi2_3 hg4 (fun e => by have := Option.some.inj e; simp only at this; omega)
    have hMB := im_grown hi1_2_3 hg4 (fun e => by have := Option.some.inj e; simp only at this; omega)
    have hg2n : fg = g2 ∨ n0 ≤ g2 := hpl.imp id (fun h => Nat.le_trans (Nat.le_trans (Nat.le_trans (Nat.le_trans (hle0) hg1.size) hg2.size) hg3.size) h)
    have hK4 : Keeps (fun b => b = fg) w5 W4 := hK3.grown1 hg4
    clear hr4
    refine drawn_take (i := 18) (v := .pointer (some ⟨g, k * 2, none⟩)) (some 119) rfl rfl (by kernel_rfl) (by kernel_rfl) (by kernel_rfl) (fun _ _ _ h => h) (Or.inl ⟨by kernel_rfl, fun wq hw => by go_simp⟩) hHeld ?_
    simp only [Act.put, List.setIfInBounds_toArray, List.set_cons_succ, List.set_cons_zero]
    refine drawn_take (i := 19) (v := .pointer (some ⟨g, k * 2 + 1, none⟩)) (some 120) rfl rfl (by kernel_rfl) (by kernel_rfl) (by kernel_rfl) (fun _ _ _ h => h) (Or.inl ⟨by kernel_rfl, fun wq hw => by go_simp⟩) hHeld ?_
    simp only [Act.put, List.setIfInBounds_toArray, List.set_cons_succ, List.set_cons_zero]
    refine wpAnyH_ready (rs := [20]) (by kernel_rfl) (by simp) ?_
    have hcf := (hK4.cellK (p := ⟨g, k * 2 + 1, none⟩) lg ngf).trans hc1
    have hfz := frozen_of_row _ _ (k * 2 + 1) _ _ ((hK4.block g lg ngf).trans hfrow)
    refine rdy_unit (i := 20) rfl rfl none rfl (W4.setCell ⟨g, k * 2 + 1, none⟩ (.slice (some ⟨g2, 0, none⟩) (i + 1) c2)) (by go_simp) (hK4.or.setCell (p := ⟨g, k * 2 + 1, none⟩) (Or.inr rfl) _) (fun hHeld => ?_) rdy_nil
    simp only [Act.put]
    refine wpAnyH_done (by kernel_rfl) ?_ _
    refine NoPanic.normal ?_
    have hKeep := hHeld
    clear hHeld
    obtain ⟨p1, X2, p2, X4, hr1', hr2', c1, c2', k0, k3, k4, ⟨cur, hcur⟩, F', c', hFin, hcx, hGr⟩ := HEnd.out m2 m1 g2 c2 W4 ho4 hMA hMB hn2 hn1 hg2n hK4
    clear hKeep
    skip
    obtain ⟨Wz, hWz⟩ : ∃ Wz, Wz = W4.setCell ⟨g, k * 2 + 1, none⟩ (.slice (some ⟨g2, 0, none⟩) (i + 1) c2) := ⟨_, rfl⟩
    rw [← hWz] at hr1' c1 c2' ⊢
    have HR1 := hidn hr1'
    have HR2 := hidn hr2'
    have fz0 := frozen_of_row _ _ (i * 5) _ _ hcur
    have fz3 := frozen_of_row _ _ (i * 5 + 3) _ _ hcur
    have fz4 := frozen_of_row _ _ (i * 5 + 4) _ _ hcur
    have HFin := hidn (And.intro hFin (And.intro hcx hGr))
    clear hr1' hr2' hcur hFin hcx hGr hWz hc1 hfrow
    go_wp2_with (at_builtin; first | (refine wpList_app_run2 rfl _ _ 29 29 rfl rfl (.slice (some ⟨Wz.heap.size, 0, none⟩) 0 0) _ _ rfl rfl HR1.out ?_) | (refine wpList_app_run2 rfl _ _ 29 29 rfl rfl (.slice (some ⟨X2.heap.size, 0, none⟩) 0 0) _ _ rfl rfl HR2.out ?_))
    go_ret
    exact ⟨rfl, _, _, _, _, HFin.out.1, ⟨c', g2, c2, HFin.out.2.1, rfl⟩, HG5.out.trans HFin.out.2.2⟩
  refine rdy_val (i := 13) rfl rfl (some 114) rfl (.slice (some ⟨W1.heap.size, 0, none⟩) 128 128) (W1.alloc (.cells (Array.replicate 128 (.int .u8 0)) 5)) (mkm_run rfl) ((hK1.grown0 (grown_alloc W1 _)).or) (fun hHeld => ?_) rdy_nil
  simp only [Act.put, List.setIfInBounds_toArray, List.set_cons_succ, List.set_cons_zero]
  have hi2 := im_make W1
  have hg2 : W1.grownBy (W1.alloc (.cells (Array.replicate 128 (.int .u8 0)) 5)) none := grown_alloc W1 _
  obtain ⟨m2, hm2⟩ : ∃ b, b = W1.heap.size := ⟨_, rfl⟩
  obtain ⟨W2, hW2⟩ : ∃ W', W' = W1.alloc (.cells (Array.replicate 128 (.int .u8 0)) 5) := ⟨_, rfl⟩
  rw [← hW2] at hHeld hg2
  rw [← hm2, ← hW2] at hi2
  rw [← hm2, ← hW2]
  have hn2 : n0 ≤ m2 := by rw [hm2]; exact Nat.le_trans (hle0) hg1.size
  have hl2 : m2 < W2.heap.size := own_lt hi2 _ rfl
  clear hW2
  have hi1_2 := im_grown hi1 hg2 (fun e => by cases e)
  have hl1_2 : m1 < W2.heap.size := Nat.lt_of_lt_of_le hl1 hg2.size
  have hK2 : Keeps (fun b => b = fg) w5 W2 := hK1.grown0 hg2
  have hrow0_1_2 := own_grown hrow0_1 hg2 (.inl (fun e => by cases e))
  refine drawn_take (i := 15) (v := .agg #[.slice none 0 0, .slice (some ⟨m2, 0, none⟩) 128 128, .slice (some ⟨m1, 0, none⟩) 128 128, .slice none 0 0, .bool false]) (some 116) rfl rfl (by kernel_rfl) (by kernel_rfl) (by kernel_rfl) (fun _ _ _ h => h) (Or.inl ⟨by kernel_rfl, fun wq hw => by go_simp⟩) hHeld ?_
  simp only [Act.put, List.setIfInBounds_toArray, List.set_cons_succ, List.set_cons_zero]
  refine wpAnyH_ready (rs := [12, 16]) (by kernel_rfl) (by simp) ?_
  have hcx3 := (hK2.cellK (p := ⟨g, k * 2 + 1, none⟩) lg ngf).trans hc1
  refine rdy_val (i := 12) rfl rfl (some 113) rfl (.slice (some ⟨fg, 0, none⟩) i fcc) W2 (by have q := hcx3; go_simp) hK2.or (fun hHeld => ?_) ?_
  · simp only [Act.put, List.setIfInBounds_toArray, List.set_cons_succ, List.set_cons_zero]
    refine wpAnyH_ready (rs := [16]) (by kernel_rfl) (by simp) ?_
    refine rdy_val (i := 16) rfl rfl (some 117) rfl (.slice (some ⟨W2.heap.size, 0, none⟩) 1 1) (W2.alloc (.cells #[.slice none 0 0, .slice (some ⟨m2, 0, none⟩) 128 128, .slice (some ⟨m1, 0, none⟩) 128 128, .slice none 0 0, .bool false] 57)) (bs1_run (x := .tmp 116) rfl (by kernel_rfl)) ((hK2.grown0 (grown_alloc W2 _)).or) (fun hHeld => ?_) rdy_nil
    simp only [Act.put, List.setIfInBounds_toArray, List.set_cons_succ, List.set_cons_zero]
    have he3 := heap_alloc_new W2 (.cells #[.slice none 0 0, .slice (some ⟨m2, 0, none⟩) 128 128, .slice (some ⟨m1, 0, none⟩) 128 128, .slice none 0 0, .bool false] 57)
    have hg3 : W2.grownBy (W2.alloc (.cells #[.slice none 0 0, .slice (some ⟨m2, 0, none⟩) 128 128, .slice (some ⟨m1, 0, none⟩) 128 128, .slice none 0 0, .bool false] 57)) none := grown_alloc W2 _
    obtain ⟨b3, hb3⟩ : ∃ b, b = W2.heap.size := ⟨_, rfl⟩
    obtain ⟨W3, hW3⟩ : ∃ W', W' = W2.alloc (.cells #[.slice none 0 0, .slice (some ⟨m2, 0, none⟩) 128 128, .slice (some ⟨m1, 0, none⟩) 128 128, .slice none 0 0, .bool false] 57) := ⟨_, rfl⟩
    rw [← hW3] at hHeld hg3
    rw [← hb3, ← hW3] at he3
    rw [← hb3, ← hW3]
    clear hW3
    have hi1_2_3 := im_grown hi1_2 hg3 (fun e => by cases e)
    have hl1_2_3 : m1 < W3.heap.size := Nat.lt_of_lt_of_le hl1_2 hg3.size
    have hi2_3 := im_grown hi2 hg3 (fun e => by cases e)
    have hl2_3 : m2 < W3.heap.size := Nat.lt_of_lt_of_le hl2 hg3.size
    have hK3 : Keeps (fun b => b = fg) w5 W3 := hK2.grown0 hg3
    have hrow0_1_2_3 := own_grown hrow0_1_2 hg3 (.inl (fun e => by cases e))
    refine wpAnyH_ready (rs := [17]) (by kernel_rfl) (by simp) ?_
    obtain ⟨g2, c2, W4, hr4, ho4, hg4, hpl⟩ := appC W3 fg i fcc (cellsC f.l) hrow0_1_2_3 b3 (.slice none 0 0) (.slice (some ⟨m2, 0, none⟩) 128 128) (.slice (some ⟨m1, 0, none⟩) 128 128) (.slice none 0 0) (.bool false) rfl rfl rfl rfl rfl he3 (by unfold maxLen; omega) (by omega)
    refine rdy_val (i := 17) rfl rfl (some 118) rfl (.slice (some ⟨g2, 0, none⟩) (i + 1) c2) W4 (app_run3 (x := .tmp 113) (y := .tmp 117) rfl (by kernel_rfl) (by kernel_rfl) hr4) ((hK3.grown1 hg4).or) (fun hHeld => ?_) rdy_nil
    simp only [Act.put, List.setIfInBounds_toArray, List.set_cons_succ, List.set_cons_zero]
    have hMA := im_grown hi2_3 hg4 (fun e => by have := Option.some.inj e; simp only at this; omega)
    have hMB := im_grown hi1_2_3 hg4 (fun e => by have := Option.some.inj e; simp only at this; omega)
    have hg2n : fg = g2 ∨ n0 ≤ g2 := hpl.imp id (fun h => Nat.le_trans (Nat.le_trans (Nat.le_trans (Nat.le_trans (hle0) hg1.size) hg2.size) hg3.size) h)
    have hK4 : Keeps (fun b => b = fg) w5 W4 := hK3.grown1 hg4
    clear hr4
    refine drawn_take (i := 18) (v := .pointer (some ⟨g, k * 2, none⟩)) (some 119) rfl rfl (by kernel_rfl) (by kernel_rfl) (by kernel_rfl) (fun _ _ _ h => h) (Or.inl ⟨by kernel_rfl, fun wq hw => by go_simp⟩) hHeld ?_
    simp only [Act.put, List.setIfInBounds_toArray, List.set_cons_succ, List.set_cons_zero]
    refine drawn_take (i := 19) (v := .pointer (some ⟨g, k * 2 + 1, none⟩)) (some 120) rfl rfl (by kernel_rfl) (by kernel_rfl) (by kernel_rfl) (fun _ _ _ h => h) (Or.inl ⟨by kernel_rfl, fun wq hw => by go_simp⟩) hHeld ?_
    simp only [Act.put, List.setIfInBounds_toArray, List.set_cons_succ, List.set_cons_zero]
    refine wpAnyH_ready (rs := [20]) (by kernel_rfl) (by simp) ?_
    have hcf := (hK4.cellK (p := ⟨g, k * 2 + 1, none⟩) lg ngf).trans hc1
    have hfz := frozen_of_row _ _ (k * 2 + 1) _ _ ((hK4.block g lg ngf).trans hfrow)
    refine rdy_unit (i := 20) rfl rfl none rfl (W4.setCell ⟨g, k * 2 + 1, none⟩ (.slice (some ⟨g2, 0, none⟩) (i + 1) c2)) (by go_simp) (hK4.or.setCell (p := ⟨g, k * 2 + 1, none⟩) (Or.inr rfl) _) (fun hHeld => ?_) rdy_nil
    simp only [Act.put]
    refine wpAnyH_done (by kernel_rfl) ?_ _
    refine NoPanic.normal ?_
    have hKeep := hHeld
    clear hHeld
    obtain ⟨p1, X2, p2, X4, hr1', hr2', c1, c2', k0, k3, k4, ⟨cur, hcur⟩, F', c', hFin, hcx, hGr⟩ := HEnd.out m2 m1 g2 c2 W4 ho4 hMA hMB hn2 hn1 hg2n hK4
    clear hKeep
    skip
    obtain ⟨Wz, hWz⟩ : ∃ Wz, Wz = W4.setCell ⟨g, k * 2 + 1, none⟩ (.slice (some ⟨g2, 0, none⟩) (i + 1) c2) := ⟨_, rfl⟩
    rw [← hWz] at hr1' c1 c2' ⊢
    have HR1 := hidn hr1'
    have HR2 := hidn hr2'
    have fz0 := frozen_of_row _ _ (i * 5) _ _ hcur
    have fz3 := frozen_of_row _ _ (i * 5 + 3) _ _ hcur
    have fz4 := frozen_of_row _ _ (i * 5 + 4) _ _ hcur
    have HFin := hidn (And.intro hFin (And.intro hcx hGr))
    clear hr1' hr2' hcur hFin hcx hGr hWz hc1 hfrow
    go_wp2_with (at_builtin; first | (refine wpList_app_run2 rfl _ _ 29 29 rfl rfl (.slice (some ⟨Wz.heap.size, 0, none⟩) 0 0) _ _ rfl rfl HR1.out ?_) | (refine wpList_app_run2 rfl _ _ 29 29 rfl rfl (.slice (some ⟨X2.heap.size, 0, none⟩) 0 0) _ _ rfl rfl HR2.out ?_))
    go_ret
    exact ⟨rfl, _, _, _, _, HFin.out.1, ⟨c', g2, c2, HFin.out.2.1, rfl⟩, HG5.out.trans HFin.out.2.2⟩
  refine rdy_val (i := 16) rfl rfl (some 117) rfl (.slice (some ⟨W2.heap.size, 0, none⟩) 1 1) (W2.alloc (.cells #[.slice none 0 0, .slice (some ⟨m2, 0, none⟩) 128 128, .slice (some ⟨m1, 0, none⟩) 128 128, .slice none 0 0, .bool false] 57)) (bs1_run (x := .tmp 116) rfl (by kernel_rfl)) ((hK2.grown0 (grown_alloc W2 _)).or) (fun hHeld => ?_) rdy_nil
  simp only [Act.put, List.setIfInBounds_toArray, List.set_cons_succ, List.set_cons_zero]
  have he3 := heap_alloc_new W2 (.cells #[.slice none 0 0, .slice (some ⟨m2, 0, none⟩) 128 128, .slice (some ⟨m1, 0, none⟩) 128 128, .slice none 0 0, .bool false] 57)
  have hg3 : W2.grownBy (W2.alloc (.cells #[.slice none 0 0, .slice (some ⟨m2, 0, none⟩) 128 128, .slice (some ⟨m1, 0, none⟩) 128 128, .slice none 0 0, .bool false] 57)) none := grown_alloc W2 _
  obtain ⟨b3, hb3⟩ : ∃ b, b = W2.heap.size := ⟨_, rfl⟩
  obtain ⟨W3, hW3⟩ : ∃ W', W' = W2.alloc (.cells #[.slice none 0 0, .slice (some ⟨m2, 0, none⟩) 128 128, .slice (some ⟨m1, 0, none⟩) 128 128, .slice none 0 0, .bool false] 57) := ⟨_, rfl⟩
  rw [← hW3] at hHeld hg3
  rw [← hb3, ← hW3] at he3
  rw [← hb3, ← hW3]
  clear hW3
  have hi1_2_3 := im_grown hi1_2 hg3 (fun e => by cases e)
  have hl1_2_3 : m1 < W3.heap.size := Nat.lt_of_lt_of_le hl1_2 hg3.size
  have hi2_3 := im_grown hi2 hg3 (fun e => by cases e)
  have hl2_3 : m2 < W3.heap.size := Nat.lt_of_lt_of_le hl2 hg3.size
  have hK3 : Keeps (fun b => b = fg) w5 W3 := hK2.grown0 hg3
  have hrow0_1_2_3 := own_grown hrow0_1_2 hg3 (.inl (fun e => by cases e))
  refine wpAnyH_ready (rs := [12]) (by kernel_rfl) (by simp) ?_
  have hcx4 := (hK3.cellK (p := ⟨g, k * 2 + 1, none⟩) lg ngf).trans hc1
  refine rdy_val (i := 12) rfl rfl (some 113) rfl (.slice (some ⟨fg, 0, none⟩) i fcc) W3 (by have q := hcx4; go_simp) hK3.or (fun hHeld => ?_) rdy_nil
  simp only [Act.put, List.setIfInBounds_toArray, List.set_cons_succ, List.set_cons_zero]
  refine wpAnyH_ready (rs := [17]) (by kernel_rfl) (by simp) ?_
  obtain ⟨g2, c2, W4, hr4, ho4, hg4, hpl⟩ := appC W3 fg i fcc (cellsC f.l) hrow0_1_2_3 b3 (.slice none 0 0) (.slice (some ⟨m2, 0, none⟩) 128 128) (.slice (some ⟨m1, 0, none⟩) 128 128) (.slice none 0 0) (.bool false) rfl rfl rfl rfl rfl he3 (by unfold maxLen; omega) (by omega)
  refine rdy_val (i := 17) rfl rfl (some 118) rfl (.slice (some ⟨g2, 0, none⟩) (i + 1) c2) W4 (app_run3 (x := .tmp 113) (y := .tmp 117) rfl (by kernel_rfl) (by kernel_rfl) hr4) ((hK3.grown1 hg4).or) (fun hHeld => ?_) rdy_nil
  simp only [Act.put, List.setIfInBounds_toArray, List.set_cons_succ, List.set_cons_zero]
  have hMA := im_grown hi2_3 hg4 (fun e => by have := Option.some.inj e; simp only at this; omega)
  have hMB := im_grown hi1_2_3 hg4 (fun e => by have := Option.some.inj e; simp only at this; omega)
  have hg2n : fg = g2 ∨ n0 ≤ g2 := hpl.imp id (fun h => Nat.le_trans (Nat.le_trans (Nat.le_trans (Nat.le_trans (hle0) hg1.size) hg2.size) hg3.size) h)
  have hK4 : Keeps (fun b => b = fg) w5 W4 := hK3.grown1 hg4
  clear hr4
  refine drawn_take (i := 18) (v := .pointer (some ⟨g, k * 2, none⟩)) (some 119) rfl rfl (by kernel_rfl) (by kernel_rfl) (by kernel_rfl) (fun _ _ _ h => h) (Or.inl ⟨by kernel_rfl, fun wq hw => by go_simp⟩) hHeld ?_
  simp only [Act.put, List.setIfInBounds_toArray, List.set_cons_succ, List.set_cons_zero]
  refine drawn_take (i := 19) (v := .pointer (some ⟨g, k * 2 + 1, none⟩)) (some 120) rfl rfl (by kernel_rfl) (by kernel_rfl) (by kernel_rfl) (fun _ _ _ h => h) (Or.inl ⟨by kernel_rfl, fun wq hw => by go_simp⟩) hHeld ?_
  simp only [Act.put, List.setIfInBounds_toArray, List.set_cons_succ, List.set_cons_zero]
  refine wpAnyH_ready (rs := [20]) (by kernel_rfl) (by simp) ?_
  have hcf := (hK4.cellK (p := ⟨g, k * 2 + 1, none⟩) lg ngf).trans hc1
  have hfz := frozen_of_row _ _ (k * 2 + 1) _ _ ((hK4.block g lg ngf).trans hfrow)
  refine rdy_unit (i := 20) rfl rfl none rfl (W4.setCell ⟨g, k * 2 + 1, none⟩ (.slice (some ⟨g2, 0, none⟩) (i + 1) c2)) (by go_simp) (hK4.or.setCell (p := ⟨g, k * 2 + 1, none⟩) (Or.inr rfl) _) (fun hHeld => ?_) rdy_nil
  simp only [Act.put]
  refine wpAnyH_done (by kernel_rfl) ?_ _
  refine NoPanic.normal ?_
  have hKeep := hHeld
  clear hHeld
  obtain ⟨p1, X2, p2, X4, hr1', hr2', c1, c2', k0, k3, k4, ⟨cur, hcur⟩, F', c', hFin, hcx, hGr⟩ := HEnd.out m2 m1 g2 c2 W4 ho4 hMA hMB hn2 hn1 hg2n hK4
  clear hKeep
  skip
  obtain ⟨Wz, hWz⟩ : ∃ Wz, Wz = W4.setCell ⟨g, k * 2 + 1, none⟩ (.slice (some ⟨g2, 0, none⟩) (i + 1) c2) := ⟨_, rfl⟩
  rw [← hWz] at hr1' c1 c2' ⊢
  have HR1 := hidn hr1'
  have HR2 := hidn hr2'
  have fz0 := frozen_of_row _ _ (i * 5) _ _ hcur
  have fz3 := frozen_of_row _ _ (i * 5 + 3) _ _ hcur
  have fz4 := frozen_of_row _ _ (i * 5 + 4) _ _ hcur
  have HFin := hidn (And.intro hFin (And.intro hcx hGr))
  clear hr1' hr2' hcur hFin hcx hGr hWz hc1 hfrow
  go_wp2_with (at_builtin; first | (refine wpList_app_run2 rfl _ _ 29 29 rfl rfl (.slice (some ⟨Wz.heap.size, 0, none⟩) 0 0) _ _ rfl rfl HR1.out ?_) | (refine wpList_app_run2 rfl _ _ 29 29 rfl rfl (.slice (some ⟨X2.heap.size, 0, none⟩) 0 0) _ _ rfl rfl HR2.out ?_))
  go_ret
  exact ⟨rfl, _, _, _, _, HFin.out.1, ⟨c', g2, c2, HFin.out.2.1, rfl⟩, HG5.out.trans HFin.out.2.2⟩
end Go.Proofs.Ytocfbokgbpaneaa
