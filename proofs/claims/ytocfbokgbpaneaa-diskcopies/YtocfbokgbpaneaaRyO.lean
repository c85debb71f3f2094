/- The document's disk: Rot. -/
import Derived.Test.YtocfbokgbpaneaaRyJ
import Derived.Test.YtocfbokgbpaneaaMj
namespace Go.Proofs.Ytocfbokgbpaneaa
open Go.RowKit Go.Maps
set_option linter.unusedVariables false

set_option maxHeartbeats 1000000 in
theorem rotY_none (w : World) (y : Nat) (F : Nat → Prop) (fa : Option Addr) (fc : Nat) (R : List Yf) (room fuse : Int) (h : RyOf w y F fa fc R room fuse) (hF : ∀ k, F k → k < w.heap.size) (s : ByteArray) (hR : R.length ≤ 1000000) (i : Int) (n : Nat) (HN : Hid (n = (extY R s).length)) (hi : i < 0 ∨ (n : Int) ≤ i) (u v : Value) :
    Calls Try.prog 22 #[.pointer (some ⟨y, 0, none⟩), .string s, .int .i64 i, u, v] w fun e w' => e = .returned (.int .i64 30) ∧ Below w.heap.size w w' := by
  by_cases h0 : i < 0
  · have e1 : decide (i < 0) = true := by simpa using h0
    clear hi h0
    go_enter Try.func22, Try.ntmps22
    go_wp2
    go_ret
    exact ⟨rfl, Below.refl _ _⟩
  · have e1 : decide (i < 0) = false := by simpa using h0
    have e2 : decide ((n : Int) ≤ i) = true := by simp; omega
    have HE := hidn (extentsY_any w y F fa fc R room fuse h hF s hR n HN)
    clear hi h0
    go_enter Try.func22, Try.ntmps22
    go_wp2_with fail
    refine HE.out.mono ?_
    rintro e w1 ⟨rfl, hb1⟩
    go_wp2
    go_ret
    exact ⟨rfl, hb1⟩

set_option maxHeartbeats 1000000 in
theorem rotY_arg (w : World) (y : Nat) (F : Nat → Prop) (fa : Option Addr) (fc : Nat) (R : List Yf) (room fuse : Int) (h : RyOf w y F fa fc R room fuse) (hF : ∀ k, F k → k < w.heap.size) (s : ByteArray) (hR : R.length ≤ 1000000) (i n : Nat) (HN : Hid (n = (extY R s).length)) (hi : i < n) (at2 : Int) (ha : at2 < 0 ∨ 128 ≤ at2) (v : Value) :
    Calls Try.prog 22 #[.pointer (some ⟨y, 0, none⟩), .string s, .int .i64 (i : Int), .int .i64 at2, v] w fun e w' => e = .returned (.int .i64 1) ∧ Below w.heap.size w w' := by
  have e1 : decide ((i : Int) < 0) = false := by simp
  have e2 : decide ((n : Int) ≤ (i : Int)) = false := by simp; omega
  have e2n : decide (n ≤ i) = false := by simp; omega
  have HE := hidn (extentsY_any w y F fa fc R room fuse h hF s hR n HN)
  by_cases h0 : at2 < 0
  · have e3 : decide (at2 < 0) = true := by simpa using h0
    clear ha h0
    go_enter Try.func22, Try.ntmps22
    go_wp2_with fail
    refine HE.out.mono ?_
    rintro e w1 ⟨rfl, hb1⟩
    go_wp2
    go_ret
    exact ⟨rfl, hb1⟩
  · have e3 : decide (at2 < 0) = false := by simpa using h0
    have e4 : decide (128 ≤ at2) = true := by simp; omega
    clear ha h0
    go_enter Try.func22, Try.ntmps22
    go_wp2_with fail
    refine HE.out.mono ?_
    rintro e w1 ⟨rfl, hb1⟩
    go_wp2
    go_ret
    exact ⟨rfl, hb1⟩

theorem im_byte {w : World} {p pc : Nat} {zs : List Nat} (h : Im w (p, pc) zs) (hl : zs.length = 128) {j : Nat} (hj : j < 128) : w.cell? ⟨p, j, none⟩ = some (.int .u8 ((zs.getD j 0 : Nat) : Int)) := by
  have h1 := h.cells (g := p) rfl j (.int .u8 ((zs.getD j 0 : Nat) : Int)) (by
    unfold vb
    rw [List.getElem?_map, List.getElem?_eq_getElem (by omega), List.getD_eq_getElem?_getD, List.getElem?_eq_getElem (by omega)]
    rfl)
  rw [add_none, Nat.zero_add] at h1
  exact h1

theorem im_put {w : World} {p pc : Nat} {zs : List Nat} (h : Im w (p, pc) zs) (j v : Nat) : Im (w.setCell ⟨p, j, none⟩ (.int .u8 (v : Int))) (p, pc) (zs.set j v) := by
  have h1 := own_putY h j (.int .u8 (v : Int))
  rw [vb_set] at h1
  exact h1

theorem drew_own {w : World} {base e size n : Nat} {v : Value} {xs : List Value} (h : w.ownsRow base e size v n xs) : w.drew.ownsRow base e size v n xs := own_other h (fun g _ => rfl)

set_option maxRecDepth 100000 in
set_option maxHeartbeats 16000000 in
theorem rotY_yes (w : World) (y : Nat) (F : Nat → Prop) (fa : Option Addr) (fc : Nat) (R : List Yf) (room fuse : Int) (h : RyOf w y F fa fc R room fuse) (hF : ∀ k, F k → k < w.heap.size) (s : ByteArray) (hR : R.length ≤ 1000000) (i k : Nat) (f : Yf) (c : Yc) (hp : placeY R s = some k) (hk : R[k]? = some f) (hc : f.l[i]? = some c) (hl : f.l.length ≤ 100000) (at2 : Nat) (ha : at2 < 128) (mk : Nat) (hm : mk < 256) :
    Calls Try.prog 22 #[.pointer (some ⟨y, 0, none⟩), .string s, .int .i64 (i : Int), .int .i64 (at2 : Int), .int .u8 (mk : Int)] w (RyPost w y F (fun R2 => ∃ c', c'.x = c.x.rot at2 mk ∧ R2 = R.set k (setF f i c')) room fuse 0) := by
  have hmem := List.mem_of_getElem? hk
  have hcm := List.mem_of_getElem? hc
  obtain ⟨fl, hfl⟩ : ∃ fl, fl = f.l.length := ⟨_, rfl⟩
  have HE := hidn (extentsY_any w y F fa fc R room fuse h hF s hR fl (hidn (by rw [extY_at hp hk, hfl])))
  have hil : i < fl := by rw [hfl]; exact (List.getElem?_eq_some_iff.1 hc).1
  have HPI : Hid (placeI R s = (k : Int)) := hidn (by unfold placeI; rw [hp])
  obtain ⟨g, hfa, hFg, hc0, hc1⟩ := h.at hk
  subst hfa
  have c1 : w.cell? ⟨y, 1, none⟩ = some (.slice (some ⟨g, 0, none⟩) R.length fc) := by rw [cell_of_row _ _ _ _ _ _ h.disk]; rfl
  obtain ⟨N, hN⟩ : ∃ N, N = R.length := ⟨_, rfl⟩
  have hkN : k < N := by rw [hN]; exact (List.getElem?_eq_some_iff.1 hk).1
  rw [← hN] at c1
  unfold Yf.row at hc1
  obtain ⟨fg, hfg⟩ : ∃ fg, fg = f.g := ⟨_, rfl⟩
  obtain ⟨fcc, hfcc⟩ : ∃ fcc, fcc = f.c := ⟨_, rfl⟩
  rw [← hfl, ← hfg, ← hfcc] at hc1
  have ly := hF y h.fy
  have lg := hF g hFg
  have H0 := hidn h
  have HF0 := hidn hF
  have HRl : Hid (R.length ≤ 1000000) := hidn hR
  have HK := hidn hk
  have HC := hidn hc
  have HMM := hidn (And.intro hmem hcm)
  have HFL := hidn hfl
  have HFG := hidn hfg
  have hNb : N ≤ 1000000 := by rw [hN]; exact hR
  have hfb : fl ≤ 100000 := by rw [hfl]; exact hl
  have hi1 : decide ((i : Int) < 0) = false := by simp
  have hi2 : decide ((fl : Int) ≤ (i : Int)) = false := by simp; omega
  have hi2n : decide (fl ≤ i) = false := by simp; omega
  have hi3 : (i : Int) < (fl : Int) := by omega
  have hk3 : (k : Int) < (N : Int) := by omega
  have ha1 : decide ((at2 : Int) < 0) = false := by simp
  have ha2 : decide ((128 : Int) ≤ (at2 : Int)) = false := by simp; omega
  have ha3 : (at2 : Int) < 128 := by omega
  clear hp hk hc hcm hmem hfl hN hfg hfcc hFg hc0 h hF hR hl
  go_enter Try.func22, Try.ntmps22
  go_wp2_with fail
  refine HE.out.mono ?_
  clear HE
  rintro e w1 ⟨rfl, hb1⟩
  have HB1 := hidn hb1
  have H := hidn (H0.out.below HF0.out hb1)
  have c1 := (hb1.cell (p := ⟨y, 1, none⟩) ly).trans c1
  have hc1 := (hb1.cell (p := ⟨g, k * 2 + 1, none⟩) lg).trans hc1
  obtain ⟨n0, hn0⟩ : ∃ n0, n0 = w1.heap.size := ⟨_, rfl⟩
  have HNE := hidn hn0
  have HN0 : Hid (w.heap.size ≤ n0) := hidn (by rw [hn0]; exact hb1.size)
  have ly : y < n0 := Nat.lt_of_lt_of_le ly HN0.out
  have lg : g < n0 := Nat.lt_of_lt_of_le lg HN0.out
  have HFn : Hid (∀ k, F k → k < n0) := hidn (fun k hk => Nat.lt_of_lt_of_le (HF0.out k hk) HN0.out)
  clear hb1 HF0 H0 hn0
  go_wp2_with fail
  refine region_cut (fun l w' => l = [(27, .pointer (some ⟨y, 0, none⟩)), (28, .pointer (some ⟨y, 0, none⟩)), (29, .pointer (some ⟨y, 1, none⟩)), (30, .slice (some ⟨g, 0, none⟩) N fc), (31, .pointer (some ⟨y, 0, none⟩)), (32, .string s), (33, .int .i64 (k : Int)), (34, .pointer (some ⟨g, k * 2, none⟩)), (35, .pointer (some ⟨g, k * 2 + 1, none⟩)), (36, .slice (some ⟨fg, 0, none⟩) fl fcc), (37, .int .i64 (i : Int)), (38, .pointer (some ⟨fg, i * 5, none⟩)), (11, .pointer (some ⟨fg, i * 5, none⟩))] ∧ Below n0 w1 w') ?_ ?_
  · skip
    refine wp_region_noPanic ?_
    refine wp_region_held_drew (S := Below n0 w1) (by kernel_rfl) ((Below.refl n0 w1).drew) (fun hHeld => ?_)
    obtain ⟨Wd, hWd⟩ : ∃ Wd, Wd = w1.drew := ⟨_, rfl⟩
    have hle0 : n0 ≤ Wd.heap.size := by rw [hWd]; exact Nat.le_of_eq HNE.out
    rw [← hWd] at hHeld ⊢
    clear hWd
    refine drawn_take (i := 0) (v := .pointer (some ⟨y, 0, none⟩)) (some 27) rfl rfl (by kernel_rfl) (by kernel_rfl) (by kernel_rfl) (fun _ _ _ h => h) (Or.inl ⟨by kernel_rfl, fun wq hw => by go_simp⟩) hHeld ?_
    simp only [Act.put, List.setIfInBounds_toArray, List.set_cons_succ, List.set_cons_zero]
    refine drawn_take (i := 1) (v := .pointer (some ⟨y, 0, none⟩)) (some 28) rfl rfl (by kernel_rfl) (by kernel_rfl) (by kernel_rfl) (fun _ _ _ h => h) (Or.inl ⟨by kernel_rfl, fun wq hw => by go_simp⟩) hHeld ?_
    simp only [Act.put, List.setIfInBounds_toArray, List.set_cons_succ, List.set_cons_zero]
    refine drawn_take (i := 2) (v := .pointer (some ⟨y, 1, none⟩)) (some 29) rfl rfl (by kernel_rfl) (by kernel_rfl) (by kernel_rfl) (fun _ _ _ h => h) (Or.inl ⟨by kernel_rfl, fun wq hw => by go_simp⟩) hHeld ?_
    simp only [Act.put, List.setIfInBounds_toArray, List.set_cons_succ, List.set_cons_zero]
    refine drawn_take (i := 3) (v := .slice (some ⟨g, 0, none⟩) N fc) (some 30) rfl rfl (by kernel_rfl) (by kernel_rfl) (by kernel_rfl) (fun _ _ _ h => h) (Or.inl ⟨by kernel_rfl, fun wq hw => by have q := (hw.cell (p := ⟨y, 1, none⟩) ly).trans c1; go_simp⟩) hHeld ?_
    simp only [Act.put, List.setIfInBounds_toArray, List.set_cons_succ, List.set_cons_zero]
    refine drawn_take (i := 4) (v := .pointer (some ⟨y, 0, none⟩)) (some 31) rfl rfl (by kernel_rfl) (by kernel_rfl) (by kernel_rfl) (fun _ _ _ h => h) (Or.inl ⟨by kernel_rfl, fun wq hw => by go_simp⟩) hHeld ?_
    simp only [Act.put, List.setIfInBounds_toArray, List.set_cons_succ, List.set_cons_zero]
    refine drawn_take (i := 5) (v := .string s) (some 32) rfl rfl (by kernel_rfl) (by kernel_rfl) (by kernel_rfl) (fun _ _ _ h => h) (Or.inl ⟨by kernel_rfl, fun wq hw => by go_simp⟩) hHeld ?_
    simp only [Act.put, List.setIfInBounds_toArray, List.set_cons_succ, List.set_cons_zero]
    refine drawn_take (i := 10) (v := .int .i64 (i : Int)) (some 37) rfl rfl (by kernel_rfl) (by kernel_rfl) (by kernel_rfl) (fun _ _ _ h => h) (Or.inl ⟨by kernel_rfl, fun wq hw => by go_simp⟩) hHeld ?_
    simp only [Act.put, List.setIfInBounds_toArray, List.set_cons_succ, List.set_cons_zero]
    refine wpAnyH_ready (rs := [6]) (by kernel_rfl) (by simp) ?_
    have HP1 := place_any Wd y F (some ⟨g, 0, none⟩) fc R room fuse (H.out.other (fun k hk => hHeld.block k (HFn.out k hk))) (fun k hk => Nat.lt_of_lt_of_le (HFn.out k hk) hle0) s HRl.out
    rw [HPI.out] at HP1
    refine rdy_call (i := 6) rfl rfl (some 33) rfl 45 #[.pointer (some ⟨y, 0, none⟩), .string s] (call2_runY (x := 31) (y := 32) rfl (fun _ _ => rfl) (by kernel_rfl) (by kernel_rfl)) (fun r w9 => r = .int .i64 (k : Int) ∧ Below Wd.heap.size Wd w9) (HP1.mono (by rintro e w9 ⟨rfl, hb9⟩; exact ⟨_, rfl, rfl, hb9⟩)) (fun r w9 hR9 => ?_) rdy_nil
    obtain ⟨rfl, hb9⟩ := hR9
    refine ⟨hHeld.trans (hb9.mono hle0), fun hHeld => ?_⟩
    simp only [Act.put, List.setIfInBounds_toArray, List.set_cons_succ, List.set_cons_zero]
    refine drawn_take (i := 7) (v := .pointer (some ⟨g, k * 2, none⟩)) (some 34) rfl rfl (by kernel_rfl) (by kernel_rfl) (by kernel_rfl) (fun _ _ _ h => h) (Or.inl ⟨by kernel_rfl, fun wq hw => by go_simp⟩) hHeld ?_
    simp only [Act.put, List.setIfInBounds_toArray, List.set_cons_succ, List.set_cons_zero]
    refine drawn_take (i := 8) (v := .pointer (some ⟨g, k * 2 + 1, none⟩)) (some 35) rfl rfl (by kernel_rfl) (by kernel_rfl) (by kernel_rfl) (fun _ _ _ h => h) (Or.inl ⟨by kernel_rfl, fun wq hw => by go_simp⟩) hHeld ?_
    simp only [Act.put, List.setIfInBounds_toArray, List.set_cons_succ, List.set_cons_zero]
    refine drawn_take (i := 9) (v := .slice (some ⟨fg, 0, none⟩) fl fcc) (some 36) rfl rfl (by kernel_rfl) (by kernel_rfl) (by kernel_rfl) (fun _ _ _ h => h) (Or.inl ⟨by kernel_rfl, fun wq hw => by have q := (hw.cell (p := ⟨g, k * 2 + 1, none⟩) lg).trans hc1; go_simp⟩) hHeld ?_
    simp only [Act.put, List.setIfInBounds_toArray, List.set_cons_succ, List.set_cons_zero]
    refine drawn_take (i := 11) (v := .pointer (some ⟨fg, i * 5, none⟩)) (some 38) rfl rfl (by kernel_rfl) (by kernel_rfl) (by kernel_rfl) (fun _ _ _ h => h) (Or.inl ⟨by kernel_rfl, fun wq hw => by go_simp⟩) hHeld ?_
    simp only [Act.put, List.setIfInBounds_toArray, List.set_cons_succ, List.set_cons_zero]
    refine drawn_take (i := 12) (v := .pointer (some ⟨fg, i * 5, none⟩)) (some 11) rfl rfl (by kernel_rfl) (by kernel_rfl) (by kernel_rfl) (fun _ _ _ h => h) (Or.inl ⟨by kernel_rfl, fun wq hw => by go_simp⟩) hHeld ?_
    simp only [Act.put, List.setIfInBounds_toArray, List.set_cons_succ, List.set_cons_zero]
    refine wpAnyH_done (by kernel_rfl) ?_ _
    refine NoPanic.normal ?_
    have hKeep := hHeld
    clear hHeld
    exact ⟨rfl, _, ⟨rfl, hKeep⟩, by kernel_rfl⟩
  rintro l9 w2 ⟨rfl, hB2⟩
  have h2 := H.out.other (fun k hk => hB2.block k (HFn.out k hk))
  have hsz2 : n0 ≤ w2.heap.size := by rw [HNE.out]; exact hB2.size
  have HL2 : Hid (∀ b, F b → b < w2.heap.size) := hidn (fun b hb => Nat.lt_of_lt_of_le (HFn.out b hb) hsz2)
  have HG2 := hidn (Gr.of (F := F) (Keeps.of_below (HB1.out.trans (hB2.mono HN0.out))))
  obtain ⟨hmem, hcm⟩ := HMM.out
  obtain ⟨d0, d1, d2, d3, d4⟩ := h2.ext hmem HC.out
  obtain ⟨x0, x1, x2, x3⟩ := h2.ims f hmem c hcm
  obtain ⟨f0, f1, f2, f3⟩ := h2.fi f hmem c hcm
  have hokc := (h2.ok f hmem).2.2 c hcm
  obtain ⟨zs, hzs⟩ : ∃ zs, zs = c.x.dur := ⟨_, rfl⟩
  have hzl : zs.length = 128 := by rw [hzs]; exact hokc.1.1
  have hzb : ∀ x ∈ zs, x < 256 := by rw [hzs]; exact hokc.1.2
  obtain ⟨vv, hvv⟩ : ∃ vv, vv = zs.getD at2 0 := ⟨_, rfl⟩
  have hvb : vv < 256 := by rw [hvv]; exact getD_b (by omega) hzb
  have hxo : bits .xor .u8 (vv : Int) (mk : Int) = ((vv ^^^ mk : Nat) : Int) := xor8 vv mk hvb hm
  have hx1 : Im w2 c.q1 zs := by rw [hzs]; exact x1
  have hW1 : Below w2.heap.size w2 (w2.alloc (.cells #[] 5)) := (Below.refl _ _).alloc (Nat.le_refl _) _
  obtain ⟨⟨p1, p1c⟩, X2, hr1, hi1, hq1, hqs1, hg1⟩ := cpy (w2.alloc (.cells #[] 5)) w2.heap.size (heap_alloc_new _ _) ⟨c.q1.1, 0, none⟩ c.q1.2 zs hzl (Im.src hx1 hW1 (HL2.out _ f1))
  have hX2 : Below w2.heap.size w2 X2 := hW1.grown hg1 hW1.size (fun k hk => by cases hk; exact Nat.le_refl _)
  have lfg := HL2.out _ (h2.fr f hmem)
  have hrow2 := own_other (h2.rows f hmem) (w' := X2) (fun b hb => by
    obtain rfl : f.g = b := by simpa [Yf.row, Value.ownBlock] using hb
    exact hX2.block _ lfg)
  obtain ⟨cur2, hcur2⟩ := own_ty hrow2 (g := f.g) rfl
  have fz1 := frozen_of_row _ _ (i * 5 + 1) _ _ hcur2
  have k1 := (hX2.cell (p := ⟨f.g, i * 5 + 1, none⟩) lfg).trans d1
  have d1' := (hW1.cell (p := ⟨f.g, i * 5 + 1, none⟩) lfg).trans d1
  obtain ⟨cA, hcA⟩ : ∃ cA : Yc, cA = ⟨c.x.rot at2 mk, c.q0, (p1, p1c), c.q2, c.q3⟩ := ⟨_, rfl⟩
  have hrow3 := row_put rfl hrow2 HC.out (c' := cA) 1 (by omega) (im (p1, p1c)) (by rw [hcA]; rfl)
  obtain ⟨X3, hX3⟩ : ∃ X3, X3 = X2.setCell ⟨f.g, i * 5 + 1, none⟩ (im (p1, p1c)) := ⟨_, rfl⟩
  rw [← hX3] at hrow3
  have hne1 : f.g ≠ p1 := own_ne2 hrow2 hi1 (g := f.g) rfl rfl tyDF.2.2.2.2.2
  have hoth3 : ∀ b, b ≠ f.g → X3.heap[b]? = X2.heap[b]? := fun b hb => by rw [hX3]; exact Below.heap_setCell X2 ⟨f.g, i * 5 + 1, none⟩ _ b hb
  have hi3' : Im X3 (p1, p1c) zs := own_other hi1 (fun b hb => by cases hb; exact hoth3 p1 (Ne.symm hne1))
  have hsX3 : X3.heap.size = X2.heap.size := by rw [hX3]; simp [World.setCell]
  have hcell1 : X3.cell? ⟨f.g, i * 5 + 1, none⟩ = some (.slice (some ⟨p1, 0, none⟩) 128 p1c) := by
    have h1 := hrow3.cells (g := f.g) rfl (i * 5 + 1) (im (p1, p1c)) (by rw [cellsC_at _ i cA (List.getElem?_set_self (List.getElem?_eq_some_iff.1 HC.out).1) 1 (by omega), hcA]; rfl)
    rw [add_none, Nat.zero_add] at h1
    exact h1
  have hbyte0 : X3.drew.cell? ⟨p1, at2, none⟩ = some (.int .u8 (vv : Int)) := by rw [hvv]; exact im_byte (drew_own hi3') hzl ha
  obtain ⟨bcur, hbrow⟩ := own_ty (drew_own hi3') (g := p1) rfl
  have hlfp1 : f.g < X3.heap.size := by rw [hsX3]; exact Nat.lt_of_lt_of_le lfg hX2.size
  have hnfp1 : ¬ (fun b => b = p1) f.g := hne1
  have HR1 := hidn hr1
  have hcq : ∃ a1 r1, c.q1 = (a1, r1) := ⟨_, _, rfl⟩
  obtain ⟨a1, r1, hq⟩ := hcq
  rw [hq] at d1 d1' k1 HR1
  simp only at d1 d1' k1 HR1
  rw [← HFG.out] at fz1 k1 d1' d1 hcell1 hlfp1 hnfp1 hX3
  have HX3 := hidn hX3
  have HZ := hidn (And.intro hzs (And.intro hvv (And.intro hcA (And.intro hsX3 (And.intro hzl hzb)))))
  have HP := hidn (And.intro hoth3 (And.intro hi3' (And.intro hrow3 (And.intro hX2 (And.intro hq1 hqs1)))))
  have HBY := hidn (And.intro hcell1 (And.intro hbyte0 (And.intro hbrow (And.intro hlfp1 hnfp1))))
  have HIM := hidn (And.intro x0 (And.intro x2 (And.intro x3 (And.intro f0 (And.intro f1 (And.intro f2 (And.intro f3 hokc)))))))
  have HH2 := hidn (And.intro h2 (And.intro d0 (And.intro d4 lfg)))
  have HQQ := hidn hq
  have HNE1 := hidn hne1
  clear hX3 d0 d1 d2 d3 d4 hzs hvv hcA hq hsX3 hoth3 hi3' hrow2 hrow3 hcur2 hcell1 hbyte0 hbrow hX2 hW1 hi1 hq1 hqs1 hg1 hr1 x0 x1 x2 x3 f0 f1 f2 f3 hokc hzl hzb hx1 h2 hmem hcm hB2 hsz2 hlfp1 hnfp1 hne1 lfg c1 hc1
  simp only [putAll, List.foldl, Act.put, List.setIfInBounds_toArray, List.set_cons_succ, List.set_cons_zero]
  go_wp2_with (at_builtin; refine wpList_app_run2 rfl _ _ 29 29 rfl rfl (.slice (some ⟨w2.heap.size, 0, none⟩) 0 0) _ _ rfl rfl HR1.out ?_)
  rw [← HX3.out]
  clear fz1 k1 d1' HR1
  obtain ⟨hcell1, hbyte0, hbrow, hlfp1, hnfp1⟩ := HBY.out
  refine region_cut (fun l w' => l = [(48, .pointer (some ⟨fg, i * 5, none⟩)), (49, .pointer (some ⟨fg, i * 5, none⟩)), (50, .pointer (some ⟨fg, i * 5 + 1, none⟩)), (51, .slice (some ⟨p1, 0, none⟩) 128 p1c), (52, .int .i64 (at2 : Int)), (53, .pointer (some ⟨fg, i * 5, none⟩)), (54, .pointer (some ⟨fg, i * 5, none⟩)), (55, .pointer (some ⟨fg, i * 5 + 1, none⟩)), (56, .slice (some ⟨p1, 0, none⟩) 128 p1c), (57, .int .i64 (at2 : Int)), (58, .pointer (some ⟨p1, at2, none⟩)), (59, .int .u8 (vv : Int)), (60, .int .u8 (mk : Int)), (61, .int .u8 ((vv ^^^ mk : Nat) : Int)), (62, .pointer (some ⟨p1, at2, none⟩))] ∧ w' = X3.drew.setCell ⟨p1, at2, none⟩ (.int .u8 ((vv ^^^ mk : Nat) : Int))) ?_ ?_
  · skip
    refine wp_region_noPanic ?_
    refine wp_region_held_drew (S := Keeps (fun b => b = p1) X3) (by kernel_rfl) (⟨rfl, rfl, rfl, Nat.le_refl _, fun _ _ _ => rfl⟩) (fun hHeld => ?_)
    obtain ⟨Wd, hWd⟩ : ∃ Wd, Wd = X3.drew := ⟨_, rfl⟩
    have hbyte : Wd.cell? ⟨p1, at2, none⟩ = some (.int .u8 (vv : Int)) := by rw [hWd]; exact hbyte0
    have hbfz := frozen_of_row _ _ at2 _ _ (show Wd.heap[p1]? = _ from by rw [hWd]; exact hbrow)
    rw [← hWd] at hHeld ⊢
    have HWd := hidn hWd
    clear hWd
    refine drawn_take (i := 0) (v := .pointer (some ⟨fg, i * 5, none⟩)) (some 48) rfl rfl (by kernel_rfl) (by kernel_rfl) (by kernel_rfl) (fun _ _ _ h => h) (Or.inl ⟨by kernel_rfl, fun wq hw => by go_simp⟩) hHeld ?_
    simp only [Act.put, List.setIfInBounds_toArray, List.set_cons_succ, List.set_cons_zero]
    refine drawn_take (i := 1) (v := .pointer (some ⟨fg, i * 5, none⟩)) (some 49) rfl rfl (by kernel_rfl) (by kernel_rfl) (by kernel_rfl) (fun _ _ _ h => h) (Or.inl ⟨by kernel_rfl, fun wq hw => by go_simp⟩) hHeld ?_
    simp only [Act.put, List.setIfInBounds_toArray, List.set_cons_succ, List.set_cons_zero]
    refine drawn_take (i := 2) (v := .pointer (some ⟨fg, i * 5 + 1, none⟩)) (some 50) rfl rfl (by kernel_rfl) (by kernel_rfl) (by kernel_rfl) (fun _ _ _ h => h) (Or.inl ⟨by kernel_rfl, fun wq hw => by go_simp⟩) hHeld ?_
    simp only [Act.put, List.setIfInBounds_toArray, List.set_cons_succ, List.set_cons_zero]
    refine drawn_take (i := 3) (v := .slice (some ⟨p1, 0, none⟩) 128 p1c) (some 51) rfl rfl (by kernel_rfl) (by kernel_rfl) (by kernel_rfl) (fun _ _ _ h => h) (Or.inl ⟨by kernel_rfl, fun wq hw => by have q := (hw.cellK (p := ⟨fg, i * 5 + 1, none⟩) hlfp1 hnfp1).trans hcell1; go_simp⟩) hHeld ?_
    simp only [Act.put, List.setIfInBounds_toArray, List.set_cons_succ, List.set_cons_zero]
    refine drawn_take (i := 4) (v := .int .i64 (at2 : Int)) (some 52) rfl rfl (by kernel_rfl) (by kernel_rfl) (by kernel_rfl) (fun _ _ _ h => h) (Or.inl ⟨by kernel_rfl, fun wq hw => by go_simp⟩) hHeld ?_
    simp only [Act.put, List.setIfInBounds_toArray, List.set_cons_succ, List.set_cons_zero]
    refine drawn_take (i := 5) (v := .pointer (some ⟨fg, i * 5, none⟩)) (some 53) rfl rfl (by kernel_rfl) (by kernel_rfl) (by kernel_rfl) (fun _ _ _ h => h) (Or.inl ⟨by kernel_rfl, fun wq hw => by go_simp⟩) hHeld ?_
    simp only [Act.put, List.setIfInBounds_toArray, List.set_cons_succ, List.set_cons_zero]
    refine drawn_take (i := 6) (v := .pointer (some ⟨fg, i * 5, none⟩)) (some 54) rfl rfl (by kernel_rfl) (by kernel_rfl) (by kernel_rfl) (fun _ _ _ h => h) (Or.inl ⟨by kernel_rfl, fun wq hw => by go_simp⟩) hHeld ?_
    simp only [Act.put, List.setIfInBounds_toArray, List.set_cons_succ, List.set_cons_zero]
    refine drawn_take (i := 7) (v := .pointer (some ⟨fg, i * 5 + 1, none⟩)) (some 55) rfl rfl (by kernel_rfl) (by kernel_rfl) (by kernel_rfl) (fun _ _ _ h => h) (Or.inl ⟨by kernel_rfl, fun wq hw => by go_simp⟩) hHeld ?_
    simp only [Act.put, List.setIfInBounds_toArray, List.set_cons_succ, List.set_cons_zero]
    refine drawn_take (i := 8) (v := .slice (some ⟨p1, 0, none⟩) 128 p1c) (some 56) rfl rfl (by kernel_rfl) (by kernel_rfl) (by kernel_rfl) (fun _ _ _ h => h) (Or.inl ⟨by kernel_rfl, fun wq hw => by have q := (hw.cellK (p := ⟨fg, i * 5 + 1, none⟩) hlfp1 hnfp1).trans hcell1; go_simp⟩) hHeld ?_
    simp only [Act.put, List.setIfInBounds_toArray, List.set_cons_succ, List.set_cons_zero]
    refine drawn_take (i := 9) (v := .int .i64 (at2 : Int)) (some 57) rfl rfl (by kernel_rfl) (by kernel_rfl) (by kernel_rfl) (fun _ _ _ h => h) (Or.inl ⟨by kernel_rfl, fun wq hw => by go_simp⟩) hHeld ?_
    simp only [Act.put, List.setIfInBounds_toArray, List.set_cons_succ, List.set_cons_zero]
    refine drawn_take (i := 10) (v := .pointer (some ⟨p1, at2, none⟩)) (some 58) rfl rfl (by kernel_rfl) (by kernel_rfl) (by kernel_rfl) (fun _ _ _ h => h) (Or.inl ⟨by kernel_rfl, fun wq hw => by go_simp⟩) hHeld ?_
    simp only [Act.put, List.setIfInBounds_toArray, List.set_cons_succ, List.set_cons_zero]
    refine drawn_take (i := 12) (v := .int .u8 (mk : Int)) (some 60) rfl rfl (by kernel_rfl) (by kernel_rfl) (by kernel_rfl) (fun _ _ _ h => h) (Or.inl ⟨by kernel_rfl, fun wq hw => by go_simp⟩) hHeld ?_
    simp only [Act.put, List.setIfInBounds_toArray, List.set_cons_succ, List.set_cons_zero]
    refine wpAnyH_ready (rs := [11]) (by kernel_rfl) (by simp) ?_
    refine rdy_val (i := 11) rfl rfl (some 59) rfl (.int .u8 (vv : Int)) Wd (by have q := hbyte; go_simp) hHeld (fun hHeld => ?_) rdy_nil
    simp only [Act.put, List.setIfInBounds_toArray, List.set_cons_succ, List.set_cons_zero]
    refine drawn_take (i := 13) (v := .int .u8 ((vv ^^^ mk : Nat) : Int)) (some 61) rfl rfl (by kernel_rfl) (by kernel_rfl) (by kernel_rfl) (fun _ _ _ h => h) (Or.inl ⟨by kernel_rfl, fun wq hw => by go_simp⟩) hHeld ?_
    simp only [Act.put, List.setIfInBounds_toArray, List.set_cons_succ, List.set_cons_zero]
    refine drawn_take (i := 14) (v := .pointer (some ⟨p1, at2, none⟩)) (some 62) rfl rfl (by kernel_rfl) (by kernel_rfl) (by kernel_rfl) (fun _ _ _ h => h) (Or.inl ⟨by kernel_rfl, fun wq hw => by go_simp⟩) hHeld ?_
    simp only [Act.put, List.setIfInBounds_toArray, List.set_cons_succ, List.set_cons_zero]
    refine wpAnyH_ready (rs := [15]) (by kernel_rfl) (by simp) ?_
    refine rdy_unit (i := 15) rfl rfl none rfl (Wd.setCell ⟨p1, at2, none⟩ (.int .u8 ((vv ^^^ mk : Nat) : Int))) (by have q := hbyte; have q2 := hbfz; go_simp) (hHeld.setCell (p := ⟨p1, at2, none⟩) rfl _) (fun hHeld => ?_) rdy_nil
    simp only [Act.put]
    refine wpAnyH_done (by kernel_rfl) ?_ _
    refine NoPanic.normal ?_
    have hKeep := hHeld
    clear hHeld
    exact ⟨rfl, _, ⟨rfl, by rw [HWd.out]⟩, by kernel_rfl⟩
  rintro l9 w4 ⟨rfl, hw4⟩
  obtain ⟨hzs, hvv, hcA, hsX3, hzl, hzb⟩ := HZ.out
  obtain ⟨hoth3, hi3', hrow3, hX2, hq1, hqs1⟩ := HP.out
  obtain ⟨x0, x2, x3, f0, f1, f2, f3, hokc⟩ := HIM.out
  obtain ⟨h2, d0, d4, lfg⟩ := HH2.out
  have hoth4 : ∀ b, b ≠ p1 → w4.heap[b]? = X3.heap[b]? := fun b hb => by rw [hw4]; exact Below.heap_setCell X3.drew ⟨p1, at2, none⟩ _ b hb
  have hi4 : Im w4 (p1, p1c) (zs.set at2 (vv ^^^ mk)) := by rw [hw4]; exact im_put (drew_own hi3') at2 (vv ^^^ mk)
  have hrow4 := own_other hrow3 (w' := w4) (fun b hb => by
    obtain rfl : f.g = b := by simpa [Yf.row, Value.ownBlock] using hb
    exact hoth4 _ HNE1.out)
  have hs4 : w4.heap.size = X2.heap.size := by rw [hw4, ← hsX3]; exact (show (X3.drew.setCell ⟨p1, at2, none⟩ (.int .u8 ((vv ^^^ mk : Nat) : Int))).heap.size = X3.drew.heap.size by simp [World.setCell])
  have hsX := hX2.size
  have hall4 : ∀ b, b < w2.heap.size → b ≠ f.g → w4.heap[b]? = w2.heap[b]? := fun b h1 h3 => ((hoth4 b (by rw [World.size_alloc] at hq1; omega)).trans (hoth3 b h3)).trans (hX2.block b h1)
  have hnq : ∀ {q : Nat × Nat} {z : List Nat}, Im w2 q z → q.1 ≠ f.g := fun hq => own_ne2 hq (h2.rows f HMM.out.1) rfl (g' := f.g) rfl (Ne.symm tyDF.2.2.2.2.2)
  have hup : ∀ (q : Nat × Nat) (z : List Nat), Im w2 q z → F q.1 → Im w4 q z := fun q z hq hf => own_other hq (fun b hb => by cases hb; exact hall4 _ (HL2.out _ hf) (hnq hq))
  have hrt : c.x.rot at2 mk = { c.x with dur := zs.set at2 (vv ^^^ mk) } := by unfold Ext.rot; rw [hvv, hzs]
  have hokr : (c.x.rot at2 mk).ok := Ext.rot_ok hokc ha hm
  have hkw : IntKind.u8.wrap 0 = 0 := rfl
  have hd4' : w4.cell? ⟨f.g, i * 5 + 4, none⟩ = some (.bool c.x.waits) := by
    have h1 := hrow4.cells (g := f.g) rfl (i * 5 + 4) (.bool c.x.waits) (by rw [cellsC_at _ i cA (List.getElem?_set_self (List.getElem?_eq_some_iff.1 HC.out).1) 4 (by omega), hcA]; rfl)
    rw [add_none, Nat.zero_add] at h1
    exact h1
  rw [← HFG.out] at hd4'
  cases hwt : c.x.waits with
  | true =>
    rw [hwt] at hd4'
    have hrd : (c.x.rot at2 mk).rd = c.x.rd := by unfold Ext.rd; rw [hrt]; simp [hwt]
    have hFin := h2.turnC (w' := w4) (F' := fun b => F b ∨ b = p1) HK.out i cA hrow4 (fun b hb hne => hall4 b (HL2.out b hb) hne) (by rw [hcA]; exact ⟨by rw [hrd]; exact hup _ _ x0 f0, by rw [hrt]; exact hi4, by rw [hrt]; exact hup _ _ x2 f2, by rw [hrt]; exact hup _ _ x3 f3⟩) (by rw [hcA]; exact hokr) (fun b hb => .inl hb) (by rw [hcA]; exact ⟨.inl f0, .inr rfl, .inl f2, .inl f3⟩)
    have hG4 : Gr F (fun b => F b ∨ b = p1) w2 w4 := ⟨⟨by rw [hw4]; exact (by rw [HX3.out]; exact hX2.os), by rw [hw4]; exact (by rw [HX3.out]; exact hX2.tape), by rw [hw4]; exact (by rw [HX3.out]; exact hX2.output), by omega, fun b hb hn => hall4 b hb (fun e => hn (e ▸ h2.fr f HMM.out.1))⟩, fun b hb => by
      rcases hb with hb | rfl
      · exact .inl hb
      · exact .inr ⟨by rw [World.size_alloc] at hq1; omega, by rw [hs4]; exact hqs1⟩⟩
    have HFin := hidn (And.intro hFin (HG2.out.trans hG4))
    have HCX : Hid (cA.x = c.x.rot at2 mk) := hidn (by rw [hcA])
    clear hw4 hzs hvv hcA hsX3 hzl hzb hoth3 hi3' hrow3 hX2 hq1 hqs1 x0 x2 x3 f0 f1 f2 f3 hokc h2 d0 d4 lfg hoth4 hi4 hrow4 hs4 hsX hall4 hnq hup hrt hokr hwt hrd hFin hG4 hcell1 hbyte0 hbrow hlfp1 hnfp1
    simp only [putAll, List.foldl, Act.put, List.setIfInBounds_toArray, List.set_cons_succ, List.set_cons_zero]
    go_wp2
    go_ret
    exact ⟨rfl, _, _, _, _, HFin.out.1, ⟨cA, HCX.out, rfl⟩, HFin.out.2⟩
  | false =>
    rw [hwt] at hd4'
    have hrd0 : c.x.rd = zs := by unfold Ext.rd; rw [hwt, hzs]; rfl
    have hx0 : Im w4 c.q0 zs := by rw [← hrd0]; exact hup _ _ x0 f0
    have hlt0 : c.q0.1 < w4.heap.size := own_lt hx0 _ rfl
    have hW5 : Below w4.heap.size w4 (w4.alloc (.cells #[] 5)) := (Below.refl _ _).alloc (Nat.le_refl _) _
    obtain ⟨⟨p0, p0c⟩, X5, hr5, hi5, hq5, hqs5, hg5⟩ := cpy (w4.alloc (.cells #[] 5)) w4.heap.size (heap_alloc_new _ _) ⟨c.q0.1, 0, none⟩ c.q0.2 zs hzl (Im.src hx0 hW5 hlt0)
    have hX5 : Below w4.heap.size w4 X5 := hW5.grown hg5 hW5.size (fun k hk => by cases hk; exact Nat.le_refl _)
    have lfg4 : f.g < w4.heap.size := by omega
    have hrow5 := own_other hrow4 (w' := X5) (fun b hb => by
      obtain rfl : f.g = b := by simpa [Yf.row, Value.ownBlock] using hb
      exact hX5.block _ lfg4)
    obtain ⟨cur5, hcur5⟩ := own_ty hrow5 (g := f.g) rfl
    have fz5 := frozen_of_row _ _ (i * 5) _ _ hcur5
    have hgetA : (f.l.set i cA)[i]? = some cA := List.getElem?_set_self (List.getElem?_eq_some_iff.1 HC.out).1
    have d04 : w4.cell? ⟨f.g, i * 5, none⟩ = some (im c.q0) := by
      have h1 := hrow4.cells (g := f.g) rfl (i * 5 + 0) (im c.q0) (by rw [cellsC_at _ i cA hgetA 0 (by omega), hcA]; rfl)
      rw [add_none, Nat.zero_add] at h1
      exact h1
    have k5 := (hX5.cell (p := ⟨f.g, i * 5, none⟩) lfg4).trans d04
    have d5' := (hW5.cell (p := ⟨f.g, i * 5, none⟩) lfg4).trans d04
    obtain ⟨cB, hcB⟩ : ∃ cB : Yc, cB = ⟨c.x.rot at2 mk, (p0, p0c), (p1, p1c), c.q2, c.q3⟩ := ⟨_, rfl⟩
    have hrow6 := row_put (by rw [List.length_set]) hrow5 hgetA (c' := cB) 0 (by omega) (im (p0, p0c)) (by rw [hcB, hcA]; rfl)
    rw [List.set_set] at hrow6
    obtain ⟨X6, hX6⟩ : ∃ X6, X6 = X5.setCell ⟨f.g, i * 5 + 0, none⟩ (im (p0, p0c)) := ⟨_, rfl⟩
    rw [← hX6] at hrow6
    have hne5 : f.g ≠ p0 := own_ne2 hrow5 hi5 (g := f.g) rfl rfl tyDF.2.2.2.2.2
    have hoth6 : ∀ b, b ≠ f.g → X6.heap[b]? = X5.heap[b]? := fun b hb => by rw [hX6]; exact Below.heap_setCell X5 ⟨f.g, i * 5 + 0, none⟩ _ b hb
    have hi6 : Im X6 (p0, p0c) zs := own_other hi5 (fun b hb => by cases hb; exact hoth6 p0 (Ne.symm hne5))
    have hsX6 : X6.heap.size = X5.heap.size := by rw [hX6]; simp [World.setCell]
    have hcell0 : X6.cell? ⟨f.g, i * 5, none⟩ = some (.slice (some ⟨p0, 0, none⟩) 128 p0c) := by
      have h1 := hrow6.cells (g := f.g) rfl (i * 5 + 0) (im (p0, p0c)) (by rw [cellsC_at _ i cB (List.getElem?_set_self (List.getElem?_eq_some_iff.1 HC.out).1) 0 (by omega), hcB]; rfl)
      rw [add_none, Nat.zero_add] at h1
      exact h1
    have hbyte0' : X6.drew.cell? ⟨p0, at2, none⟩ = some (.int .u8 (vv : Int)) := by rw [hvv]; exact im_byte (drew_own hi6) hzl ha
    obtain ⟨bcur6, hbrow6⟩ := own_ty (drew_own hi6) (g := p0) rfl
    have hlfp0 : f.g < X6.heap.size := by rw [hsX6]; exact Nat.lt_of_lt_of_le lfg4 hX5.size
    have hnfp0 : ¬ (fun b => b = p0) f.g := hne5
    have HR5 := hidn hr5
    obtain ⟨a0, r0, hqq⟩ : ∃ a0 r0, c.q0 = (a0, r0) := ⟨_, _, rfl⟩
    have HEND : Hid (∀ w7, w7 = X6.drew.setCell ⟨p0, at2, none⟩ (.int .u8 ((vv ^^^ mk : Nat) : Int)) → ∃ F', RyOf w7 y F' (some ⟨g, 0, none⟩) fc (R.set k (setF f i cB)) room fuse ∧ cB.x = c.x.rot at2 mk ∧ Gr F F' w w7) := hidn (fun w7 hw7 => by
      have hoth7 : ∀ b, b ≠ p0 → w7.heap[b]? = X6.heap[b]? := fun b hb => by rw [hw7]; exact Below.heap_setCell X6.drew ⟨p0, at2, none⟩ _ b hb
      have hi7 : Im w7 (p0, p0c) (zs.set at2 (vv ^^^ mk)) := by rw [hw7]; exact im_put (drew_own hi6) at2 (vv ^^^ mk)
      have hrow7 := own_other hrow6 (w' := w7) (fun b hb => by
        obtain rfl : f.g = b := by simpa [Yf.row, Value.ownBlock] using hb
        exact hoth7 _ hne5)
      have hs7 : w7.heap.size = X5.heap.size := by rw [hw7, ← hsX6]; exact (show (X6.drew.setCell ⟨p0, at2, none⟩ (.int .u8 ((vv ^^^ mk : Nat) : Int))).heap.size = X6.drew.heap.size by simp [World.setCell])
      have hs5 := hX5.size
      have hq5' : w4.heap.size ≤ p0 := by rw [World.size_alloc] at hq5; omega
      have hall7 : ∀ b, b < w4.heap.size → b ≠ f.g → w7.heap[b]? = w4.heap[b]? := fun b h1 h3 => ((hoth7 b (by omega)).trans (hoth6 b h3)).trans (hX5.block b h1)
      have hnq4 : ∀ {q : Nat × Nat} {z : List Nat}, Im w4 q z → q.1 ≠ f.g := fun hq => own_ne2 hq hrow4 rfl (g' := f.g) rfl (Ne.symm tyDF.2.2.2.2.2)
      have hup7 : ∀ (q : Nat × Nat) (z : List Nat), Im w4 q z → Im w7 q z := fun q z hq => own_other hq (fun b hb => by cases hb; exact hall7 _ (own_lt hq _ rfl) (hnq4 hq))
      have hrd : (c.x.rot at2 mk).rd = zs.set at2 (vv ^^^ mk) := by unfold Ext.rd; rw [hrt]; simp [hwt]
      have hFin := h2.turnC (w' := w7) (F' := fun b => F b ∨ b = p1 ∨ b = p0) HK.out i cB hrow7 (fun b hb hne => (hall7 b (by have := HL2.out b hb; omega) hne).trans (hall4 b (HL2.out b hb) hne)) (by rw [hcB]; exact ⟨by rw [hrd]; exact hi7, by rw [hrt]; exact hup7 _ _ hi4, by rw [hrt]; exact hup7 _ _ (hup _ _ x2 f2), by rw [hrt]; exact hup7 _ _ (hup _ _ x3 f3)⟩) (by rw [hcB]; exact hokr) (fun b hb => .inl hb) (by rw [hcB]; exact ⟨.inr (.inr rfl), .inr (.inl rfl), .inl f2, .inl f3⟩)
      refine ⟨_, hFin, by rw [hcB], HG2.out.trans ⟨⟨by rw [hw7]; exact (by rw [hX6]; exact hX5.os.trans (by rw [hw4]; exact (by rw [HX3.out]; exact hX2.os))), by rw [hw7]; exact (by rw [hX6]; exact hX5.tape.trans (by rw [hw4]; exact (by rw [HX3.out]; exact hX2.tape))), by rw [hw7]; exact (by rw [hX6]; exact hX5.output.trans (by rw [hw4]; exact (by rw [HX3.out]; exact hX2.output))), by omega, fun b hb hn => ?_⟩, fun b hb => ?_⟩⟩
      · have hbf : b ≠ f.g := fun e => hn (e ▸ h2.fr f HMM.out.1)
        exact (hall7 b (by omega) hbf).trans (hall4 b hb hbf)
      · rcases hb with hb | rfl | rfl
        · exact .inl hb
        · exact .inr ⟨by rw [World.size_alloc] at hq1; omega, by omega⟩
        · exact .inr ⟨by omega, by omega⟩)
    rw [hqq] at HR5 k5 d5'
    simp only at HR5
    have k5' : X5.cell? ⟨f.g, i * 5, none⟩ = some (.slice (some ⟨a0, 0, none⟩) 128 r0) := k5
    have d5'' : (w4.alloc (.cells #[] 5)).cell? ⟨f.g, i * 5, none⟩ = some (.slice (some ⟨a0, 0, none⟩) 128 r0) := d5'
    have hX6' : X6 = X5.setCell ⟨f.g, i * 5, none⟩ (im (p0, p0c)) := hX6
    rw [← HFG.out] at fz5 k5' d5'' hcell0 hlfp0 hnfp0 hX6'
    have HX6 := hidn hX6'
    have HBY6 := hidn (And.intro hcell0 (And.intro hbyte0' (And.intro hbrow6 (And.intro hlfp0 hnfp0))))
    clear hw4 hzs hvv hcA hsX3 hzl hzb hoth3 hi3' hrow3 hX2 hq1 hqs1 x0 x2 x3 f0 f1 f2 f3 hokc h2 d0 d4 lfg hoth4 hi4 hrow4 hs4 hsX hall4 hnq hup hrt hokr hwt hcell1 hbyte0 hbrow hlfp1 hnfp1
    clear hrd0 hx0 hlt0 hW5 hr5 hi5 hq5 hqs5 hg5 hX5 lfg4 hrow5 hcur5 hgetA d04 k5 d5' hcB hrow6 hX6 hX6' hne5 hoth6 hi6 hsX6 hcell0 hbyte0' hbrow6 hlfp0 hnfp0 hqq
    simp only [putAll, List.foldl, Act.put, List.setIfInBounds_toArray, List.set_cons_succ, List.set_cons_zero]
    go_wp2_with (at_builtin; refine wpList_app_run2 rfl _ _ 29 29 rfl rfl (.slice (some ⟨w4.heap.size, 0, none⟩) 0 0) _ _ rfl rfl HR5.out ?_)
    rw [← HX6.out]
    clear fz5 k5' d5'' HR5 hd4'
    obtain ⟨hcell0, hbyte0, hbrow, hlfp0, hnfp0⟩ := HBY6.out
    refine region_cut (fun l w' => l = [(77, .pointer (some ⟨fg, i * 5, none⟩)), (78, .pointer (some ⟨fg, i * 5, none⟩)), (79, .pointer (some ⟨fg, i * 5, none⟩)), (80, .slice (some ⟨p0, 0, none⟩) 128 p0c), (81, .int .i64 (at2 : Int)), (82, .pointer (some ⟨fg, i * 5, none⟩)), (83, .pointer (some ⟨fg, i * 5, none⟩)), (84, .pointer (some ⟨fg, i * 5, none⟩)), (85, .slice (some ⟨p0, 0, none⟩) 128 p0c), (86, .int .i64 (at2 : Int)), (87, .pointer (some ⟨p0, at2, none⟩)), (88, .int .u8 (vv : Int)), (89, .int .u8 (mk : Int)), (90, .int .u8 ((vv ^^^ mk : Nat) : Int)), (91, .pointer (some ⟨p0, at2, none⟩))] ∧ w' = X6.drew.setCell ⟨p0, at2, none⟩ (.int .u8 ((vv ^^^ mk : Nat) : Int))) ?_ ?_
    · skip
      refine wp_region_noPanic ?_
      refine wp_region_held_drew (S := Keeps (fun b => b = p0) X6) (by kernel_rfl) (⟨rfl, rfl, rfl, Nat.le_refl _, fun _ _ _ => rfl⟩) (fun hHeld => ?_)
      obtain ⟨Wd, hWd⟩ : ∃ Wd, Wd = X6.drew := ⟨_, rfl⟩
      have hbyte : Wd.cell? ⟨p0, at2, none⟩ = some (.int .u8 (vv : Int)) := by rw [hWd]; exact hbyte0
      have hbfz := frozen_of_row _ _ at2 _ _ (show Wd.heap[p0]? = _ from by rw [hWd]; exact hbrow)
      rw [← hWd] at hHeld ⊢
      have HWd := hidn hWd
      clear hWd
      refine drawn_take (i := 0) (v := .pointer (some ⟨fg, i * 5, none⟩)) (some 77) rfl rfl (by kernel_rfl) (by kernel_rfl) (by kernel_rfl) (fun _ _ _ h => h) (Or.inl ⟨by kernel_rfl, fun wq hw => by go_simp⟩) hHeld ?_
      simp only [Act.put, List.setIfInBounds_toArray, List.set_cons_succ, List.set_cons_zero]
      refine drawn_take (i := 1) (v := .pointer (some ⟨fg, i * 5, none⟩)) (some 78) rfl rfl (by kernel_rfl) (by kernel_rfl) (by kernel_rfl) (fun _ _ _ h => h) (Or.inl ⟨by kernel_rfl, fun wq hw => by go_simp⟩) hHeld ?_
      simp only [Act.put, List.setIfInBounds_toArray, List.set_cons_succ, List.set_cons_zero]
      refine drawn_take (i := 2) (v := .pointer (some ⟨fg, i * 5, none⟩)) (some 79) rfl rfl (by kernel_rfl) (by kernel_rfl) (by kernel_rfl) (fun _ _ _ h => h) (Or.inl ⟨by kernel_rfl, fun wq hw => by go_simp⟩) hHeld ?_
      simp only [Act.put, List.setIfInBounds_toArray, List.set_cons_succ, List.set_cons_zero]
      refine drawn_take (i := 3) (v := .slice (some ⟨p0, 0, none⟩) 128 p0c) (some 80) rfl rfl (by kernel_rfl) (by kernel_rfl) (by kernel_rfl) (fun _ _ _ h => h) (Or.inl ⟨by kernel_rfl, fun wq hw => by have q := (hw.cellK (p := ⟨fg, i * 5, none⟩) hlfp0 hnfp0).trans hcell0; go_simp⟩) hHeld ?_
      simp only [Act.put, List.setIfInBounds_toArray, List.set_cons_succ, List.set_cons_zero]
      refine drawn_take (i := 4) (v := .int .i64 (at2 : Int)) (some 81) rfl rfl (by kernel_rfl) (by kernel_rfl) (by kernel_rfl) (fun _ _ _ h => h) (Or.inl ⟨by kernel_rfl, fun wq hw => by go_simp⟩) hHeld ?_
      simp only [Act.put, List.setIfInBounds_toArray, List.set_cons_succ, List.set_cons_zero]
      refine drawn_take (i := 5) (v := .pointer (some ⟨fg, i * 5, none⟩)) (some 82) rfl rfl (by kernel_rfl) (by kernel_rfl) (by kernel_rfl) (fun _ _ _ h => h) (Or.inl ⟨by kernel_rfl, fun wq hw => by go_simp⟩) hHeld ?_
      simp only [Act.put, List.setIfInBounds_toArray, List.set_cons_succ, List.set_cons_zero]
      refine drawn_take (i := 6) (v := .pointer (some ⟨fg, i * 5, none⟩)) (some 83) rfl rfl (by kernel_rfl) (by kernel_rfl) (by kernel_rfl) (fun _ _ _ h => h) (Or.inl ⟨by kernel_rfl, fun wq hw => by go_simp⟩) hHeld ?_
      simp only [Act.put, List.setIfInBounds_toArray, List.set_cons_succ, List.set_cons_zero]
      refine drawn_take (i := 7) (v := .pointer (some ⟨fg, i * 5, none⟩)) (some 84) rfl rfl (by kernel_rfl) (by kernel_rfl) (by kernel_rfl) (fun _ _ _ h => h) (Or.inl ⟨by kernel_rfl, fun wq hw => by go_simp⟩) hHeld ?_
      simp only [Act.put, List.setIfInBounds_toArray, List.set_cons_succ, List.set_cons_zero]
      refine drawn_take (i := 8) (v := .slice (some ⟨p0, 0, none⟩) 128 p0c) (some 85) rfl rfl (by kernel_rfl) (by kernel_rfl) (by kernel_rfl) (fun _ _ _ h => h) (Or.inl ⟨by kernel_rfl, fun wq hw => by have q := (hw.cellK (p := ⟨fg, i * 5, none⟩) hlfp0 hnfp0).trans hcell0; go_simp⟩) hHeld ?_
      simp only [Act.put, List.setIfInBounds_toArray, List.set_cons_succ, List.set_cons_zero]
      refine drawn_take (i := 9) (v := .int .i64 (at2 : Int)) (some 86) rfl rfl (by kernel_rfl) (by kernel_rfl) (by kernel_rfl) (fun _ _ _ h => h) (Or.inl ⟨by kernel_rfl, fun wq hw => by go_simp⟩) hHeld ?_
      simp only [Act.put, List.setIfInBounds_toArray, List.set_cons_succ, List.set_cons_zero]
      refine drawn_take (i := 10) (v := .pointer (some ⟨p0, at2, none⟩)) (some 87) rfl rfl (by kernel_rfl) (by kernel_rfl) (by kernel_rfl) (fun _ _ _ h => h) (Or.inl ⟨by kernel_rfl, fun wq hw => by go_simp⟩) hHeld ?_
      simp only [Act.put, List.setIfInBounds_toArray, List.set_cons_succ, List.set_cons_zero]
      refine drawn_take (i := 12) (v := .int .u8 (mk : Int)) (some 89) rfl rfl (by kernel_rfl) (by kernel_rfl) (by kernel_rfl) (fun _ _ _ h => h) (Or.inl ⟨by kernel_rfl, fun wq hw => by go_simp⟩) hHeld ?_
      simp only [Act.put, List.setIfInBounds_toArray, List.set_cons_succ, List.set_cons_zero]
      refine wpAnyH_ready (rs := [11]) (by kernel_rfl) (by simp) ?_
      refine rdy_val (i := 11) rfl rfl (some 88) rfl (.int .u8 (vv : Int)) Wd (by have q := hbyte; go_simp) hHeld (fun hHeld => ?_) rdy_nil
      simp only [Act.put, List.setIfInBounds_toArray, List.set_cons_succ, List.set_cons_zero]
      refine drawn_take (i := 13) (v := .int .u8 ((vv ^^^ mk : Nat) : Int)) (some 90) rfl rfl (by kernel_rfl) (by kernel_rfl) (by kernel_rfl) (fun _ _ _ h => h) (Or.inl ⟨by kernel_rfl, fun wq hw => by go_simp⟩) hHeld ?_
      simp only [Act.put, List.setIfInBounds_toArray, List.set_cons_succ, List.set_cons_zero]
      refine drawn_take (i := 14) (v := .pointer (some ⟨p0, at2, none⟩)) (some 91) rfl rfl (by kernel_rfl) (by kernel_rfl) (by kernel_rfl) (fun _ _ _ h => h) (Or.inl ⟨by kernel_rfl, fun wq hw => by go_simp⟩) hHeld ?_
      simp only [Act.put, List.setIfInBounds_toArray, List.set_cons_succ, List.set_cons_zero]
      refine wpAnyH_ready (rs := [15]) (by kernel_rfl) (by simp) ?_
      refine rdy_unit (i := 15) rfl rfl none rfl (Wd.setCell ⟨p0, at2, none⟩ (.int .u8 ((vv ^^^ mk : Nat) : Int))) (by have q := hbyte; have q2 := hbfz; go_simp) (hHeld.setCell (p := ⟨p0, at2, none⟩) rfl _) (fun hHeld => ?_) rdy_nil
      simp only [Act.put]
      refine wpAnyH_done (by kernel_rfl) ?_ _
      refine NoPanic.normal ?_
      have hKeep := hHeld
      clear hHeld
      exact ⟨rfl, _, ⟨rfl, by rw [HWd.out]⟩, by kernel_rfl⟩
    rintro l9 w7 ⟨rfl, hw7⟩
    obtain ⟨F', hfin, hcx, hgr⟩ := HEND.out w7 hw7
    have HFin := hidn (And.intro hfin (And.intro hcx hgr))
    clear hw7 hfin hcx hgr hcell0 hbyte0 hbrow hlfp0 hnfp0
    simp only [putAll, List.foldl, Act.put, List.setIfInBounds_toArray, List.set_cons_succ, List.set_cons_zero]
    go_wp2
    go_ret
    exact ⟨rfl, _, _, _, _, HFin.out.1, ⟨cB, HFin.out.2.1, rfl⟩, HFin.out.2.2⟩
end Go.Proofs.Ytocfbokgbpaneaa
