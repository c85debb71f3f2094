/- The document's disk: Write over an extent that is there. -/
import Derived.Test.YtpiohhljcjobfaaMg
import Derived.Test.YtpiohhljcjobfaaDiskPut
namespace Go.Proofs.Ytpiohhljcjobfaa
open Go.RowKit Go.Maps
set_option linter.unusedVariables false

set_option maxRecDepth 100000 in
set_option maxHeartbeats 4000000 in
theorem writeY_old (w : World) (y : Nat) (F : Nat → Prop) (fa : Option Addr) (fc : Nat) (R : List Yf) (room fuse : Int) (h : RyOf w y F fa fc R room fuse) (hF : ∀ k, F k → k < w.heap.size) (s : ByteArray) (hs : nameB s.data.toList = true) (hR : R.length ≤ 1000000) (hr0 : 0 ≤ room) (hr1 : room ≤ 100000) (hsm : sumL R ≤ 100000) (hf0 : fuse ≠ 0) (hf1 : -1 ≤ fuse) (hf2 : fuse ≤ 9223372036854775807) (i : Nat) (ba cap : Nat) (boff : Nat) (zs : List Nat) (hB : BsF F w (some ⟨ba, boff, none⟩) 128 zs) (n : Nat) (HN : Hid (n = (extY R s).length)) (hin : i < n) (k : Nat) (f : Yf) (c : Yc) (hp : placeY R s = some k) (hk : R[k]? = some f) (hc : f.l[i]? = some c) :
    Calls Try.prog 28 #[.pointer (some ⟨y, 0, none⟩), .string s, .int .i64 (i : Int), .slice (some ⟨ba, boff, none⟩) 128 cap] w (RyPost w y F (fun R2 => ∃ c', c'.x = c.x.wrote zs ∧ R2 = R.set k (setF f i c')) room (burnt fuse) 0) := by
  have HNm := hidn (isNameY_any w s (by have := nameB_size hs; unfold maxLen; omega))
  rw [hs] at HNm
  have HE := hidn (extentsY_any w y F fa fc R room fuse h hF s hR n HN)
  have HF := hidn hF
  have HBz := hidn hB
  have HYF := hidn h.fy
  have HSt := hidn (fun (wx : World) (hx : RyOf wx y F fa fc R room fuse) => stops_no wx y F fa fc R room fuse hx hf0 hf1 hf2)
  have HE2 := hidn (fun (wx : World) (hx : RyOf wx y F fa fc R room (burnt fuse)) (hl : ∀ k, F k → k < wx.heap.size) => extentsY_any wx y F fa fc R room (burnt fuse) hx hl s hR n HN)
  have HPl := hidn (fun (wx : World) (hx : RyOf wx y F fa fc R room (burnt fuse)) (hl : ∀ k, F k → k < wx.heap.size) => place_any wx y F fa fc R room (burnt fuse) hx hl s hR)
  have HFr := hidn (fun (wx : World) (hx : RyOf wx y F fa fc R room (burnt fuse)) (hl : ∀ k, F k → k < wx.heap.size) => freeY_any wx y F fa fc R room (burnt fuse) hx hl hR hr0 hr1 hsm)
  have H := hidn h
  have e2 : decide ((i : Int) < 0) = false := by simp
  have e3 : decide ((n : Int) < (i : Int)) = false := by simp; omega
  clear h hF hs hB hf0 hf1 hf2
  have HPI : Hid (placeI R s = (k : Int)) := hidn (by unfold placeI; rw [hp])
  have HFK := hidn hk
  have HCI := hidn hc
  have HRl := hidn hR
  have HFL : Hid (f.l.length ≤ 100000) := hidn (by
    have h1 := sumL_take R k f hk
    have h2 := sumL_le R (k + 1)
    omega)
  have e4 : ((i : Int) == (n : Int)) = false := beq_eq_false_iff_ne.2 (by omega)
  have e5 : decide ((k : Int) < 0) = false := by simp
  clear hp hk hc hR
  go_enter Try.func28, Try.ntmps28
  go_wp2_with fail
  refine HNm.out.mono ?_
  clear HNm
  rintro e w1 ⟨rfl, hw1⟩
  rw [hw1]
  clear hw1
  go_wp2_with fail
  refine HE.out.mono ?_
  clear HE
  rintro e w2 ⟨rfl, hb2⟩
  have HG2 := hidn (Gr.of (Keeps.of_below (F := F) hb2))
  have HL2 : Hid (∀ k, F k → k < w2.heap.size) := hidn (fun k hk => Nat.lt_of_lt_of_le (HF.out k hk) hb2.size)
  have HR2 := hidn (H.out.below HF.out hb2)
  clear hb2 H HF
  go_wp2_with fail
  refine (HSt.out _ HR2.out).mono ?_
  clear HSt HR2
  rintro e w3 ⟨rfl, hR3, hG3, hs3⟩
  have HR3 := hidn hR3
  have HG3 := hidn (HG2.out.trans hG3)
  have HL3 : Hid (∀ k, F k → k < w3.heap.size) := hidn (fun k hk => by rw [hs3]; exact HL2.out k hk)
  clear hR3 hG3 hs3 HG2 HL2
  go_wp2_with fail
  refine (HE2.out _ HR3.out HL3.out).mono ?_
  clear HE2
  rintro e w4 ⟨rfl, hb4⟩
  have HR4 := hidn (HR3.out.below HL3.out hb4)
  have HG4 := hidn (HG3.out.trans (Gr.of (Keeps.of_below (F := F) hb4)))
  have HL4 : Hid (∀ k, F k → k < w4.heap.size) := hidn (fun k hk => Nat.lt_of_lt_of_le (HL3.out k hk) hb4.size)
  clear hb4 HR3 HG3 HL3
  go_wp2_with fail
  have HP := hidn (HPl.out _ HR4.out HL4.out)
  rw [HPI.out] at HP
  refine HP.out.mono ?_
  clear HP HPl HPI
  rintro e w5 ⟨rfl, hb5⟩
  have h5 := HR4.out.below HL4.out hb5
  have HG5 := hidn (HG4.out.trans (Gr.of (Keeps.of_below (F := F) hb5)))
  have HL5 : Hid (∀ k, F k → k < w5.heap.size) := hidn (fun k hk => Nat.lt_of_lt_of_le (HL4.out k hk) hb5.size)
  clear hb5 HR4 HG4 HL4
  have hmem := List.mem_of_getElem? HFK.out
  have hcm := List.mem_of_getElem? HCI.out
  obtain ⟨g, hfa, hFg, hc0, hc1⟩ := h5.at HFK.out
  subst hfa
  obtain ⟨d0, d1, d2, d3, d4⟩ := h5.ext hmem HCI.out
  have c1 : w5.cell? ⟨y, 1, none⟩ = some (.slice (some ⟨g, 0, none⟩) R.length fc) := by rw [cell_of_row _ _ _ _ _ _ h5.disk]; rfl
  have hBz := (HBz.out.gr HG5.out).1
  have hba : ba < w5.heap.size := by
    have := block_lt_of_cell (hBz.2.2.2.2 _ rfl 0 (by omega))
    rw [add_none] at this
    exact this
  have hsrc : ∀ (W' : World), Below w5.heap.size w5 W' → ∀ j u, (vb zs)[j]? = some u → W'.cell? ((⟨ba, boff, none⟩ : Addr).add j) = some u := fun W' hb j u hj => by
    have hjl : j < 128 := by have := (List.getElem?_eq_some_iff.1 hj).1; rw [length_vb, hBz.1] at this; exact this
    have hcz := hBz.2.2.2.2 _ rfl j hjl
    have e : u = .int .u8 ((zs.getD j 0 : Nat) : Int) := by
      unfold vb at hj
      rw [List.getElem?_map] at hj
      obtain ⟨x, hx, rfl⟩ := Option.map_eq_some_iff.1 hj
      rw [List.getD_eq_getElem?_getD, hx]
      rfl
    rw [e, add_none]
    rw [add_none] at hcz
    exact (hb.cell (p := ⟨ba, boff + j, none⟩) hba).trans hcz
  have hW1 : Below w5.heap.size w5 (w5.alloc (.cells #[] 5)) := (Below.refl _ _).alloc (Nat.le_refl _) _
  obtain ⟨q1, W2, hr1', hi1, hq1, hqs1, hg1⟩ := cpy (w5.alloc (.cells #[] 5)) w5.heap.size (heap_alloc_new _ _) ⟨ba, boff, none⟩ cap zs hBz.1 (hsrc _ hW1)
  have hW2 : Below w5.heap.size w5 W2 := hW1.grown hg1 hW1.size (fun k hk => by cases hk; exact Nat.le_refl _)
  have hW3 : Below w5.heap.size w5 (W2.alloc (.cells #[] 5)) := hW2.alloc hW2.size _
  obtain ⟨q2, W4, hr2', hi2, hq2, hqs2, hg2⟩ := cpy (W2.alloc (.cells #[] 5)) W2.heap.size (heap_alloc_new _ _) ⟨ba, boff, none⟩ cap zs hBz.1 (hsrc _ hW3)
  have hW4 : Below w5.heap.size w5 W4 := hW3.grown hg2 hW3.size (fun k hk => by cases hk; exact hW2.size)
  have hi1' : Im W4 q1 zs := im_grown (im_grown hi1 (grown_alloc W2 _) (fun e => by cases e)) hg2 (fun e => by have := Option.some.inj e; omega)
  have HR1 := hidn hr1'
  have HR2 := hidn hr2'
  have hrow4 := own_other (h5.rows f hmem) (w' := W4) (fun b hb => by
    obtain rfl : f.g = b := by simpa [Yf.row, Value.ownBlock] using hb
    exact hW4.block _ (HL5.out _ (h5.fr f hmem)))
  obtain ⟨cur, hcur⟩ := own_ty hrow4 (g := f.g) rfl
  have fz0 := frozen_of_row _ _ (i * 5) _ _ hcur
  have fz3 := frozen_of_row _ _ (i * 5 + 3) _ _ hcur
  have fz4 := frozen_of_row _ _ (i * 5 + 4) _ _ hcur
  have lf := HL5.out _ (h5.fr f hmem)
  have k0 := (hW4.cell (p := ⟨f.g, i * 5, none⟩) lf).trans d0
  have k3 := (hW4.cell (p := ⟨f.g, i * 5 + 3, none⟩) lf).trans d3
  have k4 := (hW4.cell (p := ⟨f.g, i * 5 + 4, none⟩) lf).trans d4
  obtain ⟨c', hc'⟩ : ∃ c' : Yc, c' = ⟨c.x.wrote zs, q1, c.q1, c.q2, q2⟩ := ⟨_, rfl⟩
  have hp1 := row_put rfl hrow4 HCI.out (c' := ⟨c.x, q1, c.q1, c.q2, c.q3⟩) 0 (by omega) (im q1) rfl
  have hp2 := row_put (by rw [List.length_set]) hp1 (by rw [List.getElem?_set_self (List.getElem?_eq_some_iff.1 HCI.out).1]) (c := ⟨c.x, q1, c.q1, c.q2, c.q3⟩) (c' := ⟨c.x, q1, c.q1, c.q2, q2⟩) 3 (by omega) (im q2) rfl
  rw [List.set_set] at hp2
  have hp3 := row_put (by rw [List.length_set]) hp2 (by rw [List.getElem?_set_self (List.getElem?_eq_some_iff.1 HCI.out).1]) (c := ⟨c.x, q1, c.q1, c.q2, q2⟩) (c' := c') 4 (by omega) (.bool true) (by rw [hc']; rfl)
  rw [List.set_set] at hp3
  have hoth : ∀ b, b ≠ f.g → (((W4.setCell ⟨f.g, i * 5, none⟩ (im q1)).setCell ⟨f.g, i * 5 + 3, none⟩ (im q2)).setCell ⟨f.g, i * 5 + 4, none⟩ (.bool true)).heap[b]? = W4.heap[b]? := fun b hb => by
    rw [Below.heap_setCell _ ⟨f.g, i * 5 + 4, none⟩ _ b hb, Below.heap_setCell _ ⟨f.g, i * 5 + 3, none⟩ _ b hb, Below.heap_setCell _ ⟨f.g, i * 5, none⟩ _ b hb]
  obtain ⟨x0, x1, x2, x3⟩ := h5.ims f hmem c hcm
  obtain ⟨f0, f1, f2, f3⟩ := h5.fi f hmem c hcm
  have hokc := (h5.ok f hmem).2.2 c hcm
  have hkeepI : ∀ (q : Nat × Nat) (z : List Nat), Im W4 q z → Im (((W4.setCell ⟨f.g, i * 5, none⟩ (im q1)).setCell ⟨f.g, i * 5 + 3, none⟩ (im q2)).setCell ⟨f.g, i * 5 + 4, none⟩ (.bool true)) q z := fun q z hq => own_other hq (fun b hb => hoth b (Ne.symm (own_ne2 hrow4 hq (g := f.g) rfl hb tyDF.2.2.2.2.2)))
  have hup : ∀ (q : Nat × Nat) (z : List Nat), Im w5 q z → F q.1 → Im W4 q z := fun q z hq hf => own_other hq (fun b hb => by cases hb; exact hW4.block _ (HL5.out _ hf))
  have hok' : c'.x.ok := by rw [hc']; exact Ext.wrote_ok hokc hBz.1 hBz.2.2.1
  have hFin := h5.turnC (w' := ((W4.setCell ⟨f.g, i * 5, none⟩ (im q1)).setCell ⟨f.g, i * 5 + 3, none⟩ (im q2)).setCell ⟨f.g, i * 5 + 4, none⟩ (.bool true)) (F' := fun b => F b ∨ b = q1.1 ∨ b = q2.1) HFK.out i c' hp3 (fun b hb hne => by rw [hoth b hne]; exact hW4.block b (HL5.out b hb)) (by rw [hc']; exact ⟨hkeepI _ _ hi1', hkeepI _ _ (hup _ _ x1 f1), hkeepI _ _ (hup _ _ x2 f2), hkeepI _ _ hi2⟩) hok' (fun b hb => .inl hb) (by rw [hc']; exact ⟨.inr (.inl rfl), .inl f1, .inl f2, .inr (.inr rfl)⟩)
  have HFin := hidn hFin
  have HCX : Hid (c'.x = c.x.wrote zs) := hidn (by rw [hc'])
  have hs14 : q1.1 < W4.heap.size := by have := hg2.size; rw [World.size_alloc] at this; omega
  have hsz : (((W4.setCell ⟨f.g, i * 5, none⟩ (im q1)).setCell ⟨f.g, i * 5 + 3, none⟩ (im q2)).setCell ⟨f.g, i * 5 + 4, none⟩ (.bool true)).heap.size = W4.heap.size := by simp [World.setCell]
  have hFfg := h5.fr f hmem
  have HGF : Hid (Gr F (fun b => F b ∨ b = q1.1 ∨ b = q2.1) w (((W4.setCell ⟨f.g, i * 5, none⟩ (im q1)).setCell ⟨f.g, i * 5 + 3, none⟩ (im q2)).setCell ⟨f.g, i * 5 + 4, none⟩ (.bool true))) := hidn (by
    have hk : Keeps F w5 (((W4.setCell ⟨f.g, i * 5, none⟩ (im q1)).setCell ⟨f.g, i * 5 + 3, none⟩ (im q2)).setCell ⟨f.g, i * 5 + 4, none⟩ (.bool true)) := (((Keeps.of_below hW4).setCell (p := ⟨f.g, i * 5, none⟩) hFfg _).setCell (p := ⟨f.g, i * 5 + 3, none⟩) hFfg _).setCell (p := ⟨f.g, i * 5 + 4, none⟩) hFfg _
    refine HG5.out.trans ⟨hk, fun b hb => ?_⟩
    rw [hsz]
    rcases hb with hb | rfl | rfl
    · exact .inl hb
    · exact .inr ⟨by have := hq1; rw [World.size_alloc] at this; omega, hs14⟩
    · exact .inr ⟨by have := hW2.size; have := hq2; rw [World.size_alloc] at this; omega, hqs2⟩)
  obtain ⟨N, hN⟩ : ∃ N, N = R.length := ⟨_, rfl⟩
  have hkN : (k : Int) < (N : Int) := by rw [hN]; have := (List.getElem?_eq_some_iff.1 HFK.out).1; omega
  have hNb : N ≤ 1000000 := by rw [hN]; exact HRl.out
  rw [← hN] at c1
  unfold Yf.row at hc1
  obtain ⟨fl, hfl⟩ : ∃ fl, fl = f.l.length := ⟨_, rfl⟩
  have hil : (i : Int) < (fl : Int) := by rw [hfl]; have := (List.getElem?_eq_some_iff.1 HCI.out).1; omega
  have hflb : fl ≤ 100000 := by rw [hfl]; exact HFL.out
  have hne5 : ((i : Int) == (fl : Int)) = false := beq_eq_false_iff_ne.2 (by omega)
  rw [← hfl] at hc1
  have HRF := hidn (And.intro HFin.out (And.intro HCX.out HGF.out))
  clear hN hfl hr1' hr2' hi1 hi2 hq1 hq2 hqs1 hqs2 hg1 hg2 hW1 hW2 hW3 hW4 hi1' hrow4 hcur hp1 hp2 hp3 hoth hkeepI hup hok' hFin hsz hs14 x0 x1 x2 x3 f0 f1 f2 f3 hokc hsrc hBz hFg hc0 d0 d1 d2 d3 d4 hmem hcm h5 hc' HFin HCX HGF
  obtain ⟨fg, hfg⟩ : ∃ fg, fg = f.g := ⟨_, rfl⟩
  obtain ⟨fcc, hfcc⟩ : ∃ fcc, fcc = f.c := ⟨_, rfl⟩
  rw [← hfg] at hc1 fz0 fz3 fz4 k0 k3 k4 HRF hFfg lf
  rw [← hfcc] at hc1
  have HFG := hidn hfg
  clear hfg hfcc hFfg
  go_wp2_with (at_builtin; first | (refine wpList_app_run2 rfl _ _ 31 31 rfl rfl (.slice (some ⟨w5.heap.size, 0, none⟩) 0 0) _ _ rfl rfl HR1.out ?_) | (refine wpList_app_run2 rfl _ _ 31 31 rfl rfl (.slice (some ⟨W2.heap.size, 0, none⟩) 0 0) _ _ rfl rfl HR2.out ?_))
  go_ret
  exact ⟨rfl, _, _, _, _, HRF.out.1, ⟨c', HRF.out.2.1, rfl⟩, HRF.out.2.2⟩
end Go.Proofs.Ytpiohhljcjobfaa

namespace Go.Proofs.Ytpiohhljcjobfaa
open Go.RowKit Go.Maps
set_option linter.unusedVariables false

set_option maxRecDepth 100000 in
set_option maxHeartbeats 4000000 in
theorem writeY_full (w : World) (y : Nat) (F : Nat → Prop) (fa : Option Addr) (fc : Nat) (R : List Yf) (room fuse : Int) (h : RyOf w y F fa fc R room fuse) (hF : ∀ k, F k → k < w.heap.size) (s : ByteArray) (hs : nameB s.data.toList = true) (hR : R.length ≤ 1000000) (hr0 : 0 ≤ room) (hr1 : room ≤ 100000) (hsm : sumL R ≤ 100000) (hf0 : fuse ≠ 0) (hf1 : -1 ≤ fuse) (hf2 : fuse ≤ 9223372036854775807) (i : Nat) (ba cap : Nat) (boff : Nat) (zs : List Nat) (hB : BsF F w (some ⟨ba, boff, none⟩) 128 zs) (n : Nat) (HN : Hid (n = (extY R s).length)) (hin : i = n) (hfull : room - (sumL R : Int) ≤ 0) :
    Calls Try.prog 28 #[.pointer (some ⟨y, 0, none⟩), .string s, .int .i64 (i : Int), .slice (some ⟨ba, boff, none⟩) 128 cap] w (RyPost w y F (fun R2 => R2 = R) room (burnt fuse) 4) := by
  have HNm := hidn (isNameY_any w s (by have := nameB_size hs; unfold maxLen; omega))
  rw [hs] at HNm
  have HE := hidn (extentsY_any w y F fa fc R room fuse h hF s hR n HN)
  have HF := hidn hF
  have HBz := hidn hB
  have HYF := hidn h.fy
  have HSt := hidn (fun (wx : World) (hx : RyOf wx y F fa fc R room fuse) => stops_no wx y F fa fc R room fuse hx hf0 hf1 hf2)
  have HE2 := hidn (fun (wx : World) (hx : RyOf wx y F fa fc R room (burnt fuse)) (hl : ∀ k, F k → k < wx.heap.size) => extentsY_any wx y F fa fc R room (burnt fuse) hx hl s hR n HN)
  have HPl := hidn (fun (wx : World) (hx : RyOf wx y F fa fc R room (burnt fuse)) (hl : ∀ k, F k → k < wx.heap.size) => place_any wx y F fa fc R room (burnt fuse) hx hl s hR)
  have HFr := hidn (fun (wx : World) (hx : RyOf wx y F fa fc R room (burnt fuse)) (hl : ∀ k, F k → k < wx.heap.size) => freeY_any wx y F fa fc R room (burnt fuse) hx hl hR hr0 hr1 hsm)
  have H := hidn h
  have e2 : decide ((i : Int) < 0) = false := by simp
  have e3 : decide ((n : Int) < (i : Int)) = false := by simp; omega
  clear h hF hs hB hf0 hf1 hf2
  have e4 : ((i : Int) == (n : Int)) = true := by rw [hin]; simp
  have e3n : decide (n < i) = false := by simp; omega
  have e3m : ¬ ((n : Int) < (i : Int)) := by omega
  have e4n : decide (i = n) = true := by simpa using hin
  obtain ⟨fr, hfr⟩ : ∃ fr, fr = room - (sumL R : Int) := ⟨_, rfl⟩
  rw [← hfr] at HFr
  have e5 : decide (fr ≤ 0) = true := by rw [hfr]; simpa using hfull
  clear hfull hfr hR hin
  go_enter Try.func28, Try.ntmps28
  go_wp2_with fail
  refine HNm.out.mono ?_
  clear HNm
  rintro e w1 ⟨rfl, hw1⟩
  rw [hw1]
  clear hw1
  go_wp2_with fail
  refine HE.out.mono ?_
  clear HE
  rintro e w2 ⟨rfl, hb2⟩
  have HG2 := hidn (Gr.of (Keeps.of_below (F := F) hb2))
  have HL2 : Hid (∀ k, F k → k < w2.heap.size) := hidn (fun k hk => Nat.lt_of_lt_of_le (HF.out k hk) hb2.size)
  have HR2 := hidn (H.out.below HF.out hb2)
  clear hb2 H HF
  go_wp2_with fail
  refine (HSt.out _ HR2.out).mono ?_
  clear HSt HR2
  rintro e w3 ⟨rfl, hR3, hG3, hs3⟩
  have HR3 := hidn hR3
  have HG3 := hidn (HG2.out.trans hG3)
  have HL3 : Hid (∀ k, F k → k < w3.heap.size) := hidn (fun k hk => by rw [hs3]; exact HL2.out k hk)
  clear hR3 hG3 hs3 HG2 HL2
  go_wp2_with fail
  refine (HE2.out _ HR3.out HL3.out).mono ?_
  clear HE2
  rintro e w4 ⟨rfl, hb4⟩
  have HR4 := hidn (HR3.out.below HL3.out hb4)
  have HG4 := hidn (HG3.out.trans (Gr.of (Keeps.of_below (F := F) hb4)))
  have HL4 : Hid (∀ k, F k → k < w4.heap.size) := hidn (fun k hk => Nat.lt_of_lt_of_le (HL3.out k hk) hb4.size)
  clear hb4 HR3 HG3 HL3
  go_wp2_with fail
  refine (HFr.out _ HR4.out HL4.out).mono ?_
  clear HFr
  rintro e w45 ⟨rfl, hb45⟩
  have HR4 := hidn (HR4.out.below HL4.out hb45)
  have HG4 := hidn (HG4.out.trans (Gr.of (Keeps.of_below (F := F) hb45)))
  have HL4 : Hid (∀ k, F k → k < w45.heap.size) := hidn (fun k hk => Nat.lt_of_lt_of_le (HL4.out k hk) hb45.size)
  clear hb45
  go_wp2
  go_ret
  exact ⟨rfl, F, fa, fc, R, HR4.out, rfl, HG4.out⟩
end Go.Proofs.Ytpiohhljcjobfaa

namespace Go.Proofs.Ytpiohhljcjobfaa
open Go.RowKit Go.Maps
set_option linter.unusedVariables false

theorem mkm_run {o : Oper} {a : Act} {w : World} (ho : o.op = Op.makeSlice 31 (.const (.int .i64 128)) (.const (.int .i64 128))) : (execOp a.eval o).run Try.prog w = .ok (.value (.slice (some ⟨w.heap.size, 0, none⟩) 128 128)) (w.alloc (.cells (Array.replicate 128 (.int .u8 0)) 5)) := by
  have h : (Instr.makeSlice 31 (.int .i64 128) (.int .i64 128)).run Try.prog w = .ok (.slice (some ⟨w.heap.size, 0, none⟩) 128 128) (w.alloc (.cells (Array.replicate 128 (.int .u8 0)) 5)) := by kernel_rfl
  simp [execOp, ho, Act.eval, h, Result.andThen]

def zeroY128 : List Nat := List.replicate 128 0

theorem vb_zero : vb zeroY128 = List.replicate 128 (.int .u8 0) := by
  unfold vb zeroY128
  rw [List.map_replicate]
  rfl

theorem im_make (w : World) : Im (w.alloc (.cells (Array.replicate 128 (.int .u8 0)) 5)) (w.heap.size, 128) zeroY128 := by
  refine ⟨by rw [length_vb]; rfl, .inr ⟨w.heap.size, 128, _, rfl, Nat.zero_le _, heap_alloc_new _ _, Nat.le_refl _, by unfold maxLen; omega, by simp, ?_⟩⟩
  rw [vb_zero]
  simp

theorem bs1_run {o : Oper} {a : Act} {w : World} {x : Operand} {m1 m2 : Nat} (ho : o.op = Op.buildSlice 78 1 #[(0, x)]) (hx : a.eval x = .agg #[.slice none 0 0, .slice (some ⟨m1, 0, none⟩) 128 128, .slice (some ⟨m2, 0, none⟩) 128 128, .slice none 0 0, .bool false]) : (execOp a.eval o).run Try.prog w = .ok (.value (.slice (some ⟨w.heap.size, 0, none⟩) 1 1)) (w.alloc (.cells #[.slice none 0 0, .slice (some ⟨m1, 0, none⟩) 128 128, .slice (some ⟨m2, 0, none⟩) 128 128, .slice none 0 0, .bool false] 77)) := by
  have h : (Instr.buildSlice 78 1 #[(0, .agg #[.slice none 0 0, .slice (some ⟨m1, 0, none⟩) 128 128, .slice (some ⟨m2, 0, none⟩) 128 128, .slice none 0 0, .bool false])]).run Try.prog w = .ok (.slice (some ⟨w.heap.size, 0, none⟩) 1 1) (w.alloc (.cells #[.slice none 0 0, .slice (some ⟨m1, 0, none⟩) 128 128, .slice (some ⟨m2, 0, none⟩) 128 128, .slice none 0 0, .bool false] 77)) := by kernel_rfl
  simp [execOp, ho, hx, h, Result.andThen]

theorem Keeps.grown0 {F : Nat → Prop} {w w1 w2 : World} (h : Keeps F w w1) (hg : w1.grownBy w2 none) : Keeps F w w2 :=
  ⟨hg.os.trans h.os, hg.tape.trans h.tape, hg.output.trans h.output, Nat.le_trans h.size hg.size, fun i hi hn => (hg.block i (Nat.lt_of_lt_of_le hi h.size) (by simp)).trans (h.block i hi hn)⟩

theorem Keeps.grown1 {g : Nat} {w w1 w2 : World} (h : Keeps (fun b => b = g) w w1) (hg : w1.grownBy w2 (some g)) : Keeps (fun b => b = g) w w2 :=
  ⟨hg.os.trans h.os, hg.tape.trans h.tape, hg.output.trans h.output, Nat.le_trans h.size hg.size, fun i hi hn => (hg.block i (Nat.lt_of_lt_of_le hi h.size) (fun e => hn (Option.some.inj e))).trans (h.block i hi hn)⟩

theorem Keeps.or {g g' : Nat} {w w1 : World} (h : Keeps (fun b => b = g) w w1) : Keeps (fun b => b = g ∨ b = g') w w1 :=
  ⟨h.os, h.tape, h.output, h.size, fun i hi hn => h.block i hi (fun e => hn (.inl e))⟩

theorem Keeps.cellK {F : Nat → Prop} {w w1 : World} (h : Keeps F w w1) {p : Addr} (hp : p.block < w.heap.size) (hn : ¬ F p.block) : w1.cell? p = w.cell? p := World.cell?_of_block (h.block p.block hp hn)

/-- One extent's cells onto a row. -/
theorem appC (W : World) (fg n c : Nat) (xs : List Value) (hown : W.ownsRow 0 77 5 (.slice (some ⟨fg, 0, none⟩) n c) n xs) (b : Nat) (a0 a1 a2 a3 a4 : Value) (o0 : a0.oneCell' = true) (o1 : a1.oneCell' = true) (o2 : a2.oneCell' = true) (o3 : a3.oneCell' = true) (o4 : a4.oneCell' = true) (hb : W.heap[b]? = some (.cells #[a0, a1, a2, a3, a4] 77 (0, 0))) (h63 : n + 1 ≤ maxLen) (hby : (n + 1) * 104 ≤ 140737488355328) :
    ∃ g2 c2 W', (Builtin.append_ #[78, 78] 78 #[.slice (some ⟨fg, 0, none⟩) n c, .slice (some ⟨b, 0, none⟩) 1 1]).run Try.prog W = .ok (.slice (some ⟨g2, 0, none⟩) (n + 1) c2) W' ∧ W'.ownsRow 0 77 5 (.slice (some ⟨g2, 0, none⟩) (n + 1) c2) (n + 1) (xs ++ [a0, a1, a2, a3, a4]) ∧ W.grownBy W' (some fg) ∧ (fg = g2 ∨ W.heap.size ≤ g2) := by
  have h : (Try.prog.info? 77).map (fun i => (i.zero, i.size, i.bytes)) = some (some (.agg #[.slice none 0 0, .slice none 0 0, .slice none 0 0, .slice none 0 0, .bool false]), 5, 104) := by kernel_rfl
  obtain ⟨i0, hi, h1, h2, h3⟩ := info_parts h
  obtain ⟨g2, c2, W', hr, ho, hg, hp⟩ := appN (P := Try.prog) W 78 78 77 i0 _ 5 104 Try.underlying78 hi h1 h2 h3 rfl (by decide) (.slice (some ⟨fg, 0, none⟩) n c) n xs 0 hown (Nat.zero_le _) ⟨b, 0, none⟩ 1 1 (by omega) [a0, a1, a2, a3, a4] rfl (fun j u hj => by
    rw [add_none, Nat.zero_add, cell_of_row _ _ _ _ _ _ hb]
    simpa using hj) (fun u hu => by
    simp only [List.mem_cons, List.not_mem_nil, or_false] at hu
    rcases hu with rfl | rfl | rfl | rfl | rfl <;> assumption) h63 hby
  exact ⟨g2, c2, W', hr, ho, hg, hp.imp (fun e => by simpa [Value.ownBlock] using e) id⟩

theorem cellsC_app (l : List Yc) (c : Yc) : cellsC (l ++ [c]) = cellsC l ++ c.cells := by
  simp [cellsC]

/-- A file is another one. -/
theorem RyOf.turnF {w w' : World} {y : Nat} {F F' : Nat → Prop} {fa : Option Addr} {fc : Nat} {R : List Yf} {room fuse : Int} (h : RyOf w y F fa fc R room fuse) {k : Nat} {f : Yf} (hk : R[k]? = some f) (f' : Yf) (gf : Nat) (hfa : fa = some ⟨gf, 0, none⟩)
    (hfiles : w'.ownsRow 0 80 2 (.slice fa R.length fc) R.length (cellsR (R.set k f')))
    (hrow : w'.ownsRow 0 77 5 f'.row f'.l.length (cellsC f'.l)) (hb : ∀ b, F b → b ≠ f.g → b ≠ gf → w'.heap[b]? = w.heap[b]?)
    (him : ∀ c ∈ f'.l, c ∈ f.l ∨ (Im w' c.q0 c.x.rd ∧ Im w' c.q1 c.x.dur ∧ Im w' c.q2 c.x.syn ∧ Im w' c.q3 c.x.wri) ∧ c.x.ok ∧ F' c.q0.1 ∧ F' c.q1.1 ∧ F' c.q2.1 ∧ F' c.q3.1) (hnm : f'.name = f.name) (hne0 : f'.l ≠ []) (hFF : ∀ b, F b → F' b) (hFg : F' f'.g) (hnew : f.g = f'.g ∨ ¬ F f'.g) :
    RyOf w' y F' fa fc (R.set k f') room fuse := by
  have hm := List.mem_of_getElem? hk
  have hrf := h.rows f hm
  have hgf := h.files
  have hne : ∀ {base e size n : Nat} {v : Value} {xs : List Value} (ho : w.ownsRow base e size v n xs) (g : Nat), v.ownBlock = some g → (77 : Nat) ≠ e → (80 : Nat) ≠ e → g ≠ f.g ∧ g ≠ gf := fun ho g hg he he2 => ⟨Ne.symm (own_ne2 hrf ho (g := f.g) rfl hg he), Ne.symm (own_ne2 hgf ho (g := gf) (by rw [hfa]; rfl) hg he2)⟩
  have hold : ∀ f2 ∈ R, ∀ c ∈ f2.l, Im w' c.q0 c.x.rd ∧ Im w' c.q1 c.x.dur ∧ Im w' c.q2 c.x.syn ∧ Im w' c.q3 c.x.wri := fun f2 h2 c hc => by
    obtain ⟨a0, a1, a2, a3⟩ := h.ims f2 h2 c hc
    obtain ⟨b0, b1, b2, b3⟩ := h.fi f2 h2 c hc
    have nn : ∀ {q : Nat × Nat} {z : List Nat}, Im w q z → q.1 ≠ f.g ∧ q.1 ≠ gf := fun hq => hne hq _ rfl tyDF.2.2.2.2.2 tyDF.2.2.2.2.1
    exact ⟨own_other a0 (fun g hg => by cases hg; exact hb _ b0 (nn a0).1 (nn a0).2), own_other a1 (fun g hg => by cases hg; exact hb _ b1 (nn a1).1 (nn a1).2), own_other a2 (fun g hg => by cases hg; exact hb _ b2 (nn a2).1 (nn a2).2), own_other a3 (fun g hg => by cases hg; exact hb _ b3 (nn a3).1 (nn a3).2)⟩
  have hap : ∀ j a, j ≠ k → R[j]? = some a → a.g ≠ f'.g := fun j a hj ha e => by
    rcases hnew with h1 | h1
    · exact nodup_ne h.apart ha hk hj (e.trans h1.symm)
    · exact h1 (e ▸ h.fr a (List.mem_of_getElem? ha))
  refine ⟨?_, ?_, ?_, ?_, ?_, ?_, hFF _ h.fy, fun x hx => hFF _ (h.ff x hx), ?_, ?_⟩
  · rw [List.length_set]
    have hy : y ≠ f.g := Ne.symm (own_ne hrf (g := f.g) rfl h.disk (Ne.symm tyDF.2.1))
    have hy2 : y ≠ gf := Ne.symm (own_ne hgf (g := gf) (by rw [hfa]; rfl) h.disk (Ne.symm tyDF.1))
    exact (hb y h.fy hy hy2).trans h.disk
  · rw [List.length_set]
    exact hfiles
  · intro f2 h2
    rcases mem_setY h2 with ⟨j, hj, h3⟩ | rfl
    · have h3m := List.mem_of_getElem? h3
      exact own_other (h.rows f2 h3m) (fun g hg => by
        obtain rfl : f2.g = g := by simpa [Yf.row, Value.ownBlock] using hg
        exact hb _ (h.fr f2 h3m) (nodup_ne h.apart h3 hk hj) (Ne.symm (own_ne2 hgf (h.rows f2 h3m) (g := gf) (by rw [hfa]; rfl) rfl tyDF.2.2.2.1)))
    · exact hrow
  · intro f2 h2 c hc
    rcases mem_setY h2 with ⟨j, hj, h3⟩ | rfl
    · exact hold f2 (List.mem_of_getElem? h3) c hc
    · rcases him c hc with hc | hc
      · exact hold f hm c hc
      · exact hc.1
  · intro f2 h2
    rcases mem_setY h2 with ⟨j, hj, h3⟩ | rfl
    · exact h.ok f2 (List.mem_of_getElem? h3)
    · refine ⟨by rw [hnm]; exact (h.ok f hm).1, hne0, fun x hx => ?_⟩
      rcases him x hx with hx | hx
      · exact (h.ok f hm).2.2 x hx
      · exact hx.2.1
  · rw [List.Nodup, List.pairwise_iff_getElem]
    intro i j hi hj hij e
    rw [List.length_map, List.length_set] at hi hj
    simp only [List.getElem_map, List.getElem_set] at e
    by_cases h1 : k = i
    · rw [if_pos h1, if_neg (by omega)] at e
      exact hap j _ (by omega) (List.getElem?_eq_getElem hj) e.symm
    · rw [if_neg h1] at e
      by_cases h2 : k = j
      · rw [if_pos h2] at e
        exact hap i _ (by omega) (List.getElem?_eq_getElem hi) e
      · rw [if_neg h2] at e
        exact nodup_ne h.apart (List.getElem?_eq_getElem hi) (List.getElem?_eq_getElem hj) (by omega) e
  · intro f2 h2
    rcases mem_setY h2 with ⟨j, hj, h3⟩ | rfl
    · exact hFF _ (h.fr f2 (List.mem_of_getElem? h3))
    · exact hFg
  · intro f2 h2 c hc
    rcases mem_setY h2 with ⟨j, hj, h3⟩ | rfl
    · obtain ⟨b0, b1, b2, b3⟩ := h.fi f2 (List.mem_of_getElem? h3) c hc
      exact ⟨hFF _ b0, hFF _ b1, hFF _ b2, hFF _ b3⟩
    · rcases him c hc with hc | hc
      · obtain ⟨b0, b1, b2, b3⟩ := h.fi f hm c hc
        exact ⟨hFF _ b0, hFF _ b1, hFF _ b2, hFF _ b3⟩
      · exact hc.2.2
end Go.Proofs.Ytpiohhljcjobfaa

namespace Go.Proofs.Ytpiohhljcjobfaa
open Go.RowKit Go.Maps
set_option linter.unusedVariables false

theorem cellsR_set2 : ∀ (l : List Yf) (i : Nat) (c c' : Yf) (j : Nat) (v : Value), l[i]? = some c → j < 2 → c'.cells = c.cells.set j v → (cellsR l).set (i * 2 + j) v = cellsR (l.set i c')
  | a :: r, 0, c, c', j, v, h, hj, hc => by
    obtain rfl : a = c := by simpa using h
    show (a.cells ++ cellsR r).set (0 * 2 + j) v = c'.cells ++ cellsR r
    rw [List.set_append_left _ _ (by show 0 * 2 + j < 2; omega), hc, Nat.zero_mul, Nat.zero_add]
  | a :: r, i + 1, c, c', j, v, h, hj, hc => by
    show (a.cells ++ cellsR r).set ((i + 1) * 2 + j) v = a.cells ++ cellsR (r.set i c')
    rw [List.set_append_right _ _ (by show 2 ≤ _; omega), show (i + 1) * 2 + j - a.cells.length = i * 2 + j from by show (i + 1) * 2 + j - 2 = _; omega, cellsR_set2 r i c c' j v (by simpa using h) hj hc]

theorem src_of {w W : World} {ba boff : Nat} {zs : List Nat} (hBz : Bs w (some ⟨ba, boff, none⟩) 128 zs) (hW : W.heap[ba]? = w.heap[ba]?) : ∀ j u, (vb zs)[j]? = some u → W.cell? ((⟨ba, boff, none⟩ : Addr).add j) = some u := fun j u hj => by
  have hjl : j < 128 := by have := (List.getElem?_eq_some_iff.1 hj).1; rw [length_vb, hBz.1] at this; exact this
  have hcz := hBz.2.2.2.2 _ rfl j hjl
  have e : u = .int .u8 ((zs.getD j 0 : Nat) : Int) := by
    unfold vb at hj
    rw [List.getElem?_map] at hj
    obtain ⟨x, hx, rfl⟩ := Option.map_eq_some_iff.1 hj
    rw [List.getD_eq_getElem?_getD, hx]
    rfl
  rw [e, add_none]
  rw [add_none] at hcz
  exact (World.cell?_of_block (w := w) hW).trans hcz

theorem last5 (l : List Yc) (v0 v1 v2 v3 v4 u0 u3 u4 : Value) : ((((cellsC l ++ [v0, v1, v2, v3, v4]).set (l.length * 5) u0).set (l.length * 5 + 3) u3).set (l.length * 5 + 4) u4) = cellsC l ++ [u0, v1, v2, u3, u4] := by
  have hl := cellsC_length l
  rw [List.set_append_right _ _ (by omega), List.set_append_right _ _ (by omega), List.set_append_right _ _ (by omega), hl]
  simp

set_option maxHeartbeats 1000000 in
theorem new_end (w5 : World) (y : Nat) (F : Nat → Prop) (g fc : Nat) (R : List Yf) (room fuse : Int) (h5 : RyOf w5 y F (some ⟨g, 0, none⟩) fc R room fuse) (hL : ∀ b, F b → b < w5.heap.size) (k : Nat) (f : Yf) (hk : R[k]? = some f) (zs : List Nat) (ba boff cap : Nat) (hBF : BsF F w5 (some ⟨ba, boff, none⟩) 128 zs)
    (A B g2 c2 : Nat) (W : World) (ho : W.ownsRow 0 77 5 (.slice (some ⟨g2, 0, none⟩) (f.l.length + 1) c2) (f.l.length + 1) (cellsC f.l ++ [.slice none 0 0, .slice (some ⟨A, 0, none⟩) 128 128, .slice (some ⟨B, 0, none⟩) 128 128, .slice none 0 0, .bool false])) (hMA : Im W (A, 128) zeroY128) (hMB : Im W (B, 128) zeroY128) (nA : w5.heap.size ≤ A) (nB : w5.heap.size ≤ B) (hg2 : f.g = g2 ∨ w5.heap.size ≤ g2) (hK : Keeps (fun b => b = f.g) w5 W) :
    ∃ (q1 : Nat × Nat) (W2 : World) (q2 : Nat × Nat) (W4 : World),
      (Builtin.append_ #[31, 31] 31 #[.slice (some ⟨(W.setCell ⟨g, k * 2 + 1, none⟩ (.slice (some ⟨g2, 0, none⟩) (f.l.length + 1) c2)).heap.size, 0, none⟩) 0 0, .slice (some ⟨ba, boff, none⟩) 128 cap]).run Try.prog ((W.setCell ⟨g, k * 2 + 1, none⟩ (.slice (some ⟨g2, 0, none⟩) (f.l.length + 1) c2)).alloc (.cells #[] 5)) = .ok (im q1) W2 ∧
      (Builtin.append_ #[31, 31] 31 #[.slice (some ⟨W2.heap.size, 0, none⟩) 0 0, .slice (some ⟨ba, boff, none⟩) 128 cap]).run Try.prog (W2.alloc (.cells #[] 5)) = .ok (im q2) W4 ∧
      (W.setCell ⟨g, k * 2 + 1, none⟩ (.slice (some ⟨g2, 0, none⟩) (f.l.length + 1) c2)).cell? ⟨y, 1, none⟩ = some (.slice (some ⟨g, 0, none⟩) R.length fc) ∧ (W.setCell ⟨g, k * 2 + 1, none⟩ (.slice (some ⟨g2, 0, none⟩) (f.l.length + 1) c2)).cell? ⟨g, k * 2 + 1, none⟩ = some (.slice (some ⟨g2, 0, none⟩) (f.l.length + 1) c2) ∧
      W4.cell? ⟨g2, f.l.length * 5, none⟩ = some (.slice none 0 0) ∧ W4.cell? ⟨g2, f.l.length * 5 + 3, none⟩ = some (.slice none 0 0) ∧ W4.cell? ⟨g2, f.l.length * 5 + 4, none⟩ = some (.bool false) ∧ (∃ cur, W4.heap[g2]? = some (.cells cur 77 (0, 0))) ∧
      ∃ F' c', RyOf (((W4.setCell ⟨g2, f.l.length * 5, none⟩ (im q1)).setCell ⟨g2, f.l.length * 5 + 3, none⟩ (im q2)).setCell ⟨g2, f.l.length * 5 + 4, none⟩ (.bool true)) y F' (some ⟨g, 0, none⟩) fc (R.set k ⟨f.name, g2, c2, f.l ++ [c']⟩) room fuse ∧ c'.x = zeroE.wrote zs ∧ Gr F F' w5 (((W4.setCell ⟨g2, f.l.length * 5, none⟩ (im q1)).setCell ⟨g2, f.l.length * 5 + 3, none⟩ (im q2)).setCell ⟨g2, f.l.length * 5 + 4, none⟩ (.bool true)) := by
  have hm := List.mem_of_getElem? hk
  have hBz := hBF.1
  have hnF : ¬ F ba := hBF.2 _ rfl (by omega)
  have hFg := h5.ff _ rfl
  have hFf := h5.fr f hm
  have hba : ba < w5.heap.size := by
    have := block_lt_of_cell (hBz.2.2.2.2 _ rfl 0 (by omega))
    rw [add_none] at this
    exact this
  have hgf : g ≠ f.g := own_ne2 h5.files (h5.rows f hm) (g := g) rfl rfl tyDF.2.2.2.1
  have hyg : y ≠ g := Ne.symm (own_ne h5.files (g := g) rfl h5.disk (Ne.symm tyDF.1))
  have hyf : y ≠ f.g := Ne.symm (own_ne (h5.rows f hm) (g := f.g) rfl h5.disk (Ne.symm tyDF.2.1))
  have hgg : g2 ≠ g := by
    rcases hg2 with rfl | h
    · exact Ne.symm hgf
    · have := hL g hFg; omega
  have hyg2 : g2 ≠ y := by
    rcases hg2 with rfl | h
    · exact Ne.symm hyf
    · have := hL y h5.fy; omega
  have hoth7 : ∀ b, b ≠ g → (W.setCell ⟨g, k * 2 + 1, none⟩ (.slice (some ⟨g2, 0, none⟩) (f.l.length + 1) c2)).heap[b]? = W.heap[b]? := fun b hb => Below.heap_setCell W ⟨g, k * 2 + 1, none⟩ _ b hb
  have hs7 : (W.setCell ⟨g, k * 2 + 1, none⟩ (.slice (some ⟨g2, 0, none⟩) (f.l.length + 1) c2)).heap.size = W.heap.size := by simp [World.setCell]
  have hfW : W.ownsRow 0 80 2 (.slice (some ⟨g, 0, none⟩) R.length fc) R.length (cellsR R) := own_other h5.files (fun b hb => by cases hb; exact hK.block g (hL g hFg) hgf)
  have hf7 := own_putY hfW (k * 2 + 1) (.slice (some ⟨g2, 0, none⟩) (f.l.length + 1) c2)
  have hrow7 : (W.setCell ⟨g, k * 2 + 1, none⟩ (.slice (some ⟨g2, 0, none⟩) (f.l.length + 1) c2)).ownsRow 0 77 5 (.slice (some ⟨g2, 0, none⟩) (f.l.length + 1) c2) (f.l.length + 1) (cellsC f.l ++ [.slice none 0 0, .slice (some ⟨A, 0, none⟩) 128 128, .slice (some ⟨B, 0, none⟩) 128 128, .slice none 0 0, .bool false]) := own_other ho (fun b hb => by cases hb; exact hoth7 g2 hgg)
  have hAg : A ≠ g := by have := hL g hFg; omega
  have hBg : B ≠ g := by have := hL g hFg; omega
  have hMA7 : Im (W.setCell ⟨g, k * 2 + 1, none⟩ (.slice (some ⟨g2, 0, none⟩) (f.l.length + 1) c2)) (A, 128) zeroY128 := own_other hMA (fun b hb => by cases hb; exact hoth7 A hAg)
  have hMB7 : Im (W.setCell ⟨g, k * 2 + 1, none⟩ (.slice (some ⟨g2, 0, none⟩) (f.l.length + 1) c2)) (B, 128) zeroY128 := own_other hMB (fun b hb => by cases hb; exact hoth7 B hBg)
  have hblk : ∀ b, b < w5.heap.size → b ≠ f.g → b ≠ g → (W.setCell ⟨g, k * 2 + 1, none⟩ (.slice (some ⟨g2, 0, none⟩) (f.l.length + 1) c2)).heap[b]? = w5.heap[b]? := fun b h1 h2 h3 => (hoth7 b h3).trans (hK.block b h1 h2)
  have hsW : w5.heap.size ≤ W.heap.size := hK.size
  have hc1 : (W.setCell ⟨g, k * 2 + 1, none⟩ (.slice (some ⟨g2, 0, none⟩) (f.l.length + 1) c2)).cell? ⟨y, 1, none⟩ = some (.slice (some ⟨g, 0, none⟩) R.length fc) := by
    rw [World.cell?_of_block (w := w5) (a := ⟨y, 1, none⟩) (hblk y (hL y h5.fy) hyf hyg), cell_of_row _ _ _ _ _ _ h5.disk]
    rfl
  have hkl := (List.getElem?_eq_some_iff.1 hk).1
  have hc2 : (W.setCell ⟨g, k * 2 + 1, none⟩ (.slice (some ⟨g2, 0, none⟩) (f.l.length + 1) c2)).cell? ⟨g, k * 2 + 1, none⟩ = some (.slice (some ⟨g2, 0, none⟩) (f.l.length + 1) c2) := by
    have h1 := hf7.cells (g := g) rfl (k * 2 + 1) (.slice (some ⟨g2, 0, none⟩) (f.l.length + 1) c2) (by rw [List.getElem?_set_self (by rw [cellsR_length]; omega)])
    rw [add_none, Nat.zero_add] at h1
    exact h1
  obtain ⟨Wz, hWz⟩ : ∃ Wz, Wz = (W.setCell ⟨g, k * 2 + 1, none⟩ (.slice (some ⟨g2, 0, none⟩) (f.l.length + 1) c2)) := ⟨_, rfl⟩
  rw [← hWz] at hf7 hrow7 hMA7 hMB7 hblk hc1 hc2 hs7 ⊢
  have hW1 : Below Wz.heap.size Wz (Wz.alloc (.cells #[] 5)) := (Below.refl _ _).alloc (Nat.le_refl _) _
  have hbaN : ba ≠ f.g ∧ ba ≠ g := ⟨fun e => hnF (e ▸ hFf), fun e => hnF (e ▸ hFg)⟩
  have hsrc : ∀ W', Below Wz.heap.size Wz W' → ∀ j u, (vb zs)[j]? = some u → W'.cell? ((⟨ba, boff, none⟩ : Addr).add j) = some u := fun W' hb => src_of hBz ((hb.block ba (by omega)).trans (hblk ba hba hbaN.1 hbaN.2))
  obtain ⟨q1, W2, hr1', hi1, hq1, hqs1, hg1⟩ := cpy (Wz.alloc (.cells #[] 5)) Wz.heap.size (heap_alloc_new _ _) ⟨ba, boff, none⟩ cap zs hBz.1 (hsrc _ hW1)
  have hW2 : Below Wz.heap.size Wz W2 := hW1.grown hg1 hW1.size (fun k hk => by cases hk; exact Nat.le_refl _)
  have hW3 : Below Wz.heap.size Wz (W2.alloc (.cells #[] 5)) := hW2.alloc hW2.size _
  obtain ⟨q2, W4, hr2', hi2, hq2, hqs2, hg2'⟩ := cpy (W2.alloc (.cells #[] 5)) W2.heap.size (heap_alloc_new _ _) ⟨ba, boff, none⟩ cap zs hBz.1 (hsrc _ hW3)
  have hW4 : Below Wz.heap.size Wz W4 := hW3.grown hg2' hW3.size (fun k hk => by cases hk; exact hW2.size)
  have hi1' : Im W4 q1 zs := im_grown (im_grown hi1 (grown_alloc W2 _) (fun e => by cases e)) hg2' (fun e => by have := Option.some.inj e; omega)
  have hg2lt : g2 < Wz.heap.size := own_lt hrow7 g2 rfl
  have hrow4 : W4.ownsRow 0 77 5 (.slice (some ⟨g2, 0, none⟩) (f.l.length + 1) c2) (f.l.length + 1) (cellsC f.l ++ [.slice none 0 0, .slice (some ⟨A, 0, none⟩) 128 128, .slice (some ⟨B, 0, none⟩) 128 128, .slice none 0 0, .bool false]) := own_other hrow7 (fun b hb => by cases hb; exact hW4.block g2 hg2lt)
  have hgl : g < Wz.heap.size := own_lt hf7 g rfl
  obtain ⟨cur, hcur⟩ := own_ty hrow4 (g := g2) rfl
  have hcl := cellsC_length f.l
  have key : ∀ j v, j < 5 → ([.slice none 0 0, .slice (some ⟨A, 0, none⟩) 128 128, .slice (some ⟨B, 0, none⟩) 128 128, .slice none 0 0, .bool false] : List Value)[j]? = some v → W4.cell? ⟨g2, f.l.length * 5 + j, none⟩ = some v := fun j v hj hv => by
    have h1 := hrow4.cells (g := g2) rfl (f.l.length * 5 + j) v (by rw [List.getElem?_append_right (by omega), hcl, Nat.add_sub_cancel_left]; exact hv)
    rw [add_none, Nat.zero_add] at h1
    exact h1
  obtain ⟨c', hc'⟩ : ∃ c' : Yc, c' = ⟨zeroE.wrote zs, q1, (A, 128), (B, 128), q2⟩ := ⟨_, rfl⟩
  have hp3 := own_putY (own_putY (own_putY hrow4 (f.l.length * 5) (im q1)) (f.l.length * 5 + 3) (im q2)) (f.l.length * 5 + 4) (.bool true)
  rw [last5] at hp3
  have hp4 : (((W4.setCell ⟨g2, f.l.length * 5, none⟩ (im q1)).setCell ⟨g2, f.l.length * 5 + 3, none⟩ (im q2)).setCell ⟨g2, f.l.length * 5 + 4, none⟩ (.bool true)).ownsRow 0 77 5 (.slice (some ⟨g2, 0, none⟩) (f.l.length + 1) c2) (f.l.length + 1) (cellsC (f.l ++ [c'])) := by
    rw [cellsC_app, hc']
    exact hp3
  have hothF : ∀ b, b ≠ g2 → (((W4.setCell ⟨g2, f.l.length * 5, none⟩ (im q1)).setCell ⟨g2, f.l.length * 5 + 3, none⟩ (im q2)).setCell ⟨g2, f.l.length * 5 + 4, none⟩ (.bool true)).heap[b]? = W4.heap[b]? := fun b hb => by
    rw [Below.heap_setCell _ ⟨g2, f.l.length * 5 + 4, none⟩ _ b hb, Below.heap_setCell _ ⟨g2, f.l.length * 5 + 3, none⟩ _ b hb, Below.heap_setCell _ ⟨g2, f.l.length * 5, none⟩ _ b hb]
  have hkI : ∀ (q : Nat × Nat) (z : List Nat), Im W4 q z → Im (((W4.setCell ⟨g2, f.l.length * 5, none⟩ (im q1)).setCell ⟨g2, f.l.length * 5 + 3, none⟩ (im q2)).setCell ⟨g2, f.l.length * 5 + 4, none⟩ (.bool true)) q z := fun q z hq => own_other hq (fun b hb => hothF b (Ne.symm (own_ne2 hrow4 hq (g := g2) rfl hb tyDF.2.2.2.2.2)))
  have hMA4 : Im W4 (A, 128) zeroY128 := own_other hMA7 (fun b hb => by cases hb; exact hW4.block A (own_lt hMA7 A rfl))
  have hMB4 : Im W4 (B, 128) zeroY128 := own_other hMB7 (fun b hb => by cases hb; exact hW4.block B (own_lt hMB7 B rfl))
  have hz128 : zeroY128 = List.replicate 128 0 := rfl
  have hsF : (((W4.setCell ⟨g2, f.l.length * 5, none⟩ (im q1)).setCell ⟨g2, f.l.length * 5 + 3, none⟩ (im q2)).setCell ⟨g2, f.l.length * 5 + 4, none⟩ (.bool true)).heap.size = W4.heap.size := by simp [World.setCell]
  have hs4 := hW4.size
  have hfF : (((W4.setCell ⟨g2, f.l.length * 5, none⟩ (im q1)).setCell ⟨g2, f.l.length * 5 + 3, none⟩ (im q2)).setCell ⟨g2, f.l.length * 5 + 4, none⟩ (.bool true)).ownsRow 0 80 2 (.slice (some ⟨g, 0, none⟩) R.length fc) R.length (cellsR (R.set k ⟨f.name, g2, c2, f.l ++ [c']⟩)) := by
    rw [← cellsR_set2 R k f ⟨f.name, g2, c2, f.l ++ [c']⟩ 1 (.slice (some ⟨g2, 0, none⟩) (f.l.length + 1) c2) hk (by omega) (by simp [Yf.cells, Yf.row])]
    exact own_other hf7 (fun b hb => by cases hb; exact (hothF g (Ne.symm hgg)).trans (hW4.block g hgl))
  have hFin := h5.turnF (w' := (((W4.setCell ⟨g2, f.l.length * 5, none⟩ (im q1)).setCell ⟨g2, f.l.length * 5 + 3, none⟩ (im q2)).setCell ⟨g2, f.l.length * 5 + 4, none⟩ (.bool true))) (F' := fun b => F b ∨ b = g2 ∨ b = A ∨ b = B ∨ b = q1.1 ∨ b = q2.1) hk ⟨f.name, g2, c2, f.l ++ [c']⟩ g rfl hfF (by show (((W4.setCell ⟨g2, f.l.length * 5, none⟩ (im q1)).setCell ⟨g2, f.l.length * 5 + 3, none⟩ (im q2)).setCell ⟨g2, f.l.length * 5 + 4, none⟩ (.bool true)).ownsRow 0 _ 5 (.slice (some ⟨g2, 0, none⟩) (f.l ++ [c']).length c2) (f.l ++ [c']).length (cellsC (f.l ++ [c'])); rw [List.length_append, List.length_singleton]; exact hp4)
    (fun b hb h1 h2 => by
      have hb2 : b ≠ g2 := by
        rcases hg2 with rfl | h
        · exact h1
        · have := hL b hb; omega
      exact ((hothF b hb2).trans (hW4.block b (by have := hL b hb; omega))).trans (hblk b (hL b hb) h1 h2))
    (fun c hc => by
      rcases List.mem_append.1 hc with hc | hc
      · exact .inl hc
      · obtain rfl := List.mem_singleton.1 hc
        rw [hc']
        refine .inr ⟨⟨hkI _ _ hi1', hkI _ _ hMA4, hkI _ _ hMB4, hkI _ _ hi2⟩, ?_, .inr (.inr (.inr (.inr (.inl rfl)))), .inr (.inr (.inl rfl)), .inr (.inr (.inr (.inl rfl))), .inr (.inr (.inr (.inr (.inr rfl))))⟩
        refine ⟨⟨by simp [zeroE, Ext.wrote], fun y hy => ?_⟩, ⟨by simp [zeroE, Ext.wrote], fun y hy => ?_⟩, hBz.1, hBz.2.2.1⟩
        · simp [zeroE, Ext.wrote] at hy; omega
        · simp [zeroE, Ext.wrote] at hy; omega)
    rfl (by simp) (fun b hb => .inl hb) (.inr (.inl rfl)) (by
      rcases hg2 with h | h
      · exact .inl h
      · exact .inr (fun hf => by have := hL _ hf; simp only at this; omega))
  refine ⟨q1, W2, q2, W4, hr1', hr2', hc1, hc2, key 0 _ (by omega) rfl, key 3 _ (by omega) rfl, key 4 _ (by omega) rfl, ⟨cur, hcur⟩, _, c', hFin, by rw [hc'], ?_⟩
  have hk7 : Keeps F w5 Wz := ⟨by rw [hWz]; exact hK.os, by rw [hWz]; exact hK.tape, by rw [hWz]; exact hK.output, by omega, fun b hb hn => hblk b hb (fun e => hn (e ▸ hFf)) (fun e => hn (e ▸ hFg))⟩
  have hsA := own_lt hMA7 A rfl
  have hsB := own_lt hMB7 B rfl
  have hsq := hg2'.size
  rw [World.size_alloc] at hsq hq1 hq2
  have hs2 := hW2.size
  refine ⟨⟨by rw [← hk7.os, ← hW4.os]; rfl, by rw [← hk7.tape, ← hW4.tape]; rfl, by rw [← hk7.output, ← hW4.output]; rfl, by omega, fun b hb hn => ?_⟩, fun b hb => ?_⟩
  · have hb2 : b ≠ g2 := by
      rcases hg2 with rfl | h
      · exact fun e => hn (e ▸ hFf)
      · omega
    exact (hothF b hb2).trans ((hW4.block b (by omega)).trans (hk7.block b hb hn))
  · rw [hsF]
    rcases hb with hb | rfl | rfl | rfl | rfl | rfl
    · exact .inl hb
    · rcases hg2 with rfl | h
      · exact .inl hFf
      · exact .inr ⟨h, by omega⟩
    · exact .inr ⟨nA, by omega⟩
    · exact .inr ⟨nB, by omega⟩
    · exact .inr ⟨by omega, by omega⟩
    · exact .inr ⟨by omega, hqs2⟩
end Go.Proofs.Ytpiohhljcjobfaa
