/- The document's disk: the end of a Write of a new extent. -/
import Derived.Test.YtocfbokgbpaneaaMl
namespace Go.Proofs.Ytocfbokgbpaneaa
open Go.RowKit Go.Maps
set_option linter.unusedVariables false

theorem cellsR_set2 : ∀ (l : List Yf) (i : Nat) (c c' : Yf) (j : Nat) (v : Value), l[i]? = some c → j < 2 → c'.cells = c.cells.set j v → (cellsR l).set (i * 2 + j) v = cellsR (l.set i c')
  | a :: r, 0, c, c', j, v, h, hj, hc => by
    obtain rfl : a = c := by simpa using h
    show (a.cells ++ cellsR r).set (0 * 2 + j) v = c'.cells ++ cellsR r
    rw [List.set_append_left _ _ (by show 0 * 2 + j < 2; omega), hc, Nat.zero_mul, Nat.zero_add]
  | a :: r, i + 1, c, c', j, v, h, hj, hc => by
    show (a.cells ++ cellsR r).set ((i + 1) * 2 + j) v = a.cells ++ cellsR (r.set i c')
    rw [List.set_append_right _ _ (by show 2 ≤ _; omega), show (i + 1) * 2 + j - a.cells.length = i * 2 + j from by show (i + 1) * 2 + j - 2 = _; omega, cellsR_set2 r i c c' j v (by simpa using h) hj hc]

theorem src_of {w W : World} {ba boff : Nat} {zs : List Nat} (hBz : Bs w (some ⟨ba, boff, none⟩) 128 zs) (hW : W.heap[ba]? = w.heap[ba]?) : ∀ j u, (vb zs)[j]? = some u → W.cell? ((⟨ba, boff, none⟩ : Addr).add j) = some u := fun j u hj => by
  have hjl : j < 128 := by have := (List.getElem?_eq_some_iff.1 hj).1; rw [length_vb, hBz.1] at this; exact this
  have hcz := hBz.2.2.2.2 _ rfl j hjl
  have e : u = .int .u8 ((zs.getD j 0 : Nat) : Int) := by
    unfold vb at hj
    rw [List.getElem?_map] at hj
    obtain ⟨x, hx, rfl⟩ := Option.map_eq_some_iff.1 hj
    rw [List.getD_eq_getElem?_getD, hx]
    rfl
  rw [e, add_none]
  rw [add_none] at hcz
  exact (World.cell?_of_block (w := w) hW).trans hcz

theorem last5 (l : List Yc) (v0 v1 v2 v3 v4 u0 u3 u4 : Value) : ((((cellsC l ++ [v0, v1, v2, v3, v4]).set (l.length * 5) u0).set (l.length * 5 + 3) u3).set (l.length * 5 + 4) u4) = cellsC l ++ [u0, v1, v2, u3, u4] := by
  have hl := cellsC_length l
  rw [List.set_append_right _ _ (by omega), List.set_append_right _ _ (by omega), List.set_append_right _ _ (by omega), hl]
  simp

set_option maxHeartbeats 1000000 in
theorem new_end (w5 : World) (y : Nat) (F : Nat → Prop) (g fc : Nat) (R : List Yf) (room fuse : Int) (h5 : RyOf w5 y F (some ⟨g, 0, none⟩) fc R room fuse) (hL : ∀ b, F b → b < w5.heap.size) (k : Nat) (f : Yf) (hk : R[k]? = some f) (zs : List Nat) (ba boff cap : Nat) (hBF : BsF F w5 (some ⟨ba, boff, none⟩) 128 zs)
    (A B g2 c2 : Nat) (W : World) (ho : W.ownsRow 0 57 5 (.slice (some ⟨g2, 0, none⟩) (f.l.length + 1) c2) (f.l.length + 1) (cellsC f.l ++ [.slice none 0 0, .slice (some ⟨A, 0, none⟩) 128 128, .slice (some ⟨B, 0, none⟩) 128 128, .slice none 0 0, .bool false])) (hMA : Im W (A, 128) zeroY128) (hMB : Im W (B, 128) zeroY128) (nA : w5.heap.size ≤ A) (nB : w5.heap.size ≤ B) (hg2 : f.g = g2 ∨ w5.heap.size ≤ g2) (hK : Keeps (fun b => b = f.g) w5 W) :
    ∃ (q1 : Nat × Nat) (W2 : World) (q2 : Nat × Nat) (W4 : World),
      (Builtin.append_ #[29, 29] 29 #[.slice (some ⟨(W.setCell ⟨g, k * 2 + 1, none⟩ (.slice (some ⟨g2, 0, none⟩) (f.l.length + 1) c2)).heap.size, 0, none⟩) 0 0, .slice (some ⟨ba, boff, none⟩) 128 cap]).run Try.prog ((W.setCell ⟨g, k * 2 + 1, none⟩ (.slice (some ⟨g2, 0, none⟩) (f.l.length + 1) c2)).alloc (.cells #[] 5)) = .ok (im q1) W2 ∧
      (Builtin.append_ #[29, 29] 29 #[.slice (some ⟨W2.heap.size, 0, none⟩) 0 0, .slice (some ⟨ba, boff, none⟩) 128 cap]).run Try.prog (W2.alloc (.cells #[] 5)) = .ok (im q2) W4 ∧
      (W.setCell ⟨g, k * 2 + 1, none⟩ (.slice (some ⟨g2, 0, none⟩) (f.l.length + 1) c2)).cell? ⟨y, 1, none⟩ = some (.slice (some ⟨g, 0, none⟩) R.length fc) ∧ (W.setCell ⟨g, k * 2 + 1, none⟩ (.slice (some ⟨g2, 0, none⟩) (f.l.length + 1) c2)).cell? ⟨g, k * 2 + 1, none⟩ = some (.slice (some ⟨g2, 0, none⟩) (f.l.length + 1) c2) ∧
      W4.cell? ⟨g2, f.l.length * 5, none⟩ = some (.slice none 0 0) ∧ W4.cell? ⟨g2, f.l.length * 5 + 3, none⟩ = some (.slice none 0 0) ∧ W4.cell? ⟨g2, f.l.length * 5 + 4, none⟩ = some (.bool false) ∧ (∃ cur, W4.heap[g2]? = some (.cells cur 57 (0, 0))) ∧
      ∃ F' c', RyOf (((W4.setCell ⟨g2, f.l.length * 5, none⟩ (im q1)).setCell ⟨g2, f.l.length * 5 + 3, none⟩ (im q2)).setCell ⟨g2, f.l.length * 5 + 4, none⟩ (.bool true)) y F' (some ⟨g, 0, none⟩) fc (R.set k ⟨f.name, g2, c2, f.l ++ [c']⟩) room fuse ∧ c'.x = zeroE.wrote zs ∧ Gr F F' w5 (((W4.setCell ⟨g2, f.l.length * 5, none⟩ (im q1)).setCell ⟨g2, f.l.length * 5 + 3, none⟩ (im q2)).setCell ⟨g2, f.l.length * 5 + 4, none⟩ (.bool true)) := by
  have hm := List.mem_of_getElem? hk
  have hBz := hBF.1
  have hnF : ¬ F ba := hBF.2 _ rfl (by omega)
  have hFg := h5.ff _ rfl
  have hFf := h5.fr f hm
  have hba : ba < w5.heap.size := by
    have := block_lt_of_cell (hBz.2.2.2.2 _ rfl 0 (by omega))
    rw [add_none] at this
    exact this
  have hgf : g ≠ f.g := own_ne2 h5.files (h5.rows f hm) (g := g) rfl rfl tyDF.2.2.2.1
  have hyg : y ≠ g := Ne.symm (own_ne h5.files (g := g) rfl h5.disk (Ne.symm tyDF.1))
  have hyf : y ≠ f.g := Ne.symm (own_ne (h5.rows f hm) (g := f.g) rfl h5.disk (Ne.symm tyDF.2.1))
  have hgg : g2 ≠ g := by
    rcases hg2 with rfl | h
    · exact Ne.symm hgf
    · have := hL g hFg; omega
  have hyg2 : g2 ≠ y := by
    rcases hg2 with rfl | h
    · exact Ne.symm hyf
    · have := hL y h5.fy; omega
  have hoth7 : ∀ b, b ≠ g → (W.setCell ⟨g, k * 2 + 1, none⟩ (.slice (some ⟨g2, 0, none⟩) (f.l.length + 1) c2)).heap[b]? = W.heap[b]? := fun b hb => Below.heap_setCell W ⟨g, k * 2 + 1, none⟩ _ b hb
  have hs7 : (W.setCell ⟨g, k * 2 + 1, none⟩ (.slice (some ⟨g2, 0, none⟩) (f.l.length + 1) c2)).heap.size = W.heap.size := by simp [World.setCell]
  have hfW : W.ownsRow 0 55 2 (.slice (some ⟨g, 0, none⟩) R.length fc) R.length (cellsR R) := own_other h5.files (fun b hb => by cases hb; exact hK.block g (hL g hFg) hgf)
  have hf7 := own_putY hfW (k * 2 + 1) (.slice (some ⟨g2, 0, none⟩) (f.l.length + 1) c2)
  have hrow7 : (W.setCell ⟨g, k * 2 + 1, none⟩ (.slice (some ⟨g2, 0, none⟩) (f.l.length + 1) c2)).ownsRow 0 57 5 (.slice (some ⟨g2, 0, none⟩) (f.l.length + 1) c2) (f.l.length + 1) (cellsC f.l ++ [.slice none 0 0, .slice (some ⟨A, 0, none⟩) 128 128, .slice (some ⟨B, 0, none⟩) 128 128, .slice none 0 0, .bool false]) := own_other ho (fun b hb => by cases hb; exact hoth7 g2 hgg)
  have hAg : A ≠ g := by have := hL g hFg; omega
  have hBg : B ≠ g := by have := hL g hFg; omega
  have hMA7 : Im (W.setCell ⟨g, k * 2 + 1, none⟩ (.slice (some ⟨g2, 0, none⟩) (f.l.length + 1) c2)) (A, 128) zeroY128 := own_other hMA (fun b hb => by cases hb; exact hoth7 A hAg)
  have hMB7 : Im (W.setCell ⟨g, k * 2 + 1, none⟩ (.slice (some ⟨g2, 0, none⟩) (f.l.length + 1) c2)) (B, 128) zeroY128 := own_other hMB (fun b hb => by cases hb; exact hoth7 B hBg)
  have hblk : ∀ b, b < w5.heap.size → b ≠ f.g → b ≠ g → (W.setCell ⟨g, k * 2 + 1, none⟩ (.slice (some ⟨g2, 0, none⟩) (f.l.length + 1) c2)).heap[b]? = w5.heap[b]? := fun b h1 h2 h3 => (hoth7 b h3).trans (hK.block b h1 h2)
  have hsW : w5.heap.size ≤ W.heap.size := hK.size
  have hc1 : (W.setCell ⟨g, k * 2 + 1, none⟩ (.slice (some ⟨g2, 0, none⟩) (f.l.length + 1) c2)).cell? ⟨y, 1, none⟩ = some (.slice (some ⟨g, 0, none⟩) R.length fc) := by
    rw [World.cell?_of_block (w := w5) (a := ⟨y, 1, none⟩) (hblk y (hL y h5.fy) hyf hyg), cell_of_row _ _ _ _ _ _ h5.disk]
    rfl
  have hkl := (List.getElem?_eq_some_iff.1 hk).1
  have hc2 : (W.setCell ⟨g, k * 2 + 1, none⟩ (.slice (some ⟨g2, 0, none⟩) (f.l.length + 1) c2)).cell? ⟨g, k * 2 + 1, none⟩ = some (.slice (some ⟨g2, 0, none⟩) (f.l.length + 1) c2) := by
    have h1 := hf7.cells (g := g) rfl (k * 2 + 1) (.slice (some ⟨g2, 0, none⟩) (f.l.length + 1) c2) (by rw [List.getElem?_set_self (by rw [cellsR_length]; omega)])
    rw [add_none, Nat.zero_add] at h1
    exact h1
  obtain ⟨Wz, hWz⟩ : ∃ Wz, Wz = (W.setCell ⟨g, k * 2 + 1, none⟩ (.slice (some ⟨g2, 0, none⟩) (f.l.length + 1) c2)) := ⟨_, rfl⟩
  rw [← hWz] at hf7 hrow7 hMA7 hMB7 hblk hc1 hc2 hs7 ⊢
  have hW1 : Below Wz.heap.size Wz (Wz.alloc (.cells #[] 5)) := (Below.refl _ _).alloc (Nat.le_refl _) _
  have hbaN : ba ≠ f.g ∧ ba ≠ g := ⟨fun e => hnF (e ▸ hFf), fun e => hnF (e ▸ hFg)⟩
  have hsrc : ∀ W', Below Wz.heap.size Wz W' → ∀ j u, (vb zs)[j]? = some u → W'.cell? ((⟨ba, boff, none⟩ : Addr).add j) = some u := fun W' hb => src_of hBz ((hb.block ba (by omega)).trans (hblk ba hba hbaN.1 hbaN.2))
  obtain ⟨q1, W2, hr1', hi1, hq1, hqs1, hg1⟩ := cpy (Wz.alloc (.cells #[] 5)) Wz.heap.size (heap_alloc_new _ _) ⟨ba, boff, none⟩ cap zs hBz.1 (hsrc _ hW1)
  have hW2 : Below Wz.heap.size Wz W2 := hW1.grown hg1 hW1.size (fun k hk => by cases hk; exact Nat.le_refl _)
  have hW3 : Below Wz.heap.size Wz (W2.alloc (.cells #[] 5)) := hW2.alloc hW2.size _
  obtain ⟨q2, W4, hr2', hi2, hq2, hqs2, hg2'⟩ := cpy (W2.alloc (.cells #[] 5)) W2.heap.size (heap_alloc_new _ _) ⟨ba, boff, none⟩ cap zs hBz.1 (hsrc _ hW3)
  have hW4 : Below Wz.heap.size Wz W4 := hW3.grown hg2' hW3.size (fun k hk => by cases hk; exact hW2.size)
  have hi1' : Im W4 q1 zs := im_grown (im_grown hi1 (grown_alloc W2 _) (fun e => by cases e)) hg2' (fun e => by have := Option.some.inj e; omega)
  have hg2lt : g2 < Wz.heap.size := own_lt hrow7 g2 rfl
  have hrow4 : W4.ownsRow 0 57 5 (.slice (some ⟨g2, 0, none⟩) (f.l.length + 1) c2) (f.l.length + 1) (cellsC f.l ++ [.slice none 0 0, .slice (some ⟨A, 0, none⟩) 128 128, .slice (some ⟨B, 0, none⟩) 128 128, .slice none 0 0, .bool false]) := own_other hrow7 (fun b hb => by cases hb; exact hW4.block g2 hg2lt)
  have hgl : g < Wz.heap.size := own_lt hf7 g rfl
  obtain ⟨cur, hcur⟩ := own_ty hrow4 (g := g2) rfl
  have hcl := cellsC_length f.l
  have key : ∀ j v, j < 5 → ([.slice none 0 0, .slice (some ⟨A, 0, none⟩) 128 128, .slice (some ⟨B, 0, none⟩) 128 128, .slice none 0 0, .bool false] : List Value)[j]? = some v → W4.cell? ⟨g2, f.l.length * 5 + j, none⟩ = some v := fun j v hj hv => by
    have h1 := hrow4.cells (g := g2) rfl (f.l.length * 5 + j) v (by rw [List.getElem?_append_right (by omega), hcl, Nat.add_sub_cancel_left]; exact hv)
    rw [add_none, Nat.zero_add] at h1
    exact h1
  obtain ⟨c', hc'⟩ : ∃ c' : Yc, c' = ⟨zeroE.wrote zs, q1, (A, 128), (B, 128), q2⟩ := ⟨_, rfl⟩
  have hp3 := own_putY (own_putY (own_putY hrow4 (f.l.length * 5) (im q1)) (f.l.length * 5 + 3) (im q2)) (f.l.length * 5 + 4) (.bool true)
  rw [last5] at hp3
  have hp4 : (((W4.setCell ⟨g2, f.l.length * 5, none⟩ (im q1)).setCell ⟨g2, f.l.length * 5 + 3, none⟩ (im q2)).setCell ⟨g2, f.l.length * 5 + 4, none⟩ (.bool true)).ownsRow 0 57 5 (.slice (some ⟨g2, 0, none⟩) (f.l.length + 1) c2) (f.l.length + 1) (cellsC (f.l ++ [c'])) := by
    rw [cellsC_app, hc']
    exact hp3
  have hothF : ∀ b, b ≠ g2 → (((W4.setCell ⟨g2, f.l.length * 5, none⟩ (im q1)).setCell ⟨g2, f.l.length * 5 + 3, none⟩ (im q2)).setCell ⟨g2, f.l.length * 5 + 4, none⟩ (.bool true)).heap[b]? = W4.heap[b]? := fun b hb => by
    rw [Below.heap_setCell _ ⟨g2, f.l.length * 5 + 4, none⟩ _ b hb, Below.heap_setCell _ ⟨g2, f.l.length * 5 + 3, none⟩ _ b hb, Below.heap_setCell _ ⟨g2, f.l.length * 5, none⟩ _ b hb]
  have hkI : ∀ (q : Nat × Nat) (z : List Nat), Im W4 q z → Im (((W4.setCell ⟨g2, f.l.length * 5, none⟩ (im q1)).setCell ⟨g2, f.l.length * 5 + 3, none⟩ (im q2)).setCell ⟨g2, f.l.length * 5 + 4, none⟩ (.bool true)) q z := fun q z hq => own_other hq (fun b hb => hothF b (Ne.symm (own_ne2 hrow4 hq (g := g2) rfl hb tyDF.2.2.2.2.2)))
  have hMA4 : Im W4 (A, 128) zeroY128 := own_other hMA7 (fun b hb => by cases hb; exact hW4.block A (own_lt hMA7 A rfl))
  have hMB4 : Im W4 (B, 128) zeroY128 := own_other hMB7 (fun b hb => by cases hb; exact hW4.block B (own_lt hMB7 B rfl))
  have hz128 : zeroY128 = List.replicate 128 0 := rfl
  have hsF : (((W4.setCell ⟨g2, f.l.length * 5, none⟩ (im q1)).setCell ⟨g2, f.l.length * 5 + 3, none⟩ (im q2)).setCell ⟨g2, f.l.length * 5 + 4, none⟩ (.bool true)).heap.size = W4.heap.size := by simp [World.setCell]
  have hs4 := hW4.size
  have hfF : (((W4.setCell ⟨g2, f.l.length * 5, none⟩ (im q1)).setCell ⟨g2, f.l.length * 5 + 3, none⟩ (im q2)).setCell ⟨g2, f.l.length * 5 + 4, none⟩ (.bool true)).ownsRow 0 55 2 (.slice (some ⟨g, 0, none⟩) R.length fc) R.length (cellsR (R.set k ⟨f.name, g2, c2, f.l ++ [c']⟩)) := by
    rw [← cellsR_set2 R k f ⟨f.name, g2, c2, f.l ++ [c']⟩ 1 (.slice (some ⟨g2, 0, none⟩) (f.l.length + 1) c2) hk (by omega) (by simp [Yf.cells, Yf.row])]
    exact own_other hf7 (fun b hb => by cases hb; exact (hothF g (Ne.symm hgg)).trans (hW4.block g hgl))
  have hFin := h5.turnF (w' := (((W4.setCell ⟨g2, f.l.length * 5, none⟩ (im q1)).setCell ⟨g2, f.l.length * 5 + 3, none⟩ (im q2)).setCell ⟨g2, f.l.length * 5 + 4, none⟩ (.bool true))) (F' := fun b => F b ∨ b = g2 ∨ b = A ∨ b = B ∨ b = q1.1 ∨ b = q2.1) hk ⟨f.name, g2, c2, f.l ++ [c']⟩ g rfl hfF (by show (((W4.setCell ⟨g2, f.l.length * 5, none⟩ (im q1)).setCell ⟨g2, f.l.length * 5 + 3, none⟩ (im q2)).setCell ⟨g2, f.l.length * 5 + 4, none⟩ (.bool true)).ownsRow 0 _ 5 (.slice (some ⟨g2, 0, none⟩) (f.l ++ [c']).length c2) (f.l ++ [c']).length (cellsC (f.l ++ [c'])); rw [List.length_append, List.length_singleton]; exact hp4)
    (fun b hb h1 h2 => by
      have hb2 : b ≠ g2 := by
        rcases hg2 with rfl | h
        · exact h1
        · have := hL b hb; omega
      exact ((hothF b hb2).trans (hW4.block b (by have := hL b hb; omega))).trans (hblk b (hL b hb) h1 h2))
    (fun c hc => by
      rcases List.mem_append.1 hc with hc | hc
      · exact .inl hc
      · obtain rfl := List.mem_singleton.1 hc
        rw [hc']
        refine .inr ⟨⟨hkI _ _ hi1', hkI _ _ hMA4, hkI _ _ hMB4, hkI _ _ hi2⟩, ?_, .inr (.inr (.inr (.inr (.inl rfl)))), .inr (.inr (.inl rfl)), .inr (.inr (.inr (.inl rfl))), .inr (.inr (.inr (.inr (.inr rfl))))⟩
        refine ⟨⟨by simp [zeroE, Ext.wrote], fun y hy => ?_⟩, ⟨by simp [zeroE, Ext.wrote], fun y hy => ?_⟩, hBz.1, hBz.2.2.1⟩
        · simp [zeroE, Ext.wrote] at hy; omega
        · simp [zeroE, Ext.wrote] at hy; omega)
    rfl (by simp) (fun b hb => .inl hb) (.inr (.inl rfl)) (by
      rcases hg2 with h | h
      · exact .inl h
      · exact .inr (fun hf => by have := hL _ hf; simp only at this; omega))
  refine ⟨q1, W2, q2, W4, hr1', hr2', hc1, hc2, key 0 _ (by omega) rfl, key 3 _ (by omega) rfl, key 4 _ (by omega) rfl, ⟨cur, hcur⟩, _, c', hFin, by rw [hc'], ?_⟩
  have hk7 : Keeps F w5 Wz := ⟨by rw [hWz]; exact hK.os, by rw [hWz]; exact hK.tape, by rw [hWz]; exact hK.output, by omega, fun b hb hn => hblk b hb (fun e => hn (e ▸ hFf)) (fun e => hn (e ▸ hFg))⟩
  have hsA := own_lt hMA7 A rfl
  have hsB := own_lt hMB7 B rfl
  have hsq := hg2'.size
  rw [World.size_alloc] at hsq hq1 hq2
  have hs2 := hW2.size
  refine ⟨⟨by rw [← hk7.os, ← hW4.os]; rfl, by rw [← hk7.tape, ← hW4.tape]; rfl, by rw [← hk7.output, ← hW4.output]; rfl, by omega, fun b hb hn => ?_⟩, fun b hb => ?_⟩
  · have hb2 : b ≠ g2 := by
      rcases hg2 with rfl | h
      · exact fun e => hn (e ▸ hFf)
      · omega
    exact (hothF b hb2).trans ((hW4.block b (by omega)).trans (hk7.block b hb hn))
  · rw [hsF]
    rcases hb with hb | rfl | rfl | rfl | rfl | rfl
    · exact .inl hb
    · rcases hg2 with rfl | h
      · exact .inl hFf
      · exact .inr ⟨h, by omega⟩
    · exact .inr ⟨nA, by omega⟩
    · exact .inr ⟨nB, by omega⟩
    · exact .inr ⟨by omega, by omega⟩
    · exact .inr ⟨by omega, hqs2⟩
end Go.Proofs.Ytocfbokgbpaneaa
