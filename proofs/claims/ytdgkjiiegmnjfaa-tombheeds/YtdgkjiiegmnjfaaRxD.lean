/- around: a part with ways past it and back. -/
import Derived.Test.YtdgkjiiegmnjfaaRxC
namespace Go.Proofs.Ytdgkjiiegmnjfaa
open Go.RowKit Go.Joins
set_option linter.unusedVariables false

/-- The blocks of a call of around: inner, the result, p. -/
structure ArB (w : World) (ρ : Nat → Nat) (A bp : Nat) (f t n m : Nat) : Prop where
  i : w.heap[A]? = some (.cells #[.int .i64 (f : Int), .int .i64 (t : Int)] 73 (0, 0))
  o : w.heap[A + 1]? = some (.cells #[.int .i64 0, .int .i64 0] 73 (0, 0))
  p : w.heap[bp]? = some (.cells #[.int .i64 (n : Int), .int .i64 (m : Int)] 73 (0, 0))
  zi : ρ A = 0
  zo : ρ (A + 1) = 0
  zp : ρ bp = 0
theorem ArB.gw {w w' : World} {ρ ρ' : Nat → Nat} {A bp f t n m : Nat} (h : ArB w ρ A bp f t n m) (G : Gw ρ ρ' w w') : ArB w' ρ' A bp f t n m :=
  ⟨(G.blk h.i h.zi).1, (G.blk h.o h.zo).1, (G.blk h.p h.zp).1, (G.blk h.i h.zi).2, (G.blk h.o h.zo).2, (G.blk h.p h.zp).2⟩
theorem ArB.cells {w : World} {ρ : Nat → Nat} {A bp f t n m : Nat} (h : ArB w ρ A bp f t n m) : w.cell? ⟨A, 0, none⟩ = some (.int .i64 (f : Int)) ∧ w.cell? ⟨A, 1, none⟩ = some (.int .i64 (t : Int)) ∧ w.cell? ⟨bp, 0, none⟩ = some (.int .i64 (n : Int)) ∧ w.cell? ⟨bp, 1, none⟩ = some (.int .i64 (m : Int)) :=
  ⟨cell_of_row _ _ _ _ _ _ h.i, cell_of_row _ _ _ _ _ _ h.i, cell_of_row _ _ _ _ _ _ h.p, cell_of_row _ _ _ _ _ _ h.p⟩
theorem ArB.fin {w : World} {ρ : Nat → Nat} {A bp f t n m : Nat} (h : ArB w ρ A bp f t n m) (r : Nat) (R : Rd) (hr : RDx w r ρ R) :
    w.cell? ⟨A + 1, 0, none⟩ = some (.int .i64 0) ∧ w.cell? ⟨A + 1, 1, none⟩ = some (.int .i64 0) ∧ w.frozen? ⟨A + 1, 0, none⟩ = false ∧ w.frozen? ⟨A + 1, 1, none⟩ = false ∧
    ((w.setCell ⟨A + 1, 0, none⟩ (.int .i64 (n : Int))).setCell ⟨A + 1, 1, none⟩ (.int .i64 (m : Int))).cell? ⟨A + 1, 0, none⟩ = some (.int .i64 (n : Int)) ∧
    ((w.setCell ⟨A + 1, 0, none⟩ (.int .i64 (n : Int))).setCell ⟨A + 1, 1, none⟩ (.int .i64 (m : Int))).cell? ⟨A + 1, 1, none⟩ = some (.int .i64 (m : Int)) ∧
    RDx ((w.setCell ⟨A + 1, 0, none⟩ (.int .i64 (n : Int))).setCell ⟨A + 1, 1, none⟩ (.int .i64 (m : Int))) r ρ R := by
  have q8 := block_setCell (i := 1) (block_setCell (i := 0) h.o (.int .i64 (n : Int))) (.int .i64 (m : Int))
  exact ⟨cell_of_row _ _ _ _ _ _ h.o, cell_of_row _ _ _ _ _ _ h.o, unfrozen_of_block h.o _, unfrozen_of_block h.o _, by rw [cell_of_row _ _ _ _ _ _ q8]; rfl, by rw [cell_of_row _ _ _ _ _ _ q8]; rfl, (hr.loc h.o (by decide) h.zo 0 (.int .i64 (n : Int))).loc (block_setCell (i := 0) h.o (.int .i64 (n : Int))) (by decide) h.zo 1 (.int .i64 (m : Int))⟩

set_option maxHeartbeats 4000000 in
set_option maxRecDepth 100000 in
theorem around_any (r : Nat) (ρ : Nat → Nat) (R : Rd) (f t : Nat) (past back : Bool) (w : World) (h : RDx w r ρ R) (hb : siz R.2 + 6 ≤ 100000) (hf : f < R.2.length) (ht : t < R.2.length) :
    Calls Try.prog 54 #[.pointer (some ⟨r, 0, none⟩), .agg #[.int .i64 (f : Int), .int .i64 (t : Int)], .bool past, .bool back] w fun e w' => e = .returned (.agg #[.int .i64 (R.2.length : Int), .int .i64 ((R.2.length + 1 : Nat) : Int)]) ∧ ∃ ρ', RDx w' r ρ' (R.1, aroundR R.2 f t past back) ∧ Gw ρ ρ' w w' := by
  obtain ⟨l, L⟩ := R
  simp only at hb hf ht
  have hfree : ∀ k, w.heap.size ≤ k → ρ k = 0 := by obtain ⟨_, _, _, _, h⟩ := h; exact h.free
  obtain ⟨wA, hwA⟩ : ∃ wA, wA = (w.alloc (.cells #[.int .i64 (f : Int), .int .i64 (t : Int)] 73)).alloc (.cells #[.int .i64 0, .int .i64 0] 73) := ⟨_, rfl⟩
  have bA : Below w.heap.size w wA := by rw [hwA]; exact ((Below.refl _ w).alloc (Nat.le_refl _) _).alloc (by simp) _
  have qA : wA.heap[w.heap.size]? = some (.cells #[.int .i64 (f : Int), .int .i64 (t : Int)] 73 (0, 0)) := by
    rw [hwA, Below.heap_alloc _ _ _ (by simp)]; exact heap_alloc_new w _
  have qB : wA.heap[w.heap.size + 1]? = some (.cells #[.int .i64 0, .int .i64 0] 73 (0, 0)) := by
    rw [hwA]
    have := heap_alloc_new (w.alloc (.cells #[.int .i64 (f : Int), .int .i64 (t : Int)] 73)) (.cells #[.int .i64 0, .int .i64 0] 73)
    simpa using this
  have hA := h.below bA
  go_enter Try.func54, Try.ntmps54
  go_wp2_with fail
  rw [← hwA]
  refine (state_any r ρ (l, L) _ hA (by simp only; omega)).mono ?_
  rintro e w1 ⟨rfl, ρ1, h1, G1⟩
  obtain ⟨qA1, zA1⟩ := G1.blk qA (hfree _ (by omega))
  obtain ⟨qB1, zB1⟩ := G1.blk qB (hfree _ (by omega))
  clear hwA hA
  go_wp2_with fail
  refine (state_any r ρ1 (l, L ++ [St.zero]) _ h1 (by simp only [siz_append]; have : siz [St.zero] = 1 := rfl; omega)).mono ?_
  rintro e w2 ⟨rfl, ρ2, h2, G2⟩
  obtain ⟨qA2, zA2⟩ := G2.blk qA1 zA1
  obtain ⟨qB2, zB2⟩ := G2.blk qB1 zB1
  clear qA qB qA1 qB1 h1
  obtain ⟨n, hn⟩ : ∃ n, n = L.length := ⟨_, rfl⟩
  obtain ⟨m, hm⟩ : ∃ m, m = L.length + 1 := ⟨_, rfl⟩
  have e1 : ((l, L ++ [St.zero]) : Rd).2.length = m := by simp [hm]
  rw [e1, ← hn]
  obtain ⟨w3, hw3⟩ : ∃ w3, w3 = w2.alloc (.cells #[.int .i64 (n : Int), .int .i64 (m : Int)] 73) := ⟨_, rfl⟩
  have b3 : Below w2.heap.size w2 w3 := by rw [hw3]; exact (Below.refl _ w2).alloc (Nat.le_refl _) _
  have qP3 : w3.heap[w2.heap.size]? = some (.cells #[.int .i64 (n : Int), .int .i64 (m : Int)] 73 (0, 0)) := by rw [hw3]; exact heap_alloc_new w2 _
  obtain ⟨bp, hbpe⟩ : ∃ bp, bp = w2.heap.size := ⟨_, rfl⟩
  obtain ⟨A, hAe⟩ : ∃ A, A = w.heap.size := ⟨_, rfl⟩
  have hfree2 : ∀ k, w2.heap.size ≤ k → ρ2 k = 0 := by obtain ⟨_, _, _, _, q⟩ := h2; exact q.free
  have K3 : ArB w3 ρ2 A bp f t n m := by
    rw [hAe, hbpe]
    exact ⟨(b3.block _ (Array.getElem?_eq_some_iff.1 qA2).1).trans qA2, (b3.block _ (Array.getElem?_eq_some_iff.1 qB2).1).trans qB2, qP3, zA2, zB2, hfree2 _ (Nat.le_refl _)⟩
  have h3 := h2.below b3
  have G3 : Gw ρ ρ2 w w3 := (((Gw.of (Kp.of_below bA)).trans G1).trans G2).trans (Gw.of (Kp.of_below b3))
  have hAw : w.heap.size ≤ A := by omega
  have HNN := hidn hn
  have HMM := hidn hm
  have HW3 := hidn hw3
  have HBP := hidn hbpe
  have HAA := hidn hAe
  rw [← hAe]
  have hlen : ∀ k, k < L.length → k < (L ++ [St.zero] ++ [St.zero]).length := by intro k hk; simp; omega
  have hsz : siz (L ++ [St.zero] ++ [St.zero]) = siz L + 2 := by rw [siz_append, siz_append]; rfl
  have hnl : n < (L ++ [St.zero] ++ [St.zero]).length := by simp; omega
  clear hn hm hw3 hbpe hAe e1 qA2 qB2 qP3 h2 h bA b3 G1 G2 hfree hfree2
  obtain ⟨x1, x2, x3, x4⟩ := K3.cells
  rw [HW3.out] at x1 x2
  go_wp2_with fail
  rw [← HW3.out, ← HBP.out]
  refine (link_any r _ (l, L ++ [St.zero] ++ [St.zero]) n f w3 h3 (by simp only [hsz]; omega) hnl).mono ?_
  rintro e w4 ⟨rfl, ρ4, h4, G4⟩
  have K4 := K3.gw G4
  have G4' := G3.trans G4
  clear x1 x2 x3 x4 K3 G3 G4 h3
  obtain ⟨x1, x2, x3, x4⟩ := K4.cells
  go_wp2_with fail
  refine (link_any r _ (l, linkR (L ++ [St.zero] ++ [St.zero]) n f) t m w4 h4 (by simp only [siz_link _ _ _ hnl, hsz]; omega) (by simp only [linkR_length]; exact hlen t ht)).mono ?_
  rintro e w5 ⟨rfl, ρ5, h5, G5⟩
  have K5 := K4.gw G5
  have G5' := G4'.trans G5
  clear x1 x2 x3 x4 K4 G4' G5 h4
  have E0 : linkR (linkR (L ++ [St.zero] ++ [St.zero]) n f) t m = around0 L f t := by unfold around0; rw [← HMM.out, ← HNN.out]
  have S0 : siz (around0 L f t) = siz L + 4 := around0_siz L f t hf ht
  have L0 : (around0 L f t).length = L.length + 2 := around0_length L f t
  have h5' : RDx w5 r ρ5 (l, around0 L f t) := by rw [← E0]; exact h5
  have nl0 : n < (around0 L f t).length := by rw [L0, HNN.out]; omega
  clear h5 E0
  obtain ⟨x1, x2, x3, x4⟩ := K5.cells
  cases past with
  | true =>
    go_wp2_with fail
    refine (link_any r _ (l, around0 L f t) n m w5 h5' (by simp only [S0]; omega) nl0).mono ?_
    rintro e w6 ⟨rfl, ρ6, h6, G6⟩
    have K6 := K5.gw G6
    have G6' := G5'.trans G6
    clear x1 x2 x3 x4 K5 G5' G6 h5'
    have h6' : RDx w6 r ρ6 (l, around1 (around0 L f t) L.length true) := by
      show RDx w6 r ρ6 (l, linkR (around0 L f t) L.length (L.length + 1))
      rw [← HMM.out, ← HNN.out]; exact h6
    clear h6
    obtain ⟨x1, x2, x3, x4⟩ := K6.cells
    cases back with
    | true =>
      go_wp2_with fail
      refine (link_any r _ (l, around1 (around0 L f t) L.length true) t f w6 h6' (by simp only; have := around1_siz (around0 L f t) L.length true (by rw [L0]; omega); omega) (by simp only [around1_length, L0]; omega)).mono ?_
      rintro e w7 ⟨rfl, ρ7, h7, G7⟩
      have K7 := K6.gw G7
      have G7' := G6'.trans G7
      clear x1 x2 x3 x4 K6 G6' G7 h6'
      obtain ⟨x1, x2, x3, x4⟩ := K7.cells
      obtain ⟨r0, r1, fr0, fr1, t0, t1, h9⟩ := K7.fin r _ h7
      have HF := hidn h9
      have HG9 := hidn ((G7'.loc (k := A + 1) (by rw [HAA.out]; omega) 0 (.int .i64 (n : Int))).loc (k := A + 1) (by rw [HAA.out]; omega) 1 (.int .i64 (m : Int)))
      clear h9
      go_wp2_with fail
      exact bodyPost_ret (v := .agg #[.int .i64 (n : Int), .int .i64 (m : Int)]) (by simp [results, Try.results54, go_sem, t0, t1]) rfl ⟨by show _ = Ending.returned (.agg #[.int .i64 (L.length : Int), .int .i64 ((L.length + 1 : Nat) : Int)]); rw [← HMM.out, ← HNN.out], _, by show RDx _ r _ (l, linkR (around1 (around0 L f t) L.length true) t f); exact HF.out, HG9.out⟩
    | false =>
      obtain ⟨r0, r1, fr0, fr1, t0, t1, h9⟩ := K6.fin r _ h6'
      have HF := hidn h9
      have HG9 := hidn ((G6'.loc (k := A + 1) (by rw [HAA.out]; omega) 0 (.int .i64 (n : Int))).loc (k := A + 1) (by rw [HAA.out]; omega) 1 (.int .i64 (m : Int)))
      clear h9
      go_wp2_with fail
      exact bodyPost_ret (v := .agg #[.int .i64 (n : Int), .int .i64 (m : Int)]) (by simp [results, Try.results54, go_sem, t0, t1]) rfl ⟨by show _ = Ending.returned (.agg #[.int .i64 (L.length : Int), .int .i64 ((L.length + 1 : Nat) : Int)]); rw [← HMM.out, ← HNN.out], _, by show RDx _ r _ (l, around1 (around0 L f t) L.length true); exact HF.out, HG9.out⟩
  | false =>
    cases back with
    | true =>
      go_wp2_with fail
      refine (link_any r _ (l, around0 L f t) t f w5 h5' (by simp only [S0]; omega) (by simp only [L0]; omega)).mono ?_
      rintro e w7 ⟨rfl, ρ7, h7, G7⟩
      have K7 := K5.gw G7
      have G7' := G5'.trans G7
      clear x1 x2 x3 x4 K5 G5' G7 h5'
      obtain ⟨x1, x2, x3, x4⟩ := K7.cells
      obtain ⟨r0, r1, fr0, fr1, t0, t1, h9⟩ := K7.fin r _ h7
      have HF := hidn h9
      have HG9 := hidn ((G7'.loc (k := A + 1) (by rw [HAA.out]; omega) 0 (.int .i64 (n : Int))).loc (k := A + 1) (by rw [HAA.out]; omega) 1 (.int .i64 (m : Int)))
      clear h9
      go_wp2_with fail
      exact bodyPost_ret (v := .agg #[.int .i64 (n : Int), .int .i64 (m : Int)]) (by simp [results, Try.results54, go_sem, t0, t1]) rfl ⟨by show _ = Ending.returned (.agg #[.int .i64 (L.length : Int), .int .i64 ((L.length + 1 : Nat) : Int)]); rw [← HMM.out, ← HNN.out], _, by show RDx _ r _ (l, linkR (around0 L f t) t f); exact HF.out, HG9.out⟩
    | false =>
      obtain ⟨r0, r1, fr0, fr1, t0, t1, h9⟩ := K5.fin r _ h5'
      have HF := hidn h9
      have HG9 := hidn ((G5'.loc (k := A + 1) (by rw [HAA.out]; omega) 0 (.int .i64 (n : Int))).loc (k := A + 1) (by rw [HAA.out]; omega) 1 (.int .i64 (m : Int)))
      clear h9
      go_wp2_with fail
      exact bodyPost_ret (v := .agg #[.int .i64 (n : Int), .int .i64 (m : Int)]) (by simp [results, Try.results54, go_sem, t0, t1]) rfl ⟨by show _ = Ending.returned (.agg #[.int .i64 (L.length : Int), .int .i64 ((L.length + 1 : Nat) : Int)]); rw [← HMM.out, ← HNN.out], _, by show RDx _ r _ (l, around0 L f t); exact HF.out, HG9.out⟩
end Go.Proofs.Ytdgkjiiegmnjfaa
