/- piece. -/
import Derived.Test.YtdgkjiiegmnjfaaRxH
namespace Go.Proofs.Ytdgkjiiegmnjfaa
open Go.RowKit Go.Joins
set_option linter.unusedVariables false
theorem asc42 : AscS ⟨#[42]⟩ := by unfold AscS; decide
theorem asc43 : AscS ⟨#[43]⟩ := by unfold AscS; decide
theorem asc63 : AscS ⟨#[63]⟩ := by unfold AscS; decide

set_option maxHeartbeats 4000000 in
set_option maxRecDepth 100000 in
theorem piece_any (k d : Nat) (hkd : d + k = 10) (HP : ∀ k', k = k' + 1 → PatC k' (d + 1)) (r : Nat) (ρ : Nat → Nat) (R : Rd) (w : World) (h : RDx w r ρ R) (hb : siz R.2 + 8 * R.1.length + 5 ≤ 100000) :
    Calls Try.prog 51 #[.pointer (some ⟨r, 0, none⟩), .int .i64 (d : Int)] w fun e w' => ∃ (x y : Nat) (ok : Bool) (ρ' : Nat → Nat), e = .returned (.tuple #[.agg #[.int .i64 (x : Int), .int .i64 (y : Int)], .bool ok]) ∧ Gw ρ ρ' w w' ∧ PartPost (pieceR (grpN k) R) r ρ' w' x y ok := by
  obtain ⟨wA, hwA⟩ : ∃ wA, wA = w.alloc (.cells #[.int .i64 0, .int .i64 0] 73) := ⟨_, rfl⟩
  have bA : Below w.heap.size w wA := by rw [hwA]; exact (Below.refl _ w).alloc (Nat.le_refl _) _
  have qA : wA.heap[w.heap.size]? = some (.cells #[.int .i64 0, .int .i64 0] 73 (0, 0)) := by rw [hwA]; exact heap_alloc_new w _
  have hA := h.below bA
  have zA : ρ w.heap.size = 0 := h.fr _ (Nat.le_refl _)
  obtain ⟨A, hAe⟩ : ∃ A, A = w.heap.size := ⟨_, rfl⟩
  have hAw : w.heap.size ≤ A := by omega
  have HAA := hidn hAe
  have HWA := hidn hwA
  have HKD := hidn hkd
  have G0 : Gw ρ ρ w wA := Gw.of (Kp.of_below bA)
  rw [← hAe] at qA zA
  clear hAe hwA bA h hkd
  go_enter Try.func51, Try.ntmps51
  go_wp2_with fail
  rw [← HWA.out, ← HAA.out]
  refine (atom_any k d HKD.out HP r ρ R wA hA hb).mono ?_
  rintro e w1 ⟨x, y, ok, ρ1, rfl, G1, hpp⟩
  obtain ⟨q1, z1⟩ := G1.blk qA zA
  have G1' := G0.trans G1
  cases hres : atomR (grpN k) R with
  | none =>
    rw [hres] at hpp
    have : ok = false := hpp
    subst this
    have hR : Hid (pieceR (grpN k) R = none) := hidn (by unfold pieceR; rw [hres])
    have q2 : (w1.alloc (.cells #[.int .i64 (x : Int), .int .i64 (y : Int)] 73)).heap[A]? = some (.cells #[.int .i64 0, .int .i64 0] 73 (0, 0)) := (Below.heap_alloc _ _ _ (Array.getElem?_eq_some_iff.1 q1).1).trans q1
    obtain ⟨r0, r1, fr0, fr1, t0, t1, _, hG⟩ := fin2 q2 (.int .i64 0) (.int .i64 0)
    have HG := hidn (hG _ _ _ (G1'.trans (Gw.of ((Kp.refl _ w1).alloc _))) hAw)
    clear hG hpp
    go_wp2_with fail
    exact bodyPost_ret (v := .tuple #[.agg #[.int .i64 0, .int .i64 0], .bool false]) (by simp [results, Try.results51, go_sem, t0, t1]) rfl ⟨0, 0, false, ρ1, rfl, HG.out, by rw [hR.out]; rfl⟩
  | some res =>
    obtain ⟨f, t, R'⟩ := res
    rw [hres] at hpp
    obtain ⟨rfl, rfl, rfl, h1⟩ := hpp
    obtain ⟨K, hcost, hlt⟩ := atom_kept (grpN_kept k) hres
    have hKf := K.f
    have hKt := K.t
    simp only at hKf hKt hcost hlt
    obtain ⟨bi, hbi⟩ : ∃ bi, bi = w1.heap.size := ⟨_, rfl⟩
    obtain ⟨w2, hw2⟩ : ∃ w2, w2 = w1.alloc (.cells #[.int .i64 (x : Int), .int .i64 (y : Int)] 73) := ⟨_, rfl⟩
    have b2 : Below w1.heap.size w1 w2 := by rw [hw2]; exact (Below.refl _ w1).alloc (Nat.le_refl _) _
    have qi2 : w2.heap[bi]? = some (.cells #[.int .i64 (x : Int), .int .i64 (y : Int)] 73 (0, 0)) := by rw [hw2, hbi]; exact heap_alloc_new w1 _
    have q2 := (b2.block _ (Array.getElem?_eq_some_iff.1 q1).1).trans q1
    have zi : ρ1 bi = 0 := by rw [hbi]; exact h1.fr _ (Nat.le_refl _)
    have h2 := h1.below b2
    have G2' := G1'.trans (Gw.of (Kp.of_below b2))
    have HBI := hidn hbi
    have HW2 := hidn hw2
    clear hbi hw2 K h1 q1 G1 G1' b2
    go_wp2_with fail
    rw [← HW2.out, ← HBI.out]
    refine (take_any r ρ1 R' ⟨#[42]⟩ w2 (by decide) asc42 h2).mono ?_
    rintro e w3 ⟨rfl, h3, G3⟩
    obtain ⟨q3, _⟩ := G3.blk q2 z1
    obtain ⟨qi3, _⟩ := G3.blk qi2 zi
    have G3' := G2'.trans G3
    have ci0 : w3.cell? ⟨bi, 0, none⟩ = some (.int .i64 (x : Int)) := cell_of_row _ _ _ _ _ _ qi3
    have ci1 : w3.cell? ⟨bi, 1, none⟩ = some (.int .i64 (y : Int)) := cell_of_row _ _ _ _ _ _ qi3
    cases hat : atR [42] R'.1 with
    | true =>
      have e0 : atR (ptsOf ⟨#[42]⟩) R'.1 = true := hat
      rw [e0] at h3 ⊢
      have h3' : RDx w3 r ρ1 (R'.1.tail, R'.2) := h3
      have hR : Hid (pieceR (grpN k) R = some (R'.2.length, R'.2.length + 1, R'.1.tail, aroundR R'.2 x y true true)) := hidn (by
        unfold pieceR
        rw [hres]
        simp only [takeR_at hat]
        rfl)
      clear e0 h3 hat
      go_wp2_with fail
      refine (around_any r ρ1 (R'.1.tail, R'.2) x y true true _ h3' (by simp only; omega) hKf hKt).mono ?_
      rintro e w9 ⟨rfl, ρ9, h9, G9⟩
      obtain ⟨q9, z9⟩ := G9.blk q3 z1
      have G9' := G3'.trans G9
      simp only
      obtain ⟨n, hn⟩ : ∃ n, n = R'.2.length := ⟨_, rfl⟩
      obtain ⟨m, hm⟩ : ∃ m, m = R'.2.length + 1 := ⟨_, rfl⟩
      rw [← hm, ← hn]
      obtain ⟨r0, r1, fr0, fr1, t0, t1, hR', hG⟩ := fin2 q9 (.int .i64 (n : Int)) (.int .i64 (m : Int))
      have HF := hidn (hR' r ρ9 _ h9 (by decide) z9)
      have HG9 := hidn (hG _ _ _ G9' hAw)
      have HN := hidn hn
      have HM := hidn hm
      clear hR' hG hn hm h9 G9 G9'
      go_wp2_with fail
      exact bodyPost_ret (v := .tuple #[.agg #[.int .i64 (n : Int), .int .i64 (m : Int)], .bool true]) (by simp [results, Try.results51, go_sem, t0, t1]) rfl ⟨n, m, Or.inr ⟨rfl, ρ9, HG9.out, by rw [hR.out]; exact ⟨rfl, HN.out, HM.out, HF.out⟩⟩⟩
    | false =>
      have e0 : atR (ptsOf ⟨#[42]⟩) R'.1 = false := hat
      rw [e0] at h3 ⊢
      have h3' : RDx w3 r ρ1 R' := h3
      have hR1 : Hid (takeR [42] R'.1 = none) := hidn (by rw [takeR_at hat]; rfl)
      clear e0 h3 hat ci0 ci1
      go_wp2_with fail
      refine (take_any r ρ1 R' ⟨#[43]⟩ w3 (by decide) asc43 h3').mono ?_
      rintro e w4 ⟨rfl, h4, G4⟩
      obtain ⟨q4, _⟩ := G4.blk q3 z1
      obtain ⟨qi4, _⟩ := G4.blk qi3 zi
      have G4' := G3'.trans G4
      have ci0 : w4.cell? ⟨bi, 0, none⟩ = some (.int .i64 (x : Int)) := cell_of_row _ _ _ _ _ _ qi4
      have ci1 : w4.cell? ⟨bi, 1, none⟩ = some (.int .i64 (y : Int)) := cell_of_row _ _ _ _ _ _ qi4
      cases hat : atR [43] R'.1 with
      | true =>
        have e0 : atR (ptsOf ⟨#[43]⟩) R'.1 = true := hat
        rw [e0] at h4 ⊢
        have h4' : RDx w4 r ρ1 (R'.1.tail, R'.2) := h4
        have hR : Hid (pieceR (grpN k) R = some (R'.2.length, R'.2.length + 1, R'.1.tail, aroundR R'.2 x y false true)) := hidn (by
          unfold pieceR
          rw [hres]
          simp only [hR1.out, takeR_at hat]
          rfl)
        clear e0 h4 hat
        go_wp2_with fail
        refine (around_any r ρ1 (R'.1.tail, R'.2) x y false true _ h4' (by simp only; omega) hKf hKt).mono ?_
        rintro e w9 ⟨rfl, ρ9, h9, G9⟩
        obtain ⟨q9, z9⟩ := G9.blk q4 z1
        have G9' := G4'.trans G9
        simp only
        obtain ⟨n, hn⟩ : ∃ n, n = R'.2.length := ⟨_, rfl⟩
        obtain ⟨m, hm⟩ : ∃ m, m = R'.2.length + 1 := ⟨_, rfl⟩
        rw [← hm, ← hn]
        obtain ⟨r0, r1, fr0, fr1, t0, t1, hR', hG⟩ := fin2 q9 (.int .i64 (n : Int)) (.int .i64 (m : Int))
        have HF := hidn (hR' r ρ9 _ h9 (by decide) z9)
        have HG9 := hidn (hG _ _ _ G9' hAw)
        have HN := hidn hn
        have HM := hidn hm
        clear hR' hG hn hm h9 G9 G9'
        go_wp2_with fail
        exact bodyPost_ret (v := .tuple #[.agg #[.int .i64 (n : Int), .int .i64 (m : Int)], .bool true]) (by simp [results, Try.results51, go_sem, t0, t1]) rfl ⟨n, m, Or.inr ⟨rfl, ρ9, HG9.out, by rw [hR.out]; exact ⟨rfl, HN.out, HM.out, HF.out⟩⟩⟩
      | false =>
        have e0 : atR (ptsOf ⟨#[43]⟩) R'.1 = false := hat
        rw [e0] at h4 ⊢
        have h4' : RDx w4 r ρ1 R' := h4
        have hR2 : Hid (takeR [43] R'.1 = none) := hidn (by rw [takeR_at hat]; rfl)
        clear e0 h4 hat ci0 ci1
        go_wp2_with fail
        refine (take_any r ρ1 R' ⟨#[63]⟩ w4 (by decide) asc63 h4').mono ?_
        rintro e w5 ⟨rfl, h5, G5⟩
        obtain ⟨q5, _⟩ := G5.blk q4 z1
        obtain ⟨qi5, _⟩ := G5.blk qi4 zi
        have G5' := G4'.trans G5
        have ci0 : w5.cell? ⟨bi, 0, none⟩ = some (.int .i64 (x : Int)) := cell_of_row _ _ _ _ _ _ qi5
        have ci1 : w5.cell? ⟨bi, 1, none⟩ = some (.int .i64 (y : Int)) := cell_of_row _ _ _ _ _ _ qi5
        cases hat : atR [63] R'.1 with
        | true =>
          have e0 : atR (ptsOf ⟨#[63]⟩) R'.1 = true := hat
          rw [e0] at h5 ⊢
          have h5' : RDx w5 r ρ1 (R'.1.tail, R'.2) := h5
          have hR : Hid (pieceR (grpN k) R = some (R'.2.length, R'.2.length + 1, R'.1.tail, aroundR R'.2 x y true false)) := hidn (by
            unfold pieceR
            rw [hres]
            simp only [hR1.out, hR2.out, takeR_at hat]
            rfl)
          clear e0 h5 hat
          go_wp2_with fail
          refine (around_any r ρ1 (R'.1.tail, R'.2) x y true false _ h5' (by simp only; omega) hKf hKt).mono ?_
          rintro e w9 ⟨rfl, ρ9, h9, G9⟩
          obtain ⟨q9, z9⟩ := G9.blk q5 z1
          have G9' := G5'.trans G9
          simp only
          obtain ⟨n, hn⟩ : ∃ n, n = R'.2.length := ⟨_, rfl⟩
          obtain ⟨m, hm⟩ : ∃ m, m = R'.2.length + 1 := ⟨_, rfl⟩
          rw [← hm, ← hn]
          obtain ⟨r0, r1, fr0, fr1, t0, t1, hR', hG⟩ := fin2 q9 (.int .i64 (n : Int)) (.int .i64 (m : Int))
          have HF := hidn (hR' r ρ9 _ h9 (by decide) z9)
          have HG9 := hidn (hG _ _ _ G9' hAw)
          have HN := hidn hn
          have HM := hidn hm
          clear hR' hG hn hm h9 G9 G9'
          go_wp2_with fail
          exact bodyPost_ret (v := .tuple #[.agg #[.int .i64 (n : Int), .int .i64 (m : Int)], .bool true]) (by simp [results, Try.results51, go_sem, t0, t1]) rfl ⟨n, m, Or.inr ⟨rfl, ρ9, HG9.out, by rw [hR.out]; exact ⟨rfl, HN.out, HM.out, HF.out⟩⟩⟩
        | false =>
          have e0 : atR (ptsOf ⟨#[63]⟩) R'.1 = false := hat
          rw [e0] at h5 ⊢
          have h5' : RDx w5 r ρ1 R' := h5
          have hR : Hid (pieceR (grpN k) R = some (x, y, R')) := hidn (by
            unfold pieceR
            rw [hres]
            simp only [hR1.out, hR2.out, takeR_at hat]
            rfl)
          clear e0 h5 hat
          obtain ⟨r0, r1, fr0, fr1, t0, t1, hR', hG⟩ := fin2 q5 (.int .i64 (x : Int)) (.int .i64 (y : Int))
          have HF := hidn (hR' r ρ1 _ h5' (by decide) z1)
          have HG9 := hidn (hG _ _ _ G5' hAw)
          clear hR' hG
          go_wp2_with fail
          exact bodyPost_ret (v := .tuple #[.agg #[.int .i64 (x : Int), .int .i64 (y : Int)], .bool true]) (by simp [results, Try.results51, go_sem, t0, t1]) rfl ⟨x, y, true, ρ1, rfl, HG9.out, by rw [hR.out]; exact ⟨rfl, rfl, rfl, HF.out⟩⟩
end Go.Proofs.Ytdgkjiiegmnjfaa
