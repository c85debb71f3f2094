/- pattern. -/
import Derived.Test.YtdgkjiiegmnjfaaRxJ
namespace Go.Proofs.Ytdgkjiiegmnjfaa
open Go.RowKit Go.Joins
set_option linter.unusedVariables false
theorem asc124 : AscS ⟨#[124]⟩ := by unfold AscS; decide

set_option maxHeartbeats 4000000 in
set_option maxRecDepth 100000 in
theorem pattern_step (k d : Nat) (hkd : d + k = 10) (HP : ∀ k', k = k' + 1 → PatC k' (d + 1)) : PatC k d := by
  intro r ρ R w h hb
  obtain ⟨l, L⟩ := R
  simp only at hb
  obtain ⟨wA, hwA⟩ : ∃ wA, wA = w.alloc (.cells #[.int .i64 0, .int .i64 0] 73) := ⟨_, rfl⟩
  have bA : Below w.heap.size w wA := by rw [hwA]; exact (Below.refl _ w).alloc (Nat.le_refl _) _
  have qA : wA.heap[w.heap.size]? = some (.cells #[.int .i64 0, .int .i64 0] 73 (0, 0)) := by rw [hwA]; exact heap_alloc_new w _
  have hA := h.below bA
  have zA : ρ w.heap.size = 0 := h.fr _ (Nat.le_refl _)
  obtain ⟨A, hAe⟩ : ∃ A, A = w.heap.size := ⟨_, rfl⟩
  have hAw : w.heap.size ≤ A := by omega
  have HAA := hidn hAe
  have HWA := hidn hwA
  have HKD := hidn hkd
  have G0 : Gw ρ ρ w wA := Gw.of (Kp.of_below bA)
  rw [← hAe] at qA zA
  obtain ⟨P, hP⟩ : ∃ P, P = patN k (l, L) := ⟨_, rfl⟩
  rw [← hP]
  have HPP := hidn hP
  clear hAe hwA bA h hkd hP
  go_enter Try.func41, Try.ntmps41
  go_wp2_with fail
  rw [← HWA.out, ← HAA.out]
  refine (state_any r ρ (l, L) wA hA (by simp only; omega)).mono ?_
  rintro e w1 ⟨rfl, ρ1, h1, G1⟩
  obtain ⟨q1, z1⟩ := G1.blk qA zA
  have G1' := G0.trans G1
  clear hA qA G0 G1
  go_wp2_with fail
  refine (state_any r ρ1 (l, L ++ [St.zero]) w1 h1 (by simp only [siz_append]; have : siz [St.zero] = 1 := rfl; omega)).mono ?_
  rintro e w2 ⟨rfl, ρ2, h2, G2⟩
  obtain ⟨q2, z2⟩ := G2.blk q1 z1
  have G2' := G1'.trans G2
  obtain ⟨n, hn⟩ : ∃ n, n = L.length := ⟨_, rfl⟩
  obtain ⟨m, hm⟩ : ∃ m, m = L.length + 1 := ⟨_, rfl⟩
  have e1 : ((l, L ++ [St.zero]) : Rd).2.length = m := by simp [hm]
  rw [e1, ← hn]
  obtain ⟨bi, hbi⟩ : ∃ bi, bi = w2.heap.size := ⟨_, rfl⟩
  obtain ⟨w3, hw3⟩ : ∃ w3, w3 = w2.alloc (.cells #[.int .i64 (n : Int), .int .i64 (m : Int)] 73) := ⟨_, rfl⟩
  have b3 : Below w2.heap.size w2 w3 := by rw [hw3]; exact (Below.refl _ w2).alloc (Nat.le_refl _) _
  have qi3 : w3.heap[bi]? = some (.cells #[.int .i64 (n : Int), .int .i64 (m : Int)] 73 (0, 0)) := by rw [hw3, hbi]; exact heap_alloc_new w2 _
  have q3 := (b3.block _ (Array.getElem?_eq_some_iff.1 q2).1).trans q2
  have zi : ρ2 bi = 0 := by rw [hbi]; exact h2.fr _ (Nat.le_refl _)
  have h3 := h2.below b3
  have G3' := G2'.trans (Gw.of (Kp.of_below b3))
  have HBI := hidn hbi
  have HW3 := hidn hw3
  have HPd : Hid (P = patL (seqR (pieceR (grpN k))) (l.length + 1) n m (l, L ++ [St.zero] ++ [St.zero])) := hidn (by rw [HPP.out, patN_eq, hn, hm]; rfl)
  have hnl : n < (L ++ [St.zero] ++ [St.zero]).length := by simp; omega
  have hml : m < (L ++ [St.zero] ++ [St.zero]).length := by simp; omega
  have hsz : siz (L ++ [St.zero] ++ [St.zero]) + 8 * l.length + 7 ≤ 100000 := by
    have : siz [St.zero] = 1 := rfl
    rw [siz_append, siz_append]; omega
  clear hbi hw3 h1 q1 G1' b3 hn hm e1 G2 G2' q2 h2
  go_wp2_with fail
  rw [← HW3.out, ← HBI.out]
  go_loopw [] (fun wr => ∃ (j : Nat) (R' : Rd) (ρ' : Nat → Nat), R'.1.length < j ∧ siz R'.2 + 8 * R'.1.length + 7 ≤ 100000 ∧ n < R'.2.length ∧ m < R'.2.length ∧ RDx wr r ρ' R' ∧ wr.heap[bi]? = some (.cells #[.int .i64 (n : Int), .int .i64 (m : Int)] 73 (0, 0)) ∧ wr.heap[A]? = some (.cells #[.int .i64 0, .int .i64 0] 73 (0, 0)) ∧ ρ' bi = 0 ∧ ρ' A = 0 ∧ Gw ρ ρ' w wr ∧ Hid (P = patL (seqR (pieceR (grpN k))) j n m R')) (fun wr => lenAt wr r)
  case atStart =>
    exact ⟨l.length + 1, (l, L ++ [St.zero] ++ [St.zero]), ρ2, by simp, hsz, hnl, hml, h3, qi3, q3, zi, z2, G3', HPd⟩
  case round =>
    obtain ⟨j, R', ρ', hj, hsz', hn', hm', hr, qi, q, zi', zA', G, HPj⟩ := hrel
    have hlen := hr.len
    go_wp2_with fail
    refine (sequence_any k d HKD.out HP r ρ' R' wr hr hsz').mono ?_
    rintro e w4 ⟨x, y, ok, ρ4, rfl, G4, hpp⟩
    obtain ⟨q4, z4⟩ := G4.blk q zA'
    obtain ⟨qi4, zi4⟩ := G4.blk qi zi'
    have G4' := G.trans G4
    cases hres : seqR (pieceR (grpN k)) R' with
    | none =>
      rw [hres] at hpp
      have : ok = false := hpp
      subst this
      have hPv : Hid (P = none) := hidn (by
        rw [HPj.out]
        cases j with
        | zero => rfl
        | succ j => simp only [patL]; rw [hres])
      have q5 : (w4.alloc (.cells #[.int .i64 (x : Int), .int .i64 (y : Int)] 73)).heap[A]? = some (.cells #[.int .i64 0, .int .i64 0] 73 (0, 0)) := (Below.heap_alloc _ _ _ (Array.getElem?_eq_some_iff.1 q4).1).trans q4
      obtain ⟨r0, r1, fr0, fr1, t0, t1, _, hG⟩ := fin2 q5 (.int .i64 0) (.int .i64 0)
      have HG := hidn (hG _ _ _ (G4'.trans (Gw.of ((Kp.refl _ w4).alloc _))) hAw)
      clear hG hpp
      go_wp2_with fail
      exact bodyPost_ret (v := .tuple #[.agg #[.int .i64 0, .int .i64 0], .bool false]) (by simp [results, Try.results41, go_sem, t0, t1]) rfl ⟨0, 0, false, ρ4, rfl, HG.out, by rw [hPv.out]; rfl⟩
    | some res =>
      obtain ⟨f4, t4, R4⟩ := res
      rw [hres] at hpp
      obtain ⟨rfl, rfl, rfl, h4⟩ := hpp
      have K := seq_kept (grpN_kept k) hres
      have hKf := K.f
      have hKt := K.t
      have hKl := K.le
      have hKc := K.cost
      have hKleft := K.left
      simp only at hKf hKt hKl hKc hKleft
      obtain ⟨bo, hbo⟩ : ∃ bo, bo = w4.heap.size := ⟨_, rfl⟩
      obtain ⟨w5, hw5⟩ : ∃ w5, w5 = w4.alloc (.cells #[.int .i64 (x : Int), .int .i64 (y : Int)] 73) := ⟨_, rfl⟩
      have b5 : Below w4.heap.size w4 w5 := by rw [hw5]; exact (Below.refl _ w4).alloc (Nat.le_refl _) _
      have qo5 : w5.heap[bo]? = some (.cells #[.int .i64 (x : Int), .int .i64 (y : Int)] 73 (0, 0)) := by rw [hw5, hbo]; exact heap_alloc_new w4 _
      have q5 := (b5.block _ (Array.getElem?_eq_some_iff.1 q4).1).trans q4
      have qi5 := (b5.block _ (Array.getElem?_eq_some_iff.1 qi4).1).trans qi4
      have zo : ρ4 bo = 0 := by rw [hbo]; exact h4.fr _ (Nat.le_refl _)
      have h5 := h4.below b5
      have G5' := G4'.trans (Gw.of (Kp.of_below b5))
      have ci0 : w5.cell? ⟨bi, 0, none⟩ = some (.int .i64 (n : Int)) := cell_of_row _ _ _ _ _ _ qi5
      have HBO := hidn hbo
      have HW5 := hidn hw5
      rw [hw5] at ci0
      have hszL : siz R4.2 ≤ 100000 := by omega
      have hnl4 : n < R4.2.length := by omega
      have hcost2 := siz_link R4.2 n x hnl4
      have hyl : y < (linkR R4.2 n x).length := by rw [linkR_length]; exact hKt
      have hcost3 := siz_link (linkR R4.2 n x) y m hyl
      clear hbo hw5 h4 b5 G4 G4' K hr
      go_wp2_with fail
      rw [← HW5.out]
      try rw [← HBO.out]
      refine (link_any r ρ4 R4 n x w5 h5 hszL hnl4).mono ?_
      rintro e w6 ⟨rfl, ρ6, h6, G6⟩
      obtain ⟨q6, z6⟩ := G6.blk q5 z4
      obtain ⟨qi6, zi6⟩ := G6.blk qi5 zi4
      obtain ⟨qo6, zo6⟩ := G6.blk qo5 zo
      have G6' := G5'.trans G6
      have co1 : w6.cell? ⟨bo, 1, none⟩ = some (.int .i64 (y : Int)) := cell_of_row _ _ _ _ _ _ qo6
      have ci6 : w6.cell? ⟨bi, 1, none⟩ = some (.int .i64 (m : Int)) := cell_of_row _ _ _ _ _ _ qi6
      clear h5 G5' G6 q5 qi5 qo5
      go_wp2_with fail
      refine (link_any r ρ6 (R4.1, linkR R4.2 n x) y m w6 h6 (by simp only; omega) hyl).mono ?_
      rintro e w7 ⟨rfl, ρ7, h7, G7⟩
      obtain ⟨q7, z7⟩ := G7.blk q6 z6
      obtain ⟨qi7, zi7⟩ := G7.blk qi6 zi6
      have G7' := G6'.trans G7
      clear h6 G6' G7 q6 qi6 qo6 co1 ci6
      go_wp2_with fail
      refine (take_any r ρ7 (R4.1, linkR (linkR R4.2 n x) y m) ⟨#[124]⟩ w7 (by decide) asc124 h7).mono ?_
      rintro e w8 ⟨rfl, h8, G8⟩
      obtain ⟨q8, _⟩ := G8.blk q7 z7
      obtain ⟨qi8, _⟩ := G8.blk qi7 zi7
      have G8' := G7'.trans G8
      clear h7 G7' G8 q7 qi7
      cases hat : atR [124] R4.1 with
      | false =>
        have e0 : atR (ptsOf ⟨#[124]⟩) (R4.1, linkR (linkR R4.2 n x) y m).1 = false := hat
        rw [e0] at h8 ⊢
        have h8' : RDx w8 r ρ7 (R4.1, linkR (linkR R4.2 n x) y m) := h8
        have hPv : Hid (P = some (n, m, R4.1, linkR (linkR R4.2 n x) y m)) := hidn (by
          rw [HPj.out]
          cases j with
          | zero => omega
          | succ j => simp only [patL]; rw [hres]; simp only [takeR_at hat]; rfl)
        have ci0 : w8.cell? ⟨bi, 0, none⟩ = some (.int .i64 (n : Int)) := cell_of_row _ _ _ _ _ _ qi8
        have ci1 : w8.cell? ⟨bi, 1, none⟩ = some (.int .i64 (m : Int)) := cell_of_row _ _ _ _ _ _ qi8
        obtain ⟨r0, r1, fr0, fr1, t0, t1, hR', hG⟩ := fin2 q8 (.int .i64 (n : Int)) (.int .i64 (m : Int))
        have HF := hidn (hR' r ρ7 _ h8' (by decide) z7)
        have HG9 := hidn (hG _ _ _ G8' hAw)
        clear hR' hG e0 hat h8 h8'
        go_wp2_with fail
        exact bodyPost_ret (v := .tuple #[.agg #[.int .i64 (n : Int), .int .i64 (m : Int)], .bool true]) (by simp [results, Try.results41, go_sem, t0, t1]) rfl ⟨n, m, true, ρ7, rfl, HG9.out, by rw [hPv.out]; exact ⟨rfl, rfl, rfl, HF.out⟩⟩
      | true =>
        have e0 : atR (ptsOf ⟨#[124]⟩) (R4.1, linkR (linkR R4.2 n x) y m).1 = true := hat
        rw [e0] at h8 ⊢
        have h8' : RDx w8 r ρ7 (R4.1.tail, linkR (linkR R4.2 n x) y m) := h8
        have htl : R4.1.tail.length + 1 = R4.1.length := by
          cases hl : R4.1 with
          | nil => rw [hl] at hat; cases hat
          | cons a t => simp
        have hPv : Hid (P = patL (seqR (pieceR (grpN k))) (j - 1) n m (R4.1.tail, linkR (linkR R4.2 n x) y m)) := hidn (by
          rw [HPj.out]
          cases j with
          | zero => omega
          | succ j => simp only [patL]; rw [hres]; simp only [takeR_at hat]; rfl)
        have hdec : Hid (lenAt w8 r < lenAt wr r) := hidn (by
          rw [h8'.len, hlen]
          simp only
          omega)
        clear e0 hat h8 hlen hres
        go_wp2_with fail
        exact ⟨⟨j - 1, (R4.1.tail, linkR (linkR R4.2 n x) y m), ρ7, by simp only; omega, by simp only; omega, by simp only [linkR_length]; omega, by simp only [linkR_length]; omega, h8', qi8, q8, zi7, z7, G8', hPv⟩, hdec.out⟩
theorem pattern_any (k : Nat) : ∀ d, d + k = 10 → PatC k d := by
  induction k with
  | zero => intro d hd; exact pattern_step 0 d hd (fun k' hk => by cases hk)
  | succ k ih => intro d hd; exact pattern_step (k + 1) d hd (fun k' hk => by cases hk; exact ih (d + 1) (by omega))
end Go.Proofs.Ytdgkjiiegmnjfaa
