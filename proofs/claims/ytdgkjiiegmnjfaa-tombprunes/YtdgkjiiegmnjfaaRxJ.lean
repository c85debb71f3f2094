/- sequence. -/
import Derived.Test.YtdgkjiiegmnjfaaRxI
namespace Go.Proofs.Ytdgkjiiegmnjfaa
open Go.RowKit Go.Joins
set_option linter.unusedVariables false
theorem ascBar : AscS ⟨#[124, 41]⟩ := by unfold AscS; decide

set_option maxHeartbeats 4000000 in
set_option maxRecDepth 100000 in
theorem sequence_any (k d : Nat) (hkd : d + k = 10) (HP : ∀ k', k = k' + 1 → PatC k' (d + 1)) (r : Nat) (ρ : Nat → Nat) (R : Rd) (w : World) (h : RDx w r ρ R) (hb : siz R.2 + 8 * R.1.length + 7 ≤ 100000) :
    Calls Try.prog 45 #[.pointer (some ⟨r, 0, none⟩), .int .i64 (d : Int)] w fun e w' => ∃ (x y : Nat) (ok : Bool) (ρ' : Nat → Nat), e = .returned (.tuple #[.agg #[.int .i64 (x : Int), .int .i64 (y : Int)], .bool ok]) ∧ Gw ρ ρ' w w' ∧ PartPost (seqR (pieceR (grpN k)) R) r ρ' w' x y ok := by
  obtain ⟨l, L⟩ := R
  simp only at hb
  obtain ⟨wA, hwA⟩ : ∃ wA, wA = w.alloc (.cells #[.int .i64 0, .int .i64 0] 73) := ⟨_, rfl⟩
  have bA : Below w.heap.size w wA := by rw [hwA]; exact (Below.refl _ w).alloc (Nat.le_refl _) _
  have qA : wA.heap[w.heap.size]? = some (.cells #[.int .i64 0, .int .i64 0] 73 (0, 0)) := by rw [hwA]; exact heap_alloc_new w _
  have hA := h.below bA
  have zA : ρ w.heap.size = 0 := h.fr _ (Nat.le_refl _)
  obtain ⟨A, hAe⟩ : ∃ A, A = w.heap.size := ⟨_, rfl⟩
  have hAw : w.heap.size ≤ A := by omega
  have HAA := hidn hAe
  have HWA := hidn hwA
  have HKD := hidn hkd
  have G0 : Gw ρ ρ w wA := Gw.of (Kp.of_below bA)
  rw [← hAe] at qA zA
  obtain ⟨P, hP⟩ : ∃ P, P = seqR (pieceR (grpN k)) (l, L) := ⟨_, rfl⟩
  rw [← hP]
  have HPP := hidn hP
  clear hAe hwA bA h hkd hP
  go_enter Try.func45, Try.ntmps45
  go_wp2_with fail
  rw [← HWA.out, ← HAA.out]
  refine (state_any r ρ (l, L) wA hA (by simp only; omega)).mono ?_
  rintro e w1 ⟨rfl, ρ1, h1, G1⟩
  obtain ⟨q1, z1⟩ := G1.blk qA zA
  have G1' := G0.trans G1
  simp only
  obtain ⟨n, hn⟩ : ∃ n, n = L.length := ⟨_, rfl⟩
  rw [← hn]
  obtain ⟨bi, hbi⟩ : ∃ bi, bi = w1.heap.size := ⟨_, rfl⟩
  obtain ⟨w2, hw2⟩ : ∃ w2, w2 = w1.alloc (.cells #[.int .i64 (n : Int), .int .i64 (n : Int)] 73) := ⟨_, rfl⟩
  have b2 : Below w1.heap.size w1 w2 := by rw [hw2]; exact (Below.refl _ w1).alloc (Nat.le_refl _) _
  have qi2 : w2.heap[bi]? = some (.cells #[.int .i64 (n : Int), .int .i64 (n : Int)] 73 (0, 0)) := by rw [hw2, hbi]; exact heap_alloc_new w1 _
  have q2 := (b2.block _ (Array.getElem?_eq_some_iff.1 q1).1).trans q1
  have zi : ρ1 bi = 0 := by rw [hbi]; exact h1.fr _ (Nat.le_refl _)
  have h2 := h1.below b2
  have G2' := G1'.trans (Gw.of (Kp.of_below b2))
  have hAbi : A ≠ bi := by have := (Array.getElem?_eq_some_iff.1 q1).1; omega
  have hbiw : w.heap.size ≤ bi := by rw [hbi]; exact G1'.1.size
  have HBI := hidn hbi
  have HW2 := hidn hw2
  have HN := hidn hn
  have HPd : Hid (P = seqL (pieceR (grpN k)) (l.length + 1) n n (l, L ++ [St.zero])) := hidn (by rw [HPP.out, hn]; rfl)
  have hnl : n < (L ++ [St.zero]).length := by simp; omega
  have hsz : siz (L ++ [St.zero]) + 8 * l.length + 5 ≤ 100000 := by
    have : siz [St.zero] = 1 := rfl
    rw [siz_append]; omega
  clear hbi hw2 h1 q1 G1 G1' b2 hn
  go_wp2_with fail
  rw [← HW2.out, ← HBI.out]
  go_loopw [] (fun wr => ∃ (j : Nat) (R' : Rd) (t : Nat) (ρ' : Nat → Nat), R'.1.length < j ∧ siz R'.2 + 8 * R'.1.length + 5 ≤ 100000 ∧ n < R'.2.length ∧ t < R'.2.length ∧ RDx wr r ρ' R' ∧ wr.heap[bi]? = some (.cells #[.int .i64 (n : Int), .int .i64 (t : Int)] 73 (0, 0)) ∧ wr.heap[A]? = some (.cells #[.int .i64 0, .int .i64 0] 73 (0, 0)) ∧ ρ' bi = 0 ∧ ρ' A = 0 ∧ Gw ρ ρ' w wr ∧ Hid (P = seqL (pieceR (grpN k)) j n t R')) (fun wr => lenAt wr r)
  case atStart =>
    exact ⟨l.length + 1, (l, L ++ [St.zero]), n, ρ1, by simp, hsz, hnl, hnl, h2, qi2, q2, zi, z1, G2', HPd⟩
  case round =>
    obtain ⟨j, R', t, ρ', hj, hsz', hn', ht', hr, qi, q, zi', zA', G, HPj⟩ := hrel
    have hlen := hr.len
    obtain ⟨l', L'⟩ := R'
    simp only at hj hsz' hn' ht' hlen
    obtain ⟨la, lc, sv, V, hrd⟩ := hr
    have hl1000 := hrd.sig.1
    have c0 : wr.cell? ⟨r, 0, none⟩ = some (.slice la l'.length lc) := cell_of_row _ _ _ _ _ _ hrd.blk
    have hr : RDx wr r ρ' (l', L') := ⟨_, _, _, _, hrd⟩
    simp only at hl1000
    clear hrd
    by_cases h0 : l'.length = 0
    · have hPv : Hid (P = some (n, t, l', L')) := hidn (by
        rw [HPj.out]
        cases j with
        | zero => omega
        | succ j => simp only [seqL]; rw [if_pos (Or.inl h0)])
      rw [h0] at c0
      have ci0 : wr.cell? ⟨bi, 0, none⟩ = some (.int .i64 (n : Int)) := cell_of_row _ _ _ _ _ _ qi
      have ci1 : wr.cell? ⟨bi, 1, none⟩ = some (.int .i64 (t : Int)) := cell_of_row _ _ _ _ _ _ qi
      obtain ⟨r0, r1, fr0, fr1, t0, t1, hR', hG⟩ := fin2 q (.int .i64 (n : Int)) (.int .i64 (t : Int))
      have HF := hidn (hR' r ρ' _ hr (by decide) zA')
      have HG9 := hidn (hG _ _ _ G hAw)
      clear hR' hG
      go_wp2_with fail
      exact bodyPost_ret (v := .tuple #[.agg #[.int .i64 (n : Int), .int .i64 (t : Int)], .bool true]) (by simp [results, Try.results45, go_sem, t0, t1]) rfl ⟨n, t, true, ρ', rfl, HG9.out, by rw [hPv.out]; exact ⟨rfl, rfl, rfl, HF.out⟩⟩
    · obtain ⟨nl, hnl⟩ : ∃ nl, nl = l'.length := ⟨_, rfl⟩
      rw [← hnl] at c0
      have g1 : (0 : Int) < (nl : Int) := by omega
      have g2 : 0 < nl := by omega
      have HNL := hidn hnl
      clear hnl
      go_wp2_with fail
      refine (isAt_any r ρ' (l', L') ⟨#[124, 41]⟩ wr (by decide) ascBar hr).mono ?_
      rintro e w3 ⟨rfl, b3⟩
      have h3 := hr.below b3
      have q3 := (b3.block _ (Array.getElem?_eq_some_iff.1 q).1).trans q
      have qi3 := (b3.block _ (Array.getElem?_eq_some_iff.1 qi).1).trans qi
      have G3' := G.trans (Gw.of (Kp.of_below b3))
      cases hat : atR [124, 41] l' with
      | true =>
        have e0 : atR (ptsOf ⟨#[124, 41]⟩) (l', L').1 = true := hat
        rw [e0]
        have hPv : Hid (P = some (n, t, l', L')) := hidn (by
          rw [HPj.out]
          cases j with
          | zero => omega
          | succ j => simp only [seqL]; rw [if_pos (Or.inr hat)])
        clear e0 hat
        have ci0 : w3.cell? ⟨bi, 0, none⟩ = some (.int .i64 (n : Int)) := cell_of_row _ _ _ _ _ _ qi3
        have ci1 : w3.cell? ⟨bi, 1, none⟩ = some (.int .i64 (t : Int)) := cell_of_row _ _ _ _ _ _ qi3
        obtain ⟨r0, r1, fr0, fr1, t0, t1, hR', hG⟩ := fin2 q3 (.int .i64 (n : Int)) (.int .i64 (t : Int))
        have HF := hidn (hR' r ρ' _ h3 (by decide) zA')
        have HG9 := hidn (hG _ _ _ G3' hAw)
        clear hR' hG
        go_wp2_with fail
        exact bodyPost_ret (v := .tuple #[.agg #[.int .i64 (n : Int), .int .i64 (t : Int)], .bool true]) (by simp [results, Try.results45, go_sem, t0, t1]) rfl ⟨n, t, true, ρ', rfl, HG9.out, by rw [hPv.out]; exact ⟨rfl, rfl, rfl, HF.out⟩⟩
      | false =>
        have e0 : atR (ptsOf ⟨#[124, 41]⟩) (l', L').1 = false := hat
        rw [e0]
        clear e0
        go_wp2_with fail
        refine (piece_any k d HKD.out HP r ρ' (l', L') w3 h3 (by simp only; omega)).mono ?_
        rintro e w4 ⟨x, y, ok, ρ4, rfl, G4, hpp⟩
        obtain ⟨q4, z4⟩ := G4.blk q3 zA'
        obtain ⟨qi4, zi4⟩ := G4.blk qi3 zi'
        have G4' := G3'.trans G4
        have hcond : ¬ (l'.length = 0 ∨ atR [124, 41] l' = true) := by
          rintro (h | h)
          · exact h0 h
          · rw [hat] at h; cases h
        cases hres : pieceR (grpN k) (l', L') with
        | none =>
          rw [hres] at hpp
          have : ok = false := hpp
          subst this
          have hPv : Hid (P = none) := hidn (by
            rw [HPj.out]
            cases j with
            | zero => rfl
            | succ j => simp only [seqL]; rw [if_neg hcond, hres])
          have q5 : (w4.alloc (.cells #[.int .i64 (x : Int), .int .i64 (y : Int)] 73)).heap[A]? = some (.cells #[.int .i64 0, .int .i64 0] 73 (0, 0)) := (Below.heap_alloc _ _ _ (Array.getElem?_eq_some_iff.1 q4).1).trans q4
          obtain ⟨r0, r1, fr0, fr1, t0, t1, _, hG⟩ := fin2 q5 (.int .i64 0) (.int .i64 0)
          have HG := hidn (hG _ _ _ (G4'.trans (Gw.of ((Kp.refl _ w4).alloc _))) hAw)
          clear hG hpp hcond
          go_wp2_with fail
          exact bodyPost_ret (v := .tuple #[.agg #[.int .i64 0, .int .i64 0], .bool false]) (by simp [results, Try.results45, go_sem, t0, t1]) rfl ⟨0, 0, false, ρ4, rfl, HG.out, by rw [hPv.out]; rfl⟩
        | some res =>
          obtain ⟨f4, t4, R4⟩ := res
          rw [hres] at hpp
          obtain ⟨rfl, rfl, rfl, h4⟩ := hpp
          obtain ⟨K, hcost, hlt⟩ := piece_kept (grpN_kept k) hres
          have hKf := K.f
          have hKt := K.t
          have hKl := K.le
          simp only at hKf hKt hcost hlt hKl
          have hPv : Hid (P = seqL (pieceR (grpN k)) (j - 1) n y (R4.1, linkR R4.2 t x)) := hidn (by
            rw [HPj.out]
            cases j with
            | zero => omega
            | succ j => simp only [seqL]; rw [if_neg hcond, hres]; rfl)
          obtain ⟨bo, hbo⟩ : ∃ bo, bo = w4.heap.size := ⟨_, rfl⟩
          obtain ⟨w5, hw5⟩ : ∃ w5, w5 = w4.alloc (.cells #[.int .i64 (x : Int), .int .i64 (y : Int)] 73) := ⟨_, rfl⟩
          have b5 : Below w4.heap.size w4 w5 := by rw [hw5]; exact (Below.refl _ w4).alloc (Nat.le_refl _) _
          have qo5 : w5.heap[bo]? = some (.cells #[.int .i64 (x : Int), .int .i64 (y : Int)] 73 (0, 0)) := by rw [hw5, hbo]; exact heap_alloc_new w4 _
          have q5 := (b5.block _ (Array.getElem?_eq_some_iff.1 q4).1).trans q4
          have qi5 := (b5.block _ (Array.getElem?_eq_some_iff.1 qi4).1).trans qi4
          have zo : ρ4 bo = 0 := by rw [hbo]; exact h4.fr _ (Nat.le_refl _)
          have h5 := h4.below b5
          have G5' := G4'.trans (Gw.of (Kp.of_below b5))
          have ci1 : w5.cell? ⟨bi, 1, none⟩ = some (.int .i64 (t : Int)) := cell_of_row _ _ _ _ _ _ qi5
          have co0 : w5.cell? ⟨bo, 0, none⟩ = some (.int .i64 (x : Int)) := cell_of_row _ _ _ _ _ _ qo5
          have HBO := hidn hbo
          have HW5 := hidn hw5
          rw [hw5] at ci1
          have hszL : siz R4.2 ≤ 100000 := by omega
          have htl : t < R4.2.length := by omega
          have hcost2 := siz_link R4.2 t x htl
          clear hbo hw5 h4 b5 G4 hcond hat hres HPj K b3 h3 hr
          go_wp2_with fail
          rw [← HW5.out]
          try rw [← HBO.out]
          refine (link_any r ρ4 R4 t x w5 h5 hszL htl).mono ?_
          rintro e w6 ⟨rfl, ρ6, h6, G6⟩
          obtain ⟨q6, z6⟩ := G6.blk q5 z4
          obtain ⟨qi6, zi6⟩ := G6.blk qi5 zi4
          obtain ⟨qo6, _⟩ := G6.blk qo5 zo
          have G6' := G5'.trans G6
          have co1 : w6.cell? ⟨bo, 1, none⟩ = some (.int .i64 (y : Int)) := cell_of_row _ _ _ _ _ _ qo6
          have ci6 : w6.cell? ⟨bi, 1, none⟩ = some (.int .i64 (t : Int)) := cell_of_row _ _ _ _ _ _ qi6
          have fi6 : w6.frozen? ⟨bi, 1, none⟩ = false := unfrozen_of_block qi6 _
          have H7 := hidn (h6.loc qi6 (by decide) zi6 1 (.int .i64 (y : Int)))
          have HI7 := hidn (block_setCell (i := 1) qi6 (.int .i64 (y : Int)))
          have HQ7 : Hid ((w6.setCell ⟨bi, 1, none⟩ (.int .i64 (y : Int))).heap[A]? = some (.cells #[.int .i64 0, .int .i64 0] 73 (0, 0))) := hidn (by rw [Below.heap_setCell _ _ _ _ hAbi]; exact q6)
          have HG7 := hidn (G6'.loc (k := bi) hbiw 1 (.int .i64 (y : Int)))
          have hdec : Hid (lenAt (w6.setCell ⟨bi, 1, none⟩ (.int .i64 (y : Int))) r < lenAt wr r) := hidn (by
            rw [H7.out.len, hlen]
            exact hlt)
          clear h6 G6 G6' h5 G5' hlen
          go_wp2_with fail
          exact ⟨⟨j - 1, (R4.1, linkR R4.2 t x), y, ρ6, by simp only; omega, by simp only; omega, by simp only [linkR_length]; omega, by simp only [linkR_length]; omega, H7.out, by simpa using HI7.out, HQ7.out, zi6, z6, HG7.out, hPv⟩, hdec.out⟩
end Go.Proofs.Ytdgkjiiegmnjfaa
