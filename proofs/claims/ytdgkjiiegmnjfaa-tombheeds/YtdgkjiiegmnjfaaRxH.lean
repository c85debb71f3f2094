/- atom. -/
import Derived.Test.YtdgkjiiegmnjfaaRxG
namespace Go.Proofs.Ytdgkjiiegmnjfaa
open Go.RowKit Go.Joins
set_option linter.unusedVariables false
theorem asc40 : AscS ⟨#[40]⟩ := by unfold AscS; decide
theorem asc91 : AscS ⟨#[91]⟩ := by unfold AscS; decide
theorem asc46 : AscS ⟨#[46]⟩ := by unfold AscS; decide
theorem ascBut : AscS ⟨#[42, 43, 63, 124, 40, 41, 91]⟩ := by unfold AscS; decide
theorem PartPost.put {c : Option Res} {r : Nat} {ρ : Nat → Nat} {w w' : World} {x y : Nat} {ok : Bool} (h : PartPost c r ρ w x y ok) (f : ∀ R, RDx w r ρ R → RDx w' r ρ R) : PartPost c r ρ w' x y ok := by
  cases c with
  | none => exact h
  | some v => exact ⟨h.1, h.2.1, h.2.2.1, f _ h.2.2.2⟩
theorem Gx.blk {v : Value} {ρ ρ' : Nat → Nat} {w w' : World} (h : Gx v ρ ρ' w w') {k : Nat} {x : Obj} (hk : w.heap[k]? = some x) (h0 : ρ k = 0) (hv : v.ownBlock ≠ some k) : w'.heap[k]? = some x ∧ ρ' k = 0 := by
  have hlt : k < w.heap.size := (Array.getElem?_eq_some_iff.1 hk).1
  exact ⟨(h.1.block k hlt (by rintro (e | e); exact e h0; exact hv e)).trans hk, (h.2 k hlt hv).trans h0⟩
theorem own_one (w : World) (a : Int) : (w.alloc (.cells #[.int .i32 a, .int .i32 a] 101)).ownsRow 0 101 2 (.slice (some ⟨w.heap.size, 0, none⟩) 1 1) 1 (vspans [(a, a)]) :=
  ⟨rfl, .inr ⟨w.heap.size, 1, #[.int .i32 a, .int .i32 a], rfl, Nat.zero_le _, heap_alloc_new w _, Nat.le_refl _, by decide, rfl, rfl⟩⟩
theorem takeR_at {pts : List Int} {l : List Sg} {b : Bool} (h : atR pts l = b) : takeR pts l = if b = true then some l.tail else none := by unfold takeR; rw [h]

set_option maxHeartbeats 4000000 in
set_option maxRecDepth 100000 in
theorem atom_any (k d : Nat) (hkd : d + k = 10) (HP : ∀ k', k = k' + 1 → PatC k' (d + 1)) (r : Nat) (ρ : Nat → Nat) (R : Rd) (w : World) (h : RDx w r ρ R) (hb : siz R.2 + 8 * R.1.length + 5 ≤ 100000) :
    Calls Try.prog 53 #[.pointer (some ⟨r, 0, none⟩), .int .i64 (d : Int)] w fun e w' => ∃ (x y : Nat) (ok : Bool) (ρ' : Nat → Nat), e = .returned (.tuple #[.agg #[.int .i64 (x : Int), .int .i64 (y : Int)], .bool ok]) ∧ Gw ρ ρ' w w' ∧ PartPost (atomR (grpN k) R) r ρ' w' x y ok := by
  have EN : ∀ args w, (callFunc 58 args).run Try.prog w = .ok (.enter 58 args) w := enters_of Try.func58 (by kernel_rfl) rfl
  obtain ⟨l, L⟩ := R
  simp only at hb
  obtain ⟨wA, hwA⟩ : ∃ wA, wA = w.alloc (.cells #[.int .i64 0, .int .i64 0] 73) := ⟨_, rfl⟩
  have bA : Below w.heap.size w wA := by rw [hwA]; exact (Below.refl _ w).alloc (Nat.le_refl _) _
  have qA : wA.heap[w.heap.size]? = some (.cells #[.int .i64 0, .int .i64 0] 73 (0, 0)) := by rw [hwA]; exact heap_alloc_new w _
  have hA := h.below bA
  have zA : ρ w.heap.size = 0 := h.fr _ (Nat.le_refl _)
  obtain ⟨A, hAe⟩ : ∃ A, A = w.heap.size := ⟨_, rfl⟩
  have hAw : w.heap.size ≤ A := by omega
  have HAA := hidn hAe
  have HWA := hidn hwA
  have HKD := hidn hkd
  have G0 : Gw ρ ρ w wA := Gw.of (Kp.of_below bA)
  rw [← hAe] at qA zA
  clear hAe hwA bA h hkd
  go_enter Try.func53, Try.ntmps53
  go_wp2_with fail
  rw [← HWA.out, ← HAA.out]
  refine (take_any r ρ (l, L) ⟨#[40]⟩ wA (by decide) asc40 hA).mono ?_
  rintro e w1 ⟨rfl, h1, G1⟩
  obtain ⟨q1, z1⟩ := G1.blk qA zA
  have G1' := G0.trans G1
  cases hat : atR [40] l with
  | true =>
    have e0 : atR (ptsOf ⟨#[40]⟩) (l, L).1 = true := hat
    rw [e0] at h1 ⊢
    have hR : Hid (atomR (grpN k) (l, L) = groupR (grpN k) (l.tail, L)) := hidn (by
      unfold atomR
      simp only [takeR_at hat]
      rfl)
    have hne : l.tail.length + 1 = l.length := by
      cases l with
      | nil => cases hat
      | cons a t => simp
    clear e0 hat
    go_wp2_with fail
    refine (group_any k d HKD.out HP r ρ (l.tail, L) w1 h1 (by simp only; omega)).mono ?_
    rintro e w2 ⟨x, y, ok, ρ2, rfl, G2, hpp⟩
    obtain ⟨q2, z2⟩ := G2.blk q1 z1
    obtain ⟨r0, r1, fr0, fr1, t0, t1, hR', hG⟩ := fin2 q2 (.int .i64 (x : Int)) (.int .i64 (y : Int))
    have HPP := hidn (hpp.put (fun R h => hR' r ρ2 R h (by decide) z2))
    have HG9 := hidn (hG _ _ _ (G1'.trans G2) hAw)
    clear hR' hG
    go_wp2_with fail
    exact bodyPost_ret (v := .tuple #[.agg #[.int .i64 (x : Int), .int .i64 (y : Int)], .bool ok]) (by simp [results, Try.results53, go_sem, t0, t1]) rfl ⟨x, y, ok, ρ2, rfl, HG9.out, by rw [hR.out]; exact HPP.out⟩
  | false =>
    have e0 : atR (ptsOf ⟨#[40]⟩) (l, L).1 = false := hat
    rw [e0] at h1 ⊢
    have h1' : RDx w1 r ρ (l, L) := h1
    have hR1 : Hid (takeR [40] l = none) := hidn (by rw [takeR_at hat]; rfl)
    clear e0 hat h1
    go_wp2_with fail
    refine (take_any r ρ (l, L) ⟨#[91]⟩ w1 (by decide) asc91 h1').mono ?_
    rintro e w2 ⟨rfl, h2, G2⟩
    obtain ⟨q2, z2⟩ := G2.blk q1 z1
    have G2' := G1'.trans G2
    cases hat : atR [91] l with
    | true =>
      have e0 : atR (ptsOf ⟨#[91]⟩) (l, L).1 = true := hat
      rw [e0] at h2 ⊢
      have hR : Hid (atomR (grpN k) (l, L) = classR (l.tail, L)) := hidn (by
        unfold atomR
        simp only [hR1.out, takeR_at hat]
        rfl)
      clear e0 hat
      go_wp2_with fail
      refine (rx_class_any r ρ (l.tail, L) w2 h2 (by simp only; omega)).mono ?_
      rintro e w3 ⟨x, y, ok, ρ3, rfl, G3, hpp⟩
      obtain ⟨q3, z3⟩ := G3.blk q2 z2
      obtain ⟨r0, r1, fr0, fr1, t0, t1, hR', hG⟩ := fin2 q3 (.int .i64 (x : Int)) (.int .i64 (y : Int))
      have HPP := hidn (hpp.put (fun R h => hR' r ρ3 R h (by decide) z3))
      have HG9 := hidn (hG _ _ _ (G2'.trans G3) hAw)
      clear hR' hG
      go_wp2_with fail
      exact bodyPost_ret (v := .tuple #[.agg #[.int .i64 (x : Int), .int .i64 (y : Int)], .bool ok]) (by simp [results, Try.results53, go_sem, t0, t1]) rfl ⟨x, y, ok, ρ3, rfl, HG9.out, by rw [hR.out]; exact HPP.out⟩
    | false =>
      have e0 : atR (ptsOf ⟨#[91]⟩) (l, L).1 = false := hat
      rw [e0] at h2 ⊢
      have h2' : RDx w2 r ρ (l, L) := h2
      have hR2 : Hid (takeR [91] l = none) := hidn (by rw [takeR_at hat]; rfl)
      clear e0 hat h2
      go_wp2_with fail
      refine (take_any r ρ (l, L) ⟨#[46]⟩ w2 (by decide) asc46 h2').mono ?_
      rintro e w3 ⟨rfl, h3, G3⟩
      obtain ⟨q3, z3⟩ := G3.blk q2 z2
      have G3' := G2'.trans G3
      cases hat : atR [46] l with
      | true =>
        have e0 : atR (ptsOf ⟨#[46]⟩) (l, L).1 = true := hat
        rw [e0] at h3 ⊢
        have h3' : RDx w3 r ρ (l.tail, L) := h3
        have hR : Hid (atomR (grpN k) (l, L) = some (L.length, L.length + 1, l.tail, stepR L true [])) := hidn (by
          unfold atomR
          simp only [hR1.out, hR2.out, takeR_at hat]
          rfl)
        clear e0 hat h3
        go_wp2_with fail
        refine (step_any r ρ (l.tail, L) true (.slice none 0 0) [] w3 h3' (by simp only; omega) ⟨World.ownsRow_nil _ _ _ _, fun g hg => by simp [Value.ownBlock] at hg⟩).mono ?_
        rintro e w9 ⟨rfl, ρ9, h9, G9⟩
        obtain ⟨q9, z9⟩ := G9.blk q3 z3 (by simp [Value.ownBlock])
        have G9' := G9.after G3' (fun k hk => by simp [Value.ownBlock] at hk)
        simp only
        obtain ⟨n, hn⟩ : ∃ n, n = L.length := ⟨_, rfl⟩
        obtain ⟨m, hm⟩ : ∃ m, m = L.length + 1 := ⟨_, rfl⟩
        rw [← hm, ← hn]
        obtain ⟨r0, r1, fr0, fr1, t0, t1, hR', hG⟩ := fin2 q9 (.int .i64 (n : Int)) (.int .i64 (m : Int))
        have HF := hidn (hR' r ρ9 _ h9 (by decide) z9)
        have HG9 := hidn (hG _ _ _ G9' hAw)
        have HN := hidn hn
        have HM := hidn hm
        clear hR' hG hn hm h9 G9 G9'
        go_wp2_with fail
        exact bodyPost_ret (v := .tuple #[.agg #[.int .i64 (n : Int), .int .i64 (m : Int)], .bool true]) (by simp [results, Try.results53, go_sem, t0, t1]) rfl ⟨n, m, Or.inr ⟨rfl, ρ9, HG9.out, by rw [hR.out]; exact ⟨rfl, HN.out, HM.out, HF.out⟩⟩⟩
      | false =>
        have e0 : atR (ptsOf ⟨#[46]⟩) (l, L).1 = false := hat
        rw [e0] at h3 ⊢
        have h3' : RDx w3 r ρ (l, L) := h3
        have hR3 : Hid (takeR [46] l = none) := hidn (by rw [takeR_at hat]; rfl)
        clear e0 hat h3
        cases hpt : pointR [42, 43, 63, 124, 40, 41, 91] l with
        | none =>
          have hR : Hid (atomR (grpN k) (l, L) = none) := hidn (by
            unfold atomR
            simp only [hR1.out, hR2.out, hR3.out, hpt])
          go_wp2_with fail
          refine (point_none r ρ (l, L) ⟨#[42, 43, 63, 124, 40, 41, 91]⟩ w3 (by decide) ascBut h3' hpt).mono ?_
          rintro e w4 ⟨rfl, h4, G4⟩
          obtain ⟨q4, z4⟩ := G4.blk q3 z3
          have G4' := G3'.trans G4
          have hwz : Hid (ρ w4.heap.size = 0) := hidn (h4.fr _ (Nat.le_refl _))
          obtain ⟨w5, hw5⟩ : ∃ w5, w5 = w4.alloc (.cells #[.int .i32 0, .int .i32 0] 101) := ⟨_, rfl⟩
          have b5 : Below w4.heap.size w4 w5 := by rw [hw5]; exact (Below.refl _ w4).alloc (Nat.le_refl _) _
          have own5 : Own w5 ρ 101 2 0 (.slice (some ⟨w4.heap.size, 0, none⟩) 1 1) [(0, 0)].length (vspans [(0, 0)]) := ⟨by rw [hw5]; exact own_one w4 0, fun g hg => by simp only [Value.ownBlock, Option.some.injEq] at hg; subst hg; exact hwz.out⟩
          have q5 := (b5.block _ (Array.getElem?_eq_some_iff.1 q4).1).trans q4
          have hA4 := (Array.getElem?_eq_some_iff.1 q4).1
          have h5 := h4.below b5
          have G5' := G4'.trans (Gw.of (Kp.of_below b5))
          have hsz4 : Hid (w.heap.size ≤ w4.heap.size) := hidn G4'.1.size
          have HW5 := hidn hw5
          clear hw5 h4 G4 b5
          go_wp2_with fail
          rw [← HW5.out]
          refine (step_any r ρ (l, L) false (.slice (some ⟨w4.heap.size, 0, none⟩) 1 1) [(0, 0)] w5 h5 (by simp only; omega) own5).mono ?_
          rintro e w9 ⟨rfl, ρ9, h9, G9⟩
          obtain ⟨q9, z9⟩ := G9.blk q5 z4 (by simp only [Value.ownBlock, ne_eq, Option.some.injEq]; omega)
          have G9' := G9.after G5' (fun k hk => by simp only [Value.ownBlock, Option.some.injEq] at hk; subst hk; exact hsz4.out)
          simp only
          obtain ⟨n, hn⟩ : ∃ n, n = L.length := ⟨_, rfl⟩
          obtain ⟨m, hm⟩ : ∃ m, m = L.length + 1 := ⟨_, rfl⟩
          rw [← hm, ← hn]
          obtain ⟨r0, r1, fr0, fr1, t0, t1, hR', hG⟩ := fin2 q9 (.int .i64 (n : Int)) (.int .i64 (m : Int))
          have HF := hidn (hR' r ρ9 _ h9 (by decide) z9)
          have HG9 := hidn (hG _ _ _ G9' hAw)
          have HN := hidn hn
          have HM := hidn hm
          clear hR' hG hn hm h9 G9 G9'
          go_wp2_with fail
          exact bodyPost_ret (v := .tuple #[.agg #[.int .i64 (n : Int), .int .i64 (m : Int)], .bool false]) (by simp [results, Try.results53, go_sem, t0, t1]) rfl ⟨n, m, Or.inl ⟨rfl, ρ9, HG9.out, by rw [hR.out]; exact rfl⟩⟩
        | some al =>
          obtain ⟨a, l1⟩ := al
          have hR : Hid (atomR (grpN k) (l, L) = some (L.length, L.length + 1, l1, stepR L false [(a, a)])) := hidn (by
            unfold atomR
            simp only [hR1.out, hR2.out, hR3.out, hpt])
          go_wp2_with fail
          refine (point_some r ρ (l, L) ⟨#[42, 43, 63, 124, 40, 41, 91]⟩ w3 a l1 (by decide) ascBut h3' hpt).mono ?_
          rintro e w4 ⟨rfl, h4, G4⟩
          obtain ⟨q4, z4⟩ := G4.blk q3 z3
          have G4' := G3'.trans G4
          have hwz : Hid (ρ w4.heap.size = 0) := hidn (h4.fr _ (Nat.le_refl _))
          obtain ⟨w5, hw5⟩ : ∃ w5, w5 = w4.alloc (.cells #[.int .i32 a, .int .i32 a] 101) := ⟨_, rfl⟩
          have b5 : Below w4.heap.size w4 w5 := by rw [hw5]; exact (Below.refl _ w4).alloc (Nat.le_refl _) _
          have own5 : Own w5 ρ 101 2 0 (.slice (some ⟨w4.heap.size, 0, none⟩) 1 1) [(a, a)].length (vspans [(a, a)]) := ⟨by rw [hw5]; exact own_one w4 a, fun g hg => by simp only [Value.ownBlock, Option.some.injEq] at hg; subst hg; exact hwz.out⟩
          have q5 := (b5.block _ (Array.getElem?_eq_some_iff.1 q4).1).trans q4
          have hA4 := (Array.getElem?_eq_some_iff.1 q4).1
          have h5 := h4.below b5
          have G5' := G4'.trans (Gw.of (Kp.of_below b5))
          have hsz4 : Hid (w.heap.size ≤ w4.heap.size) := hidn G4'.1.size
          have HW5 := hidn hw5
          clear hw5 h4 G4 b5
          go_wp2_with fail
          rw [← HW5.out]
          refine (step_any r ρ (l1, L) false (.slice (some ⟨w4.heap.size, 0, none⟩) 1 1) [(a, a)] w5 h5 (by simp only; omega) own5).mono ?_
          rintro e w9 ⟨rfl, ρ9, h9, G9⟩
          obtain ⟨q9, z9⟩ := G9.blk q5 z4 (by simp only [Value.ownBlock, ne_eq, Option.some.injEq]; omega)
          have G9' := G9.after G5' (fun k hk => by simp only [Value.ownBlock, Option.some.injEq] at hk; subst hk; exact hsz4.out)
          simp only
          obtain ⟨n, hn⟩ : ∃ n, n = L.length := ⟨_, rfl⟩
          obtain ⟨m, hm⟩ : ∃ m, m = L.length + 1 := ⟨_, rfl⟩
          rw [← hm, ← hn]
          obtain ⟨r0, r1, fr0, fr1, t0, t1, hR', hG⟩ := fin2 q9 (.int .i64 (n : Int)) (.int .i64 (m : Int))
          have HF := hidn (hR' r ρ9 _ h9 (by decide) z9)
          have HG9 := hidn (hG _ _ _ G9' hAw)
          have HN := hidn hn
          have HM := hidn hm
          clear hR' hG hn hm h9 G9 G9'
          go_wp2_with fail
          exact bodyPost_ret (v := .tuple #[.agg #[.int .i64 (n : Int), .int .i64 (m : Int)], .bool true]) (by simp [results, Try.results53, go_sem, t0, t1]) rfl ⟨n, m, Or.inr ⟨rfl, ρ9, HG9.out, by rw [hR.out]; exact ⟨rfl, HN.out, HM.out, HF.out⟩⟩⟩
end Go.Proofs.Ytdgkjiiegmnjfaa
