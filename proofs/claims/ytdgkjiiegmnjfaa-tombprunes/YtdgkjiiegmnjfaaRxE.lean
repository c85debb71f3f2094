/- member, class. -/
import Derived.Test.YtdgkjiiegmnjfaaRxD
namespace Go.Proofs.Ytdgkjiiegmnjfaa
open Go.RowKit Go.Joins
set_option linter.unusedVariables false

theorem RDx.kp0 {w w' : World} {r : Nat} {ρ : Nat → Nat} {R : Rd} {F : Nat → Prop} (h : RDx w r ρ R) (hk : Kp F w w') (hF : ∀ k, F k → ρ k = 0 ∧ ∀ cs, w.heap[k]? ≠ some (.cells cs 90 (0, 0))) : RDx w' r ρ R := by
  obtain ⟨la, lc, sv, V, h⟩ := h
  have hn : ∀ x k, x ≠ 0 → F k → ρ k ≠ x := fun x k hx hf => by rw [(hF k hf).1]; exact fun e => hx e.symm
  have hy : ∀ y, la = some y → R.1 ≠ [] → y.block < w.heap.size → w'.heap[y.block]? = w.heap[y.block]? := fun y hy hne hlt => hk.block _ hlt (fun hf => by obtain ⟨_, cs, e⟩ := h.sigo y hy hne; exact (hF _ hf).2 cs e)
  refine ⟨la, lc, sv, V, (hk.block r h.rlt (fun hf => hn 1 r (by decide) hf h.me)).trans h.blk, h.me, h.cap, h.capm, h.sig.keep hy, fun y hy' hne => ⟨(h.sigo y hy' hne).1, ?_⟩, h.sts.kp hk (fun k hf => hn _ k (by decide) hf) (fun _ _ => rfl), fun i s hs => (h.nx i s hs).kp hk (fun k hf => hn _ k (by omega) hf) (fun _ _ => rfl), fun i s hs => (h.sp i s hs).kp hk (fun k hf => hn _ k (by omega) hf) (fun _ _ => rfl), fun k hk' => h.free k (Nat.le_trans hk.size hk')⟩
  obtain ⟨cs, e⟩ := (h.sigo y hy' hne).2
  exact ⟨cs, (hy y hy' hne (Array.getElem?_eq_some_iff.1 e).1).trans e⟩

theorem asc2 : AscS ⟨#[93, 45]⟩ := by unfold AscS; decide
theorem asc45 : AscS ⟨#[45]⟩ := by unfold AscS; decide
theorem RDx.fr {w : World} {r : Nat} {ρ : Nat → Nat} {R : Rd} (h : RDx w r ρ R) : ∀ k, w.heap.size ≤ k → ρ k = 0 := by obtain ⟨_, _, _, _, h⟩ := h; exact h.free
theorem fin2 {w : World} {A : Nat} {T : TypeId} {c0 c1 : Value} (q : w.heap[A]? = some (.cells #[c0, c1] T (0, 0))) (x y : Value) :
    w.cell? ⟨A, 0, none⟩ = some c0 ∧ w.cell? ⟨A, 1, none⟩ = some c1 ∧ w.frozen? ⟨A, 0, none⟩ = false ∧ w.frozen? ⟨A, 1, none⟩ = false ∧
    ((w.setCell ⟨A, 0, none⟩ x).setCell ⟨A, 1, none⟩ y).cell? ⟨A, 0, none⟩ = some x ∧ ((w.setCell ⟨A, 0, none⟩ x).setCell ⟨A, 1, none⟩ y).cell? ⟨A, 1, none⟩ = some y ∧
    (∀ (r : Nat) (ρ : Nat → Nat) (R : Rd), RDx w r ρ R → T ≠ 90 → ρ A = 0 → RDx ((w.setCell ⟨A, 0, none⟩ x).setCell ⟨A, 1, none⟩ y) r ρ R) ∧
    (∀ (ρ ρ' : Nat → Nat) (w0 : World), Gw ρ ρ' w0 w → w0.heap.size ≤ A → Gw ρ ρ' w0 ((w.setCell ⟨A, 0, none⟩ x).setCell ⟨A, 1, none⟩ y)) := by
  have q8 := block_setCell (i := 1) (block_setCell (i := 0) q x) y
  exact ⟨cell_of_row _ _ _ _ _ _ q, cell_of_row _ _ _ _ _ _ q, unfrozen_of_block q _, unfrozen_of_block q _, by rw [cell_of_row _ _ _ _ _ _ q8]; rfl, by rw [cell_of_row _ _ _ _ _ _ q8]; rfl, fun r ρ R h hT h0 => (h.loc q hT h0 0 x).loc (block_setCell (i := 0) q x) hT h0 1 y, fun ρ ρ' w0 G hA => (G.loc hA 0 x).loc hA 1 y⟩

set_option maxHeartbeats 4000000 in
set_option maxRecDepth 100000 in
theorem member_any (r : Nat) (ρ : Nat → Nat) (R : Rd) (w : World) (h : RDx w r ρ R) :
    Calls Try.prog 61 #[.pointer (some ⟨r, 0, none⟩)] w fun e w' => ∃ x y ok, e = .returned (.tuple #[.agg #[.int .i32 x, .int .i32 y], .bool ok]) ∧ Gw ρ ρ w w' ∧
      match memberR R.1 with
      | none => ok = false
      | some (m, l') => ok = true ∧ x = m.1 ∧ y = m.2 ∧ RDx w' r ρ (l', R.2) := by
  obtain ⟨l, L⟩ := R
  simp only
  have hfree := h.fr
  obtain ⟨wA, hwA⟩ : ∃ wA, wA = w.alloc (.cells #[.int .i32 0, .int .i32 0] 101) := ⟨_, rfl⟩
  have bA : Below w.heap.size w wA := by rw [hwA]; exact (Below.refl _ w).alloc (Nat.le_refl _) _
  have qA : wA.heap[w.heap.size]? = some (.cells #[.int .i32 0, .int .i32 0] 101 (0, 0)) := by rw [hwA]; exact heap_alloc_new w _
  have hA := h.below bA
  have zA : ρ w.heap.size = 0 := hfree _ (Nat.le_refl _)
  obtain ⟨A, hAe⟩ : ∃ A, A = w.heap.size := ⟨_, rfl⟩
  have hAw : w.heap.size ≤ A := by omega
  have HAA := hidn hAe
  have HWA := hidn hwA
  have G0 : Gw ρ ρ w wA := Gw.of (Kp.of_below bA)
  rw [← hAe] at qA zA
  clear hAe hwA
  cases h1 : pointR [93, 45] l with
  | none =>
    have em : memberR l = none := by unfold memberR; rw [h1]
    rw [em]
    clear em
    go_enter Try.func61, Try.ntmps61
    go_wp2_with fail
    rw [← HWA.out, ← HAA.out]
    refine (point_none r ρ (l, L) ⟨#[93, 45]⟩ wA (by decide) asc2 hA h1).mono ?_
    rintro e w1 ⟨rfl, h1', G1⟩
    obtain ⟨q, z⟩ := G1.blk qA zA
    clear h1
    obtain ⟨r0, r1, fr0, fr1, t0, t1, hR, hG⟩ := fin2 q (.int .i32 0) (.int .i32 0)
    have HR := hidn hR
    have HG := hidn (hG _ _ _ (G0.trans G1) hAw)
    clear hR hG
    go_wp2_with fail
    exact bodyPost_ret (v := .tuple #[.agg #[.int .i32 0, .int .i32 0], .bool false]) (by simp [results, Try.results61, go_sem, t0, t1]) rfl ⟨_, _, _, rfl, HG.out, rfl⟩
  | some al =>
    obtain ⟨a, l1⟩ := al
    cases h2 : takeR [45] l1 with
    | none =>
      have em : memberR l = some ((a, a), l1) := by unfold memberR; rw [h1]; simp only [h2]
      rw [em]
      clear em
      have hat : Hid (atR [45] l1 = false) := hidn (by
        unfold takeR at h2
        split at h2
        · cases h2
        · rename_i e; simpa using e)
      go_enter Try.func61, Try.ntmps61
      go_wp2_with fail
      rw [← HWA.out, ← HAA.out]
      refine (point_some r ρ (l, L) ⟨#[93, 45]⟩ wA a l1 (by decide) asc2 hA h1).mono ?_
      rintro e w1 ⟨rfl, h1', G1⟩
      obtain ⟨q1, z1⟩ := G1.blk qA zA
      clear h1 h2
      go_wp2_with fail
      refine (take_any r ρ (l1, L) ⟨#[45]⟩ w1 (by decide) asc45 h1').mono ?_
      rintro e w2 ⟨rfl, h2', G2⟩
      have e0 : atR (ptsOf ⟨#[45]⟩) (l1, L).1 = false := hat.out
      rw [e0] at h2' ⊢
      obtain ⟨q, z⟩ := G2.blk q1 z1
      clear e0
      obtain ⟨r0, r1, fr0, fr1, t0, t1, hR, hG⟩ := fin2 q (.int .i32 a) (.int .i32 a)
      have HR := hidn hR
      have HG := hidn (hG _ _ _ ((G0.trans G1).trans G2) hAw)
      clear hR hG
      go_wp2_with fail
      exact bodyPost_ret (v := .tuple #[.agg #[.int .i32 a, .int .i32 a], .bool true]) (by simp [results, Try.results61, go_sem, t0, t1]) rfl ⟨_, _, _, rfl, HG.out, by exact ⟨rfl, rfl, rfl, HR.out _ _ _ h2' (by decide) z⟩⟩
    | some l2 =>
      have hat : Hid (atR [45] l1 = true ∧ l1.tail = l2) := hidn (by
        unfold takeR at h2
        split at h2
        · rename_i e; simp only [Option.some.injEq] at h2; exact ⟨e, h2⟩
        · cases h2)
      cases h3 : pointR [93, 45] l2 with
      | none =>
        have em : memberR l = none := by unfold memberR; rw [h1]; simp only [h2, h3]
        rw [em]
        clear em
        go_enter Try.func61, Try.ntmps61
        go_wp2_with fail
        rw [← HWA.out, ← HAA.out]
        refine (point_some r ρ (l, L) ⟨#[93, 45]⟩ wA a l1 (by decide) asc2 hA h1).mono ?_
        rintro e w1 ⟨rfl, h1', G1⟩
        obtain ⟨q1, z1⟩ := G1.blk qA zA
        clear h1 h2
        go_wp2_with fail
        refine (take_any r ρ (l1, L) ⟨#[45]⟩ w1 (by decide) asc45 h1').mono ?_
        rintro e w2 ⟨rfl, h2', G2⟩
        have e0 : atR (ptsOf ⟨#[45]⟩) (l1, L).1 = true := hat.out.1
        rw [e0] at h2' ⊢
        have h2'' : RDx w2 r ρ (l2, L) := by rw [← hat.out.2]; exact h2'
        obtain ⟨q2, z2⟩ := G2.blk q1 z1
        clear e0 h2'
        go_wp2_with fail
        refine (point_none r ρ (l2, L) ⟨#[93, 45]⟩ w2 (by decide) asc2 h2'' h3).mono ?_
        rintro e w3 ⟨rfl, h3', G3⟩
        obtain ⟨q, z⟩ := G3.blk q2 z2
        clear h3
        obtain ⟨r0, r1, fr0, fr1, t0, t1, hR, hG⟩ := fin2 q (.int .i32 a) (.int .i32 0)
        have HR := hidn hR
        have HG := hidn (hG _ _ _ (((G0.trans G1).trans G2).trans G3) hAw)
        clear hR hG
        go_wp2_with fail
        exact bodyPost_ret (v := .tuple #[.agg #[.int .i32 a, .int .i32 0], .bool false]) (by simp [results, Try.results61, go_sem, t0, t1]) rfl ⟨_, _, _, rfl, HG.out, rfl⟩
      | some bl =>
        obtain ⟨b, l3⟩ := bl
        by_cases hab : a ≤ b
        · have em : memberR l = some ((a, b), l3) := by unfold memberR; rw [h1]; simp only [h2, h3]; rw [if_pos hab]
          rw [em]
          clear em
          go_enter Try.func61, Try.ntmps61
          go_wp2_with fail
          rw [← HWA.out, ← HAA.out]
          refine (point_some r ρ (l, L) ⟨#[93, 45]⟩ wA a l1 (by decide) asc2 hA h1).mono ?_
          rintro e w1 ⟨rfl, h1', G1⟩
          obtain ⟨q1, z1⟩ := G1.blk qA zA
          clear h1 h2
          go_wp2_with fail
          refine (take_any r ρ (l1, L) ⟨#[45]⟩ w1 (by decide) asc45 h1').mono ?_
          rintro e w2 ⟨rfl, h2', G2⟩
          have e0 : atR (ptsOf ⟨#[45]⟩) (l1, L).1 = true := hat.out.1
          rw [e0] at h2' ⊢
          have h2'' : RDx w2 r ρ (l2, L) := by rw [← hat.out.2]; exact h2'
          obtain ⟨q2, z2⟩ := G2.blk q1 z1
          clear e0 h2'
          go_wp2_with fail
          refine (point_some r ρ (l2, L) ⟨#[93, 45]⟩ w2 b l3 (by decide) asc2 h2'' h3).mono ?_
          rintro e w3 ⟨rfl, h3', G3⟩
          obtain ⟨q, z⟩ := G3.blk q2 z2
          clear h3
          obtain ⟨r0, r1, fr0, fr1, t0, t1, hR, hG⟩ := fin2 q (.int .i32 a) (.int .i32 b)
          have HR := hidn hR
          have HG := hidn (hG _ _ _ (((G0.trans G1).trans G2).trans G3) hAw)
          clear hR hG
          go_wp2_with fail
          exact bodyPost_ret (v := .tuple #[.agg #[.int .i32 a, .int .i32 b], .bool true]) (by simp [results, Try.results61, go_sem, t0, t1]) rfl ⟨_, _, _, rfl, HG.out, by exact ⟨rfl, rfl, rfl, HR.out _ _ _ h3' (by decide) z⟩⟩
        · have em : memberR l = none := by unfold memberR; rw [h1]; simp only [h2, h3]; rw [if_neg hab]
          rw [em]
          clear em
          go_enter Try.func61, Try.ntmps61
          go_wp2_with fail
          rw [← HWA.out, ← HAA.out]
          refine (point_some r ρ (l, L) ⟨#[93, 45]⟩ wA a l1 (by decide) asc2 hA h1).mono ?_
          rintro e w1 ⟨rfl, h1', G1⟩
          obtain ⟨q1, z1⟩ := G1.blk qA zA
          clear h1 h2
          go_wp2_with fail
          refine (take_any r ρ (l1, L) ⟨#[45]⟩ w1 (by decide) asc45 h1').mono ?_
          rintro e w2 ⟨rfl, h2', G2⟩
          have e0 : atR (ptsOf ⟨#[45]⟩) (l1, L).1 = true := hat.out.1
          rw [e0] at h2' ⊢
          have h2'' : RDx w2 r ρ (l2, L) := by rw [← hat.out.2]; exact h2'
          obtain ⟨q2, z2⟩ := G2.blk q1 z1
          clear e0 h2'
          go_wp2_with fail
          refine (point_some r ρ (l2, L) ⟨#[93, 45]⟩ w2 b l3 (by decide) asc2 h2'' h3).mono ?_
          rintro e w3 ⟨rfl, h3', G3⟩
          obtain ⟨q, z⟩ := G3.blk q2 z2
          clear h3
          obtain ⟨r0, r1, fr0, fr1, t0, t1, hR, hG⟩ := fin2 q (.int .i32 a) (.int .i32 b)
          have HR := hidn hR
          have HG := hidn (hG _ _ _ (((G0.trans G1).trans G2).trans G3) hAw)
          clear hR hG
          go_wp2_with fail
          exact bodyPost_ret (v := .tuple #[.agg #[.int .i32 a, .int .i32 b], .bool false]) (by simp [results, Try.results61, go_sem, t0, t1]; omega) rfl ⟨_, _, _, rfl, HG.out, rfl⟩

end Go.Proofs.Ytdgkjiiegmnjfaa
