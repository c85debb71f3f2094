/- read: a pattern's machine. -/
import Derived.Test.YtdgkjiiegmnjfaaRxScan
namespace Go.Proofs.Ytdgkjiiegmnjfaa
open Go.RowKit Go.Joins
set_option linter.unusedVariables false

def readS (s : ByteArray) : Option (List St × Nat × Nat) := match scanS s with
  | none => none
  | some l => match patN 10 (l, []) with
    | none => none
    | some (f, t, R) => if R.1.length = 0 then some (R.2, f, t) else none
/-- A machine's states in memory. -/
def MS (w : World) (sv : Value) (L : List St) : Prop := ∃ V, w.ownsRow 0 99 4 sv L.length (vst V 0 L) ∧ ∀ i s, L[i]? = some s → w.ownsRow 0 3 1 (V i).2 s.next.length (vi s.next) ∧ w.ownsRow 0 101 2 (V i).1 s.spans.length (vspans s.spans)
theorem MS.below {w w' : World} {sv : Value} {L : List St} (h : MS w sv L) (hb : Below w.heap.size w w') : MS w' sv L := by
  obtain ⟨V, h1, h2⟩ := h
  exact ⟨V, own_belowS h1 hb, fun i s hs => ⟨own_belowS (h2 i s hs).1 hb, own_belowS (h2 i s hs).2 hb⟩⟩
theorem RDx.ms {w : World} {r : Nat} {ρ : Nat → Nat} {R : Rd} (h : RDx w r ρ R) : ∃ la lc sv, w.heap[r]? = some (.cells #[.slice la R.1.length lc, sv] 82 (0, 0)) ∧ MS w sv R.2 := by
  obtain ⟨la, lc, sv, V, h⟩ := h
  exact ⟨la, lc, sv, h.blk, V, h.sts.1, fun i s hs => ⟨(h.nx i s hs).1, (h.sp i s hs).1⟩⟩
structure Mok (L : List St) (f t : Nat) : Prop where
  wf : WF L.length L
  sz : siz L ≤ 600
  f : f < L.length
  t : t < L.length
theorem readS_ok {s : ByteArray} {L : List St} {f t : Nat} (hl : ∀ l, scanS s = some l → l.length ≤ 60) (h : readS s = some (L, f, t)) : Mok L f t := by
  unfold readS at h
  split at h
  · cases h
  · rename_i l hs
    split at h
    · cases h
    · rename_i f' t' R hp
      split at h
      · simp only [Option.some.injEq, Prod.mk.injEq] at h
        obtain ⟨rfl, rfl, rfl⟩ := h
        have K := patN_kept 10 hp
        have hc := K.cost
        have := hl l hs
        have e : siz ([] : List St) = 0 := rfl
        simp only [e] at hc
        exact ⟨K.wf (fun s hs => by simp at hs), by omega, K.f, K.t⟩
      · cases h
def ReadPost (s : ByteArray) (w : World) (e : Ending) (w' : World) : Prop := Below w.heap.size w w' ∧ match readS s with
  | none => e = .returned (.tuple #[.agg #[.slice none 0 0, .int .i64 0, .int .i64 0], .bool false])
  | some (L, f, t) => ∃ sv, e = .returned (.tuple #[.agg #[sv, .int .i64 (f : Int), .int .i64 (t : Int)], .bool true]) ∧ MS w' sv L ∧ Mok L f t

theorem fin3 {w : World} {A : Nat} {T : TypeId} {c0 c1 c2 : Value} (q : w.heap[A]? = some (.cells #[c0, c1, c2] T (0, 0))) (x y z : Value) :
    w.cell? ⟨A, 0, none⟩ = some c0 ∧ w.cell? ⟨A, 1, none⟩ = some c1 ∧ w.cell? ⟨A, 2, none⟩ = some c2 ∧ w.frozen? ⟨A, 0, none⟩ = false ∧ w.frozen? ⟨A, 1, none⟩ = false ∧ w.frozen? ⟨A, 2, none⟩ = false ∧
    (((w.setCell ⟨A, 0, none⟩ x).setCell ⟨A, 1, none⟩ y).setCell ⟨A, 2, none⟩ z).cell? ⟨A, 0, none⟩ = some x ∧ (((w.setCell ⟨A, 0, none⟩ x).setCell ⟨A, 1, none⟩ y).setCell ⟨A, 2, none⟩ z).cell? ⟨A, 1, none⟩ = some y ∧ (((w.setCell ⟨A, 0, none⟩ x).setCell ⟨A, 1, none⟩ y).setCell ⟨A, 2, none⟩ z).cell? ⟨A, 2, none⟩ = some z ∧
    (∀ (n : Nat) (w0 : World), Below n w0 w → n ≤ n → n ≤ A → Below n w0 (((w.setCell ⟨A, 0, none⟩ x).setCell ⟨A, 1, none⟩ y).setCell ⟨A, 2, none⟩ z)) := by
  have q8 := block_setCell (i := 2) (block_setCell (i := 1) (block_setCell (i := 0) q x) y) z
  exact ⟨cell_of_row _ _ _ _ _ _ q, cell_of_row _ _ _ _ _ _ q, cell_of_row _ _ _ _ _ _ q, unfrozen_of_block q _, unfrozen_of_block q _, unfrozen_of_block q _, by rw [cell_of_row _ _ _ _ _ _ q8]; rfl, by rw [cell_of_row _ _ _ _ _ _ q8]; rfl, by rw [cell_of_row _ _ _ _ _ _ q8]; rfl, fun n w0 hb _ hA => ((hb.setCell (p := ⟨A, 0, none⟩) hA _).setCell (p := ⟨A, 1, none⟩) hA _).setCell (p := ⟨A, 2, none⟩) hA _⟩
theorem MS.out {w : World} {sv : Value} {L : List St} (h : MS w sv L) {A : Nat} {cs : Array Value} {T : TypeId} {fz : Nat × Nat} (q : w.heap[A]? = some (.cells cs T fz)) (h1 : T ≠ 99) (h2 : T ≠ 3) (h3 : T ≠ 101) (o : Nat) (u : Value) : MS (w.setCell ⟨A, o, none⟩ u) sv L := by
  obtain ⟨V, k1, k2⟩ := h
  have key : ∀ {e size n : Nat} {v : Value} {xs : List Value}, w.ownsRow 0 e size v n xs → T ≠ e → (w.setCell ⟨A, o, none⟩ u).ownsRow 0 e size v n xs := by
    intro e size n v xs h hT
    refine rx_own_setCell h (fun ee => ?_) u
    rcases h.2 with ⟨e1, _⟩ | ⟨g, cap, cur, e1, _, hh, _⟩
    · rw [e1] at ee; simp [Value.ownBlock] at ee
    · rw [e1] at ee
      simp only [Value.ownBlock, Option.some.injEq] at ee
      rw [ee, q] at hh
      cases hh
      exact hT rfl
  exact ⟨V, key k1 h1, fun i s hs => ⟨key (k2 i s hs).1 h2, key (k2 i s hs).2 h3⟩⟩
theorem RDx.init {w1 : World} {base : Nat} {v : Value} {l : List Sg} (h : w1.ownsRow base 90 2 v l.length (vsg l)) (hl : l.length ≤ 60) (hsg : ∀ s ∈ l, SgOK s) :
    RDx (w1.alloc (.cells #[v, .slice none 0 0] 82)) w1.heap.size (fun k => if k = w1.heap.size then 1 else 0) (l, []) := by
  have hb : Below w1.heap.size w1 (w1.alloc (.cells #[v, .slice none 0 0] 82)) := (Below.refl _ w1).alloc (Nat.le_refl _) _
  have hnx : ∀ (i : Nat) (s : St), ([] : List St)[i]? = some s → False := by intro i s h; simp at h
  rcases h.2 with ⟨rfl, h0⟩ | ⟨g, cap, cur, rfl, hg, hh, hnc, hcm, hcs, htk⟩
  · have hl0 : l = [] := List.eq_nil_of_length_eq_zero h0
    subst hl0
    refine ⟨none, 0, .slice none 0 0, fun _ => (.slice none 0 0, .slice none 0 0), heap_alloc_new w1 _, by simp, Nat.le_refl _, Nat.zero_le _, Ss.nil _ _, fun x hx => (by cases hx), ⟨World.ownsRow_nil _ _ _ _, fun g hg => by simp [Value.ownBlock] at hg⟩, fun i s hs => (hnx i s hs).elim, fun i s hs => (hnx i s hs).elim, fun k hk => ?_⟩
    simp at hk
    simp; omega
  · have hglt : g < w1.heap.size := (Array.getElem?_eq_some_iff.1 hh).1
    have h2 := own_belowS h hb
    refine ⟨some ⟨g, 0, none⟩, cap, .slice none 0 0, fun _ => (.slice none 0 0, .slice none 0 0), heap_alloc_new w1 _, by simp, hnc, hcm, ⟨by simp only; omega, hsg, (fun h => by cases h), ?_⟩, ?_, ⟨World.ownsRow_nil _ _ _ _, fun g hg => by simp [Value.ownBlock] at hg⟩, fun i s hs => (hnx i s hs).elim, fun i s hs => (hnx i s hs).elim, fun k hk => ?_⟩
    · intro x hx j s hj
      cases hx
      have := vsg_get l j s hj
      rw [xadd_none, xadd_none, Nat.zero_add, Nat.zero_add]
      refine ⟨?_, ?_⟩
      · have e := h2.cells (g := g) rfl _ _ this.1
        rw [xadd_none, Nat.zero_add] at e; exact e
      · have e := h2.cells (g := g) rfl _ _ this.2
        rw [xadd_none, Nat.zero_add] at e; exact e
    · intro x hx _
      cases hx
      refine ⟨by simp; omega, cur, ?_⟩
      rw [hb.block g hglt]; exact hh
    · simp at hk
      simp; omega
theorem pattern0 (r : Nat) (ρ : Nat → Nat) (R : Rd) (w : World) (h : RDx w r ρ R) (hb : siz R.2 + 8 * R.1.length + 9 ≤ 100000) :
    Calls Try.prog 41 #[.pointer (some ⟨r, 0, none⟩), .int .i64 0] w fun e w' => ∃ (x y : Nat) (ok : Bool) (ρ' : Nat → Nat), e = .returned (.tuple #[.agg #[.int .i64 (x : Int), .int .i64 (y : Int)], .bool ok]) ∧ Gw ρ ρ' w w' ∧ PartPost (patN 10 R) r ρ' w' x y ok :=
  pattern_any 10 0 rfl r ρ R w h hb

set_option maxHeartbeats 4000000 in
set_option maxRecDepth 100000 in
theorem rx_read_any (s : ByteArray) (w : World) (hs : s.size ≤ maxLen) :
    Calls Try.prog 38 #[.string s] w (ReadPost s w) := by
  obtain ⟨wA, hwA⟩ : ∃ wA, wA = w.alloc (.cells #[.slice none 0 0, .int .i64 0, .int .i64 0] 75) := ⟨_, rfl⟩
  have bA : Below w.heap.size w wA := by rw [hwA]; exact (Below.refl _ w).alloc (Nat.le_refl _) _
  have qA : wA.heap[w.heap.size]? = some (.cells #[.slice none 0 0, .int .i64 0, .int .i64 0] 75 (0, 0)) := by rw [hwA]; exact heap_alloc_new w _
  obtain ⟨A, hAe⟩ : ∃ A, A = w.heap.size := ⟨_, rfl⟩
  have hAw : w.heap.size ≤ A := by omega
  have hsA : w.heap.size ≤ wA.heap.size := bA.size
  have HAA := hidn hAe
  have HWA := hidn hwA
  rw [← hAe] at qA
  clear hAe hwA
  go_enter Try.func38, Try.ntmps38
  go_wp2_with fail
  rw [← HWA.out, ← HAA.out]
  refine (scan_any s wA hs).mono ?_
  rintro e w1 ⟨b1, hpost⟩
  have q1 := (b1.block _ (Array.getElem?_eq_some_iff.1 qA).1).trans qA
  have B1 : Below w.heap.size w w1 := bA.trans (b1.mono hsA)
  cases hsc : scanS s with
  | none =>
    rw [hsc] at hpost
    obtain ⟨v, rfl⟩ := hpost
    have hR : Hid (readS s = none) := hidn (by unfold readS; rw [hsc])
    obtain ⟨r0, r1, r2, fr0, fr1, fr2, t0, t1, t2, hBB⟩ := fin3 q1 (.slice none 0 0) (.int .i64 0) (.int .i64 0)
    have HB9 := hidn (hBB _ _ (B1) (Nat.le_refl _) hAw)
    clear hBB
    go_wp2_with fail
    exact bodyPost_ret (v := .tuple #[.agg #[.slice none 0 0, .int .i64 0, .int .i64 0], .bool false]) (by simp [results, Try.results38, go_sem, t0, t1, t2]) rfl ⟨HB9.out, by rw [hR.out]⟩
  | some l =>
    rw [hsc] at hpost
    obtain ⟨v, rfl, hown, hl60, hsg⟩ := hpost
    obtain ⟨la, lc, hv⟩ : ∃ la lc, v = .slice la l.length lc := by
      rcases hown.2 with ⟨h1, h2⟩ | ⟨g, cap, cur, h1, _⟩
      · exact ⟨none, 0, by rw [h1, h2]⟩
      · exact ⟨_, _, h1⟩
    subst hv
    have h2 := RDx.init hown hl60 hsg
    obtain ⟨w2, hw2⟩ : ∃ w2, w2 = w1.alloc (.cells #[.slice la l.length lc, .slice none 0 0] 82) := ⟨_, rfl⟩
    rw [← hw2] at h2
    have b2 : Below w1.heap.size w1 w2 := by rw [hw2]; exact (Below.refl _ w1).alloc (Nat.le_refl _) _
    have q2 := (b2.block _ (Array.getElem?_eq_some_iff.1 q1).1).trans q1
    obtain ⟨rb, hrb⟩ : ∃ rb, rb = w1.heap.size := ⟨_, rfl⟩
    rw [← hrb] at h2
    have hArb : A ≠ rb := by have := (Array.getElem?_eq_some_iff.1 q1).1; omega
    have B2 : Below w.heap.size w w2 := B1.trans (b2.mono B1.size)
    have hrbw : w.heap.size ≤ rb := by rw [hrb]; exact B1.size
    have HW2 := hidn hw2
    have HRB := hidn hrb
    obtain ⟨nl, hnl⟩ : ∃ nl, nl = l.length := ⟨_, rfl⟩
    rw [← hnl] at HW2
    rw [← hnl]
    have HNL := hidn hnl
    clear hw2 hrb hown hnl
    go_wp2_with fail
    rw [← HW2.out, ← HRB.out]
    refine (pattern0 rb _ (l, []) w2 h2 (by have e : siz ([] : List St) = 0 := rfl; simp only [e]; omega)).mono ?_
    rintro e w3 ⟨x, y, ok, ρ3, rfl, G3, hpp⟩
    obtain ⟨q3, _⟩ := G3.blk q2 (by simp [hArb])
    have B3 : Below w.heap.size w w3 := B2.trans (G3.below B2.size (fun k hk => if_neg (by omega)))
    cases hres : patN 10 (l, []) with
    | none =>
      rw [hres] at hpp
      have : ok = false := hpp
      subst this
      have hR : Hid (readS s = none) := hidn (by unfold readS; rw [hsc]; simp only [hres])
      have q4 : (w3.alloc (.cells #[.int .i64 (x : Int), .int .i64 (y : Int)] 73)).heap[A]? = some (.cells #[.slice none 0 0, .int .i64 0, .int .i64 0] 75 (0, 0)) := (Below.heap_alloc _ _ _ (Array.getElem?_eq_some_iff.1 q3).1).trans q3
      obtain ⟨r0, r1, r2, fr0, fr1, fr2, t0, t1, t2, hBB⟩ := fin3 q4 (.slice none 0 0) (.int .i64 0) (.int .i64 0)
      have HB9 := hidn (hBB _ _ (B3.alloc B3.size _) (Nat.le_refl _) hAw)
      clear hBB
      go_wp2_with fail
      exact bodyPost_ret (v := .tuple #[.agg #[.slice none 0 0, .int .i64 0, .int .i64 0], .bool false]) (by simp [results, Try.results38, go_sem, t0, t1, t2]) rfl ⟨HB9.out, by rw [hR.out]⟩
    | some res =>
      obtain ⟨f, t, R⟩ := res
      rw [hres] at hpp
      obtain ⟨rfl, rfl, rfl, h3⟩ := hpp
      obtain ⟨w4, hw4⟩ : ∃ w4, w4 = w3.alloc (.cells #[.int .i64 (x : Int), .int .i64 (y : Int)] 73) := ⟨_, rfl⟩
      have b4 : Below w3.heap.size w3 w4 := by rw [hw4]; exact (Below.refl _ w3).alloc (Nat.le_refl _) _
      have q4 := (b4.block _ (Array.getElem?_eq_some_iff.1 q3).1).trans q3
      have h4 := h3.below b4
      obtain ⟨la', lc', sv, hblk, hms⟩ := h4.ms
      obtain ⟨la4, lc4, sv4, V4, hrd⟩ := h4
      have hl4 := hrd.sig.1
      have B4 : Below w.heap.size w w4 := B3.trans (b4.mono B3.size)
      have c0 : w4.cell? ⟨rb, 0, none⟩ = some (.slice la' R.1.length lc') := cell_of_row _ _ _ _ _ _ hblk
      have c1 : w4.cell? ⟨rb, 1, none⟩ = some sv := cell_of_row _ _ _ _ _ _ hblk
      obtain ⟨sa, sc, hsv⟩ : ∃ sa sc, sv = .slice sa R.2.length sc := by
        obtain ⟨V, k1, _⟩ := hms
        rcases k1.2 with ⟨h1, h2⟩ | ⟨g, cap, cur, h1, _⟩
        · exact ⟨none, 0, by rw [h1, h2]⟩
        · exact ⟨_, _, h1⟩
      subst hsv
      have hpb : w3.heap.size < w4.heap.size := by rw [hw4]; simp
      have qp : w4.heap[w3.heap.size]? = some (.cells #[.int .i64 (x : Int), .int .i64 (y : Int)] 73 (0, 0)) := by rw [hw4]; exact heap_alloc_new w3 _
      clear hrd hblk h3
      by_cases h0 : R.1.length = 0
      · have hR : Hid (readS s = some (R.2, x, y)) := hidn (by unfold readS; rw [hsc]; simp only [hres]; rw [if_pos h0])
        have hmok : Hid (Mok R.2 x y) := hidn (readS_ok (fun l' hl' => by rw [hsc] at hl'; cases hl'; exact hl60) hR.out)
        rw [h0] at c0
        obtain ⟨r0, r1, r2, fr0, fr1, fr2, t0, t1, t2, hBB⟩ := fin3 q4 (.slice sa R.2.length sc) (.int .i64 (x : Int)) (.int .i64 (y : Int))
        have HB9 := hidn (hBB _ _ B4 (Nat.le_refl _) hAw)
        have HMS := hidn (((hms.out q4 (by decide) (by decide) (by decide) 0 (.slice sa R.2.length sc)).out (block_setCell (i := 0) q4 (.slice sa R.2.length sc)) (by decide) (by decide) (by decide) 1 (.int .i64 (x : Int))).out (block_setCell (i := 1) (block_setCell (i := 0) q4 (.slice sa R.2.length sc)) (.int .i64 (x : Int))) (by decide) (by decide) (by decide) 2 (.int .i64 (y : Int)))
        obtain ⟨nn, hnn⟩ : ∃ nn, nn = R.2.length := ⟨_, rfl⟩
        rw [← hnn] at c1 HMS HB9 t0 t1 t2
        have HW4 := hidn hw4
        rw [hw4] at c0 c1 r0 r1 r2 fr0 fr1 fr2
        clear hBB hw4 hnn h0 hres
        go_wp2_with fail
        rw [← HW4.out]
        exact bodyPost_ret (v := .tuple #[.agg #[.slice sa nn sc, .int .i64 (x : Int), .int .i64 (y : Int)], .bool true]) (by simp [results, Try.results38, go_sem, t0, t1, t2]) rfl ⟨HB9.out, by rw [hR.out]; exact ⟨_, rfl, HMS.out, hmok.out⟩⟩
      · have hR : Hid (readS s = none) := hidn (by unfold readS; rw [hsc]; simp only [hres]; rw [if_neg h0])
        obtain ⟨r0, r1, r2, fr0, fr1, fr2, t0, t1, t2, hBB⟩ := fin3 q4 (.slice none 0 0) (.int .i64 0) (.int .i64 0)
        have HB9 := hidn (hBB _ _ B4 (Nat.le_refl _) hAw)
        obtain ⟨nq, hnq⟩ : ∃ nq, nq = R.1.length := ⟨_, rfl⟩
        rw [← hnq] at c0 hl4 h0
        have g1 : (0 : Int) < (nq : Int) := by omega
        have g2 : 0 < nq := by omega
        have HW4 := hidn hw4
        rw [hw4] at c0 c1 r0 r1 r2 fr0 fr1 fr2
        clear hBB hw4 hnq h0 hres
        go_wp2_with fail
        rw [← HW4.out]
        exact bodyPost_ret (v := .tuple #[.agg #[.slice none 0 0, .int .i64 0, .int .i64 0], .bool false]) (by simp [results, Try.results38, go_sem, t0, t1, t2]) rfl ⟨HB9.out, by rw [hR.out]⟩
end Go.Proofs.Ytdgkjiiegmnjfaa
