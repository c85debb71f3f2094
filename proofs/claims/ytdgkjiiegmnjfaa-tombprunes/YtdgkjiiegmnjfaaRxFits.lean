/- fits. -/
import Derived.Test.YtdgkjiiegmnjfaaRxPass
import Derived.Deep.OwnRows
import Derived.Laws.OwnMore
namespace Go.Proofs.Ytdgkjiiegmnjfaa
open Go.RowKit Go.Joins
set_option linter.unusedVariables false

theorem rx_mk_run {o : Oper} {a : Act} {w w' : World} {t : TypeId} {x : Operand} {vx v : Value} (ho : o.op = Op.makeSlice t x x) (hx : a.eval x = vx) (hr : (Instr.makeSlice t vx vx).run Try.prog w = .ok v w') : (execOp a.eval o).run Try.prog w = .ok (.value v) w' := by
  simp [execOp, ho, hx, hr, Result.andThen]
theorem fin5 {w : World} {A : Nat} {T : TypeId} {c0 c1 c2 c3 c4 : Value} (q : w.heap[A]? = some (.cells #[c0, c1, c2, c3, c4] T (0, 0))) (a0 a1 a2 a3 a4 : Value) :
    (w.cell? ⟨A, 0, none⟩ = some c0 ∧ w.cell? ⟨A, 1, none⟩ = some c1 ∧ w.cell? ⟨A, 2, none⟩ = some c2 ∧ w.cell? ⟨A, 3, none⟩ = some c3 ∧ w.cell? ⟨A, 4, none⟩ = some c4) ∧ (∀ o, w.frozen? ⟨A, o, none⟩ = false) ∧
    (((((w.setCell ⟨A, 0, none⟩ a0).setCell ⟨A, 1, none⟩ a1).setCell ⟨A, 2, none⟩ a2).setCell ⟨A, 3, none⟩ a3).setCell ⟨A, 4, none⟩ a4).heap[A]? = some (.cells #[a0, a1, a2, a3, a4] T (0, 0)) ∧
    (∀ k, k ≠ A → (((((w.setCell ⟨A, 0, none⟩ a0).setCell ⟨A, 1, none⟩ a1).setCell ⟨A, 2, none⟩ a2).setCell ⟨A, 3, none⟩ a3).setCell ⟨A, 4, none⟩ a4).heap[k]? = w.heap[k]?) ∧
    (∀ (n : Nat) (w0 : World), Below n w0 w → n ≤ A → Below n w0 (((((w.setCell ⟨A, 0, none⟩ a0).setCell ⟨A, 1, none⟩ a1).setCell ⟨A, 2, none⟩ a2).setCell ⟨A, 3, none⟩ a3).setCell ⟨A, 4, none⟩ a4)) := by
  have q8 := block_setCell (i := 4) (block_setCell (i := 3) (block_setCell (i := 2) (block_setCell (i := 1) (block_setCell (i := 0) q a0) a1) a2) a3) a4
  refine ⟨⟨cell_of_row _ _ _ _ _ _ q, cell_of_row _ _ _ _ _ _ q, cell_of_row _ _ _ _ _ _ q, cell_of_row _ _ _ _ _ _ q, cell_of_row _ _ _ _ _ _ q⟩, fun o => unfrozen_of_block q _, by simpa using q8, fun k hk => ?_, fun n w0 hb hA => ((((hb.setCell (p := ⟨A, 0, none⟩) hA _).setCell (p := ⟨A, 1, none⟩) hA _).setCell (p := ⟨A, 2, none⟩) hA _).setCell (p := ⟨A, 3, none⟩) hA _).setCell (p := ⟨A, 4, none⟩) hA _⟩
  rw [Below.heap_setCell _ _ _ _ hk, Below.heap_setCell _ _ _ _ hk, Below.heap_setCell _ _ _ _ hk, Below.heap_setCell _ _ _ _ hk, Below.heap_setCell _ _ _ _ hk]
theorem FRx.init {w W : World} {sv : Value} {V : Nat → Value × Value} {L : List St} (h1 : w.ownsRow 0 99 4 sv L.length (vst V 0 L)) (h2 : ∀ i s, L[i]? = some s → w.ownsRow 0 3 1 (V i).2 s.next.length (vi s.next) ∧ w.ownsRow 0 101 2 (V i).1 s.spans.length (vspans s.spans)) (hb : Below w.heap.size w W) (fb gn : Nat) (hfb : w.heap.size ≤ fb) (hgn : w.heap.size ≤ gn) (hne : fb ≠ gn) (hlm : L.length ≤ maxLen)
    (qf : W.heap[fb]? = some (.cells #[sv, .int .i64 1, .slice (some ⟨gn, 0, none⟩) L.length L.length, .slice none 0 0, .slice none 0 0] 86 (0, 0))) (qg : W.heap[gn]? = some (.cells (madeCells #[.int .i64 0] L.length) 3 (0, 0))) :
    FRx W fb (fun k => if k = fb then 1 else if k = gn then 2 else 0) L 1 (List.replicate L.length 0, []) [] sv V (.slice none 0 0) 3 4 := by
  have h0 : ∀ {e size n : Nat} {v : Value} {xs : List Value}, w.ownsRow 0 e size v n xs → Own W (fun k => if k = fb then 1 else if k = gn then 2 else 0) e size 0 v n xs := by
    intro e size n v xs h
    refine ⟨own_belowS h hb, fun g hg => ?_⟩
    have := (h.lt g hg).2
    simp only
    rw [if_neg (by omega), if_neg (by omega)]
  have nil : ∀ x, Own W (fun k => if k = fb then 1 else if k = gn then 2 else 0) 3 1 x (.slice none 0 0) ([] : List Nat).length (vi []) := fun x => ⟨World.ownsRow_nil _ _ _ _, fun g hg => by cases hg⟩
  have l1 := (Array.getElem?_eq_some_iff.1 qf).1
  have l2 := (Array.getElem?_eq_some_iff.1 qg).1
  refine ⟨.slice (some ⟨gn, 0, none⟩) L.length L.length, .slice none 0 0, qf, by simp, Or.inl ⟨rfl, rfl⟩, h0 h1, fun i s hs => h0 (h2 i s hs).1, fun i s hs => h0 (h2 i s hs).2, ⟨⟨by simp [vi], .inr ⟨gn, L.length, madeCells #[.int .i64 0] L.length, by simp, Nat.zero_le _, qg, by simp, hlm, by rw [size_madeCells]; omega, ?_⟩⟩, fun g hg => ?_⟩, nil 3, nil 4, by simp, fun k hk => ?_⟩
  · rw [toList_madeCells_one]
    simp [vi]
  · simp only [Value.ownBlock, Option.some.injEq] at hg
    subst hg
    show (if gn = fb then 1 else if gn = gn then 2 else 0) = 2
    rw [if_neg (fun e => hne e.symm), if_pos rfl]
  · show (if k = fb then 1 else if k = gn then 2 else 0) = 0
    rw [if_neg (by omega), if_neg (by omega)]

theorem FRx.iter {w : World} {fb : Nat} {φ : Nat → Nat} {L : List St} {rd : Nat} {x : rx_Fr} {bf : List Nat} {sv : Value} {V : Nat → Value × Value} {bv : Value} {a b k pos : Nat} {s : ByteArray} (h : FRx w fb φ L rd x bf sv V bv a b) (hk : w.heap[k]? = some (.stringIter s pos)) (pos' : Nat) : FRx (w.iterAt k s pos') fb φ L rd x bf sv V bv a b := by
  obtain ⟨sn, tk, h⟩ := h
  refine ⟨sn, tk, ?_, h.me, h.ab, ⟨own_iter h.sts.1 hk _, h.sts.2⟩, fun i s hs => ⟨own_iter (h.nx i s hs).1 hk _, (h.nx i s hs).2⟩, fun i s hs => ⟨own_iter (h.sp i s hs).1 hk _, (h.sp i s hs).2⟩, ⟨own_iter h.seen.1 hk _, h.seen.2⟩, ⟨own_iter h.taking.1 hk _, h.taking.2⟩, ⟨own_iter h.before.1 hk _, h.before.2⟩, h.len, fun j hj => h.free j (by rw [Lib.iterAt_size] at hj; exact hj)⟩
  rw [Lib.iterAt_other _ _ _ _ _ (fun e => by have := h.blk; rw [e, hk] at this; cases this)]
  exact h.blk
/-- What the test at a round's end reads. -/
theorem FRx.look {w : World} {fb : Nat} {φ : Nat → Nat} {L : List St} {rd : Nat} {x : rx_Fr} {bf : List Nat} {sv : Value} {V : Nat → Value × Value} {bv : Value} {a b : Nat} (h : FRx w fb φ L rd x bf sv V bv a b) {t : Nat} (ht : t < L.length) :
    ∃ g c ta tc v, w.cell? ⟨fb, 1, none⟩ = some (.int .i64 (rd : Int)) ∧ w.cell? ⟨fb, 2, none⟩ = some (.slice (some ⟨g, 0, none⟩) L.length c) ∧ w.cell? ⟨fb, 3, none⟩ = some (.slice ta x.2.length tc) ∧ w.cell? ⟨g, t, none⟩ = some (.int .i64 ((v : Nat) : Int)) ∧ x.1[t]? = some v := by
  obtain ⟨sn, tk, h⟩ := h
  have hl := h.len
  obtain ⟨g, c, hsn, _, _⟩ := nonnil h.seen.1 (by omega)
  obtain ⟨v, hv⟩ : ∃ v, x.1[t]? = some v := ⟨_, List.getElem?_eq_getElem (by omega)⟩
  obtain ⟨ta, tc, htk⟩ : ∃ ta tc, tk = .slice ta x.2.length tc := by
    rcases h.taking.1.2 with ⟨h1, h2⟩ | ⟨g, cap, cur, h1, _⟩
    · exact ⟨none, 0, by rw [h1, h2]⟩
    · exact ⟨_, _, h1⟩
  have hb := h.blk
  have hs := h.seen.1
  rw [hsn] at hs
  rw [hsn, htk] at hb
  rw [hl] at hb
  exact ⟨g, c, ta, tc, v, cell_of_row _ _ _ _ _ _ hb, cell_of_row _ _ _ _ _ _ hb, cell_of_row _ _ _ _ _ _ hb, own_at hs _ _ (vi_get _ _ _ hv), hv⟩

set_option maxHeartbeats 4000000 in
set_option maxRecDepth 100000 in
theorem fits_any (L : List St) (f t : Nat) (sv : Value) (s : ByteArray) (w : World) (hms : MS w sv L) (hm : Mok L f t) (hs : s.size ≤ 140737488355328) :
    Calls Try.prog 39 #[.agg #[sv, .int .i64 (f : Int), .int .i64 (t : Int)], .string s] w fun e w' => e = .returned (.bool (fitsS L f t s)) ∧ Below w.heap.size w w' := by
  have hll := siz_len L
  have hsz := hm.sz
  have hf := hm.f
  obtain ⟨V, hst, hrows⟩ := hms
  obtain ⟨gs, cs, rfl, hcs1, hcs2⟩ := nonnil hst (by omega)
  have hlm : L.length ≤ maxLen := by unfold maxLen; omega
  unfold maxLen at hcs2
  obtain ⟨Z, hZ⟩ : ∃ Z, Z = fitsS L f t s := ⟨_, rfl⟩
  rw [← hZ]
  have HZ := hidn hZ
  obtain ⟨NL, hNL⟩ : ∃ NL, NL = L.length := ⟨_, rfl⟩
  rw [← hNL] at hst ⊢
  have HNL := hidn hNL
  have hN600 : NL ≤ 600 := by omega
  obtain ⟨i0, z, hi0, hz, hzs, hby, hzc⟩ := inInfo
  have hmk : ∀ W : World, (Instr.makeSlice 23 (.int .i64 (NL : Int)) (.int .i64 (NL : Int))).run Try.prog W = .ok (.slice (some ⟨W.heap.size, 0, none⟩) NL NL) (W.alloc (.cells (madeCells #[.int .i64 0] NL) 3)) := fun W => run_make_row' (P := Try.prog) 23 3 (.int .i64 0) 8 Try.underlying23 (by kernel_rfl) rfl .i64 .i64 NL (by omega) (by omega) W
  obtain ⟨wA, hwA⟩ : ∃ wA, wA = w.alloc (.cells #[.slice (some ⟨gs, 0, none⟩) NL cs, .int .i64 (f : Int), .int .i64 (t : Int)] 75) := ⟨_, rfl⟩
  have bA : Below w.heap.size w wA := by rw [hwA]; exact (Below.refl _ w).alloc (Nat.le_refl _) _
  have qA : wA.heap[w.heap.size]? = some (.cells #[.slice (some ⟨gs, 0, none⟩) NL cs, .int .i64 (f : Int), .int .i64 (t : Int)] 75 (0, 0)) := by rw [hwA]; exact heap_alloc_new w _
  obtain ⟨A, hAe⟩ : ∃ A, A = w.heap.size := ⟨_, rfl⟩
  obtain ⟨wd, hwd⟩ : ∃ wd, wA.drew = wd := ⟨_, rfl⟩
  have bd : Below w.heap.size w wd := by rw [← hwd]; exact bA.drew
  have qd : wd.heap[A]? = some (.cells #[.slice (some ⟨gs, 0, none⟩) NL cs, .int .i64 (f : Int), .int .i64 (t : Int)] 75 (0, 0)) := by rw [← hwd, hAe]; exact qA
  have hdA : A < wd.heap.size := (Array.getElem?_eq_some_iff.1 qd).1
  have hAw : w.heap.size ≤ A := by omega
  have cd0 : wd.cell? ⟨A, 0, none⟩ = some (.slice (some ⟨gs, 0, none⟩) NL cs) := cell_of_row _ _ _ _ _ _ qd
  have HAA := hidn hAe
  have HWA := hidn hwA
  rw [HNL.out] at hst
  clear hZ hNL hAe hwA qA bA hi0 hz hzs hby hzc
  go_enter Try.func39, Try.ntmps39
  go_wp2_with fail
  rw [← HWA.out, ← HAA.out]
  refine wp_region_noPanic ?_
  refine wp_region_held_drew (S := fun w' => w'.cell? ⟨A, 0, none⟩ = some (.slice (some ⟨gs, 0, none⟩) NL cs)) (by kernel_rfl) (by rw [hwd]; exact cd0) (fun hHeld => ?_)
  rw [hwd] at hHeld ⊢
  refine drawn_take (i := 0) (v := .pointer (some ⟨A, 0, none⟩)) (some 8) rfl rfl (by kernel_rfl) (by kernel_rfl) (by kernel_rfl) (fun _ _ _ h => h) (Or.inl ⟨by kernel_rfl, fun wq hw => by go_simp⟩) hHeld ?_
  simp only [Act.put, List.setIfInBounds_toArray, List.set_cons_succ, List.set_cons_zero]
  refine drawn_take (i := 1) (v := .slice (some ⟨gs, 0, none⟩) NL cs) (some 9) rfl rfl (by kernel_rfl) (by kernel_rfl) (by kernel_rfl) (fun _ _ _ h => h) (Or.inl ⟨by kernel_rfl, fun wq hw => by go_simp⟩) hHeld ?_
  simp only [Act.put, List.setIfInBounds_toArray, List.set_cons_succ, List.set_cons_zero]
  refine drawn_take (i := 2) (v := .pointer (some ⟨A, 0, none⟩)) (some 10) rfl rfl (by kernel_rfl) (by kernel_rfl) (by kernel_rfl) (fun _ _ _ h => h) (Or.inl ⟨by kernel_rfl, fun wq hw => by go_simp⟩) hHeld ?_
  simp only [Act.put, List.setIfInBounds_toArray, List.set_cons_succ, List.set_cons_zero]
  refine drawn_take (i := 3) (v := .slice (some ⟨gs, 0, none⟩) NL cs) (some 11) rfl rfl (by kernel_rfl) (by kernel_rfl) (by kernel_rfl) (fun _ _ _ h => h) (Or.inl ⟨by kernel_rfl, fun wq hw => by go_simp⟩) hHeld ?_
  simp only [Act.put, List.setIfInBounds_toArray, List.set_cons_succ, List.set_cons_zero]
  refine drawn_take (i := 4) (v := .int .i64 (NL : Int)) (some 12) rfl rfl (by kernel_rfl) (by kernel_rfl) (by kernel_rfl) (fun _ _ _ h => h) (Or.inl ⟨by kernel_rfl, fun wq hw => by go_simp⟩) hHeld ?_
  simp only [Act.put, List.setIfInBounds_toArray, List.set_cons_succ, List.set_cons_zero]
  refine wpAnyH_ready (rs := [5, 7]) (by kernel_rfl) (by simp) ?_
  refine rdy_val (i := 5) rfl rfl (some 13) rfl (.slice (some ⟨wd.heap.size, 0, none⟩) NL NL) (wd.alloc (.cells (madeCells #[.int .i64 0] NL) 3)) (rx_mk_run (x := .tmp 12) (by kernel_rfl) (by kernel_rfl) (hmk wd)) (by rw [World.cell?_of_block (w := wd) (Below.heap_alloc _ _ _ hdA)]; exact cd0) (fun hHeld => ?_) ?_
  · simp only [Act.put, List.setIfInBounds_toArray, List.set_cons_succ, List.set_cons_zero]
    obtain ⟨gn, hgn⟩ : ∃ gn, gn = wd.heap.size := ⟨_, rfl⟩
    obtain ⟨w3, hw3⟩ : ∃ w3, w3 = wd.alloc (.cells (madeCells #[.int .i64 0] NL) 3) := ⟨_, rfl⟩
    have qg3 : w3.heap[gn]? = some (.cells (madeCells #[.int .i64 0] NL) 3 (0, 0)) := by rw [hw3, hgn]; exact heap_alloc_new wd _
    have qa3 : w3.heap[A]? = some (.cells #[.slice (some ⟨gs, 0, none⟩) NL cs, .int .i64 (f : Int), .int .i64 (t : Int)] 75 (0, 0)) := by rw [hw3, Below.heap_alloc _ _ _ hdA]; exact qd
    have b3 : Below w.heap.size w w3 := by rw [hw3]; exact bd.alloc bd.size _
    have hgnw : w.heap.size ≤ gn := by rw [hgn]; exact bd.size
    rw [← hw3] at hHeld
    rw [← hgn, ← hw3]
    have hgl : gn < w3.heap.size := (Array.getElem?_eq_some_iff.1 qg3).1
    have hAl : A < w3.heap.size := (Array.getElem?_eq_some_iff.1 qa3).1
    refine drawn_take (i := 6) (v := .agg #[.slice (some ⟨gs, 0, none⟩) NL cs, .int .i64 1, .slice (some ⟨gn, 0, none⟩) NL NL, .slice none 0 0, .slice none 0 0]) (some 14) rfl rfl (by kernel_rfl) (by kernel_rfl) (by kernel_rfl) (fun _ _ _ h => h) (Or.inl ⟨by kernel_rfl, fun wq hw => by go_simp⟩) hHeld ?_
    simp only [Act.put, List.setIfInBounds_toArray, List.set_cons_succ, List.set_cons_zero]
    refine wpAnyH_ready (rs := [7]) (by kernel_rfl) (by simp) ?_
    refine rdy_val (i := 7) rfl rfl (some 5) rfl (.pointer (some ⟨w3.heap.size, 0, none⟩)) (w3.alloc (.cells #[.slice none 0 0, .int .i64 0, .slice none 0 0, .slice none 0 0, .slice none 0 0] 86)) (by go_simp) (by rw [World.cell?_of_block (w := w3) (Below.heap_alloc _ _ _ hAl)]; exact cell_of_row _ _ _ _ _ _ qa3) (fun hHeld => ?_) rdy_nil
    simp only [Act.put, List.setIfInBounds_toArray, List.set_cons_succ, List.set_cons_zero]
    obtain ⟨fb, hfb⟩ : ∃ fb, fb = w3.heap.size := ⟨_, rfl⟩
    obtain ⟨w4, hw4⟩ : ∃ w4, w4 = w3.alloc (.cells #[.slice none 0 0, .int .i64 0, .slice none 0 0, .slice none 0 0, .slice none 0 0] 86) := ⟨_, rfl⟩
    have q4 : w4.heap[fb]? = some (.cells #[.slice none 0 0, .int .i64 0, .slice none 0 0, .slice none 0 0, .slice none 0 0] 86 (0, 0)) := by rw [hw4, hfb]; exact heap_alloc_new w3 _
    have qg4 : w4.heap[gn]? = some (.cells (madeCells #[.int .i64 0] NL) 3 (0, 0)) := by rw [hw4, Below.heap_alloc _ _ _ hgl]; exact qg3
    have qa4 : w4.heap[A]? = some (.cells #[.slice (some ⟨gs, 0, none⟩) NL cs, .int .i64 (f : Int), .int .i64 (t : Int)] 75 (0, 0)) := by rw [hw4, Below.heap_alloc _ _ _ hAl]; exact qa3
    have b4 : Below w.heap.size w w4 := by rw [hw4]; exact b3.alloc b3.size _
    have hfbw : w.heap.size ≤ fb := by rw [hfb]; exact b3.size
    have hfg : fb ≠ gn := by omega
    have hfA : A ≠ fb := by omega
    have hgA : A ≠ gn := by omega
    rw [← hw4] at hHeld
    rw [← hfb, ← hw4]
    clear hw4 hfb hw3 hgn
    refine wpAnyH_ready (rs := [8]) (by kernel_rfl) (by simp) ?_
    obtain ⟨⟨m0, m1, m2, m3, m4⟩, mf, q5, hoth, hbel⟩ := fin5 q4 (.slice (some ⟨gs, 0, none⟩) NL cs) (.int .i64 1) (.slice (some ⟨gn, 0, none⟩) NL NL) (.slice none 0 0) (.slice none 0 0)
    have mf0 := mf 0
    have mf1 := mf 1
    have mf2 := mf 2
    have mf3 := mf 3
    have mf4 := mf 4
    obtain ⟨w5, hw5⟩ : ∃ w5, w5 = (((((w4.setCell ⟨fb, 0, none⟩ (.slice (some ⟨gs, 0, none⟩) NL cs)).setCell ⟨fb, 1, none⟩ (.int .i64 1)).setCell ⟨fb, 2, none⟩ (.slice (some ⟨gn, 0, none⟩) NL NL)).setCell ⟨fb, 3, none⟩ (.slice none 0 0)).setCell ⟨fb, 4, none⟩ (.slice none 0 0)) := ⟨_, rfl⟩
    have b5 : Below w.heap.size w w5 := by rw [hw5]; exact hbel _ _ b4 hfbw
    have qf5 : w5.heap[fb]? = some (.cells #[.slice (some ⟨gs, 0, none⟩) NL cs, .int .i64 1, .slice (some ⟨gn, 0, none⟩) NL NL, .slice none 0 0, .slice none 0 0] 86 (0, 0)) := by rw [hw5]; exact q5
    have qg5 : w5.heap[gn]? = some (.cells (madeCells #[.int .i64 0] NL) 3 (0, 0)) := by rw [hw5, hoth gn (fun e => hfg e.symm)]; exact qg4
    have qa5 : w5.heap[A]? = some (.cells #[.slice (some ⟨gs, 0, none⟩) NL cs, .int .i64 (f : Int), .int .i64 (t : Int)] 75 (0, 0)) := by rw [hw5, hoth A hfA]; exact qa4
    refine rx_rdy_unit (i := 8) rfl rfl none rfl w5 (by rw [hw5]; go_simp) (cell_of_row _ _ _ _ _ _ qa5) (fun hHeld => ?_) rdy_nil
    refine wpAnyH_done (by kernel_rfl) ?_ _
    refine NoPanic.normal ?_
    simp only [Act.put]
    have hF5 := FRx.init hst hrows b5 fb gn hfbw hgnw hfg hlm (by rw [← HNL.out]; exact qf5) (by rw [← HNL.out]; exact qg5)
    clear hHeld m0 m1 m2 m3 m4 mf mf0 mf1 mf2 mf3 mf4 hoth hbel hw5 q5 q4 qg4 qa4 b4 hwd
    have ca1 : w5.cell? ⟨A, 1, none⟩ = some (.int .i64 (f : Int)) := cell_of_row _ _ _ _ _ _ qa5
    go_wp2_with fail
    have hcall := (reach_all (L.length + 1)).1 fb _ L 1 (List.replicate L.length 0, []) [] (.slice (some ⟨gs, 0, none⟩) L.length cs) V (.slice none 0 0) 3 4 f w5 hF5 hm.wf hm.sz (by omega) (by simp only [List.length_nil]; have := unseen_le 1 (List.replicate L.length 0); simp at this; omega) (by have := unseen_le 1 (List.replicate L.length 0); simp at this; simp only; omega) (fun y hy => by simp at hy; omega) hm.f
    have HC := hidn hcall
    have hz0 : ∀ k, k < w.heap.size → (fun k => if k = fb then 1 else if k = gn then 2 else 0 : Nat → Nat) k = 0 := fun k hk => by show (if k = fb then 1 else if k = gn then 2 else 0) = 0; rw [if_neg (by omega), if_neg (by omega)]
    have hzA : (fun k => if k = fb then 1 else if k = gn then 2 else 0 : Nat → Nat) A = 0 := by show (if A = fb then 1 else if A = gn then 2 else 0) = 0; rw [if_neg hfA, if_neg hgA]
    obtain ⟨φ0, hφ0⟩ : ∃ φ0, φ0 = (fun k => if k = fb then 1 else if k = gn then 2 else 0 : Nat → Nat) := ⟨_, rfl⟩
    rw [← hφ0] at HC hz0 hzA
    have hfk := reach_FK L 1 (L.length + 1) f (List.replicate L.length 0, []) (by simp)
    obtain ⟨x0, hx0⟩ : ∃ x0, x0 = reachF L 1 (L.length + 1) f (List.replicate L.length 0, []) := ⟨_, rfl⟩
    rw [← hx0] at HC hfk
    have HZ0 : Hid (Z = fitsF L t s (s.size + 1) 0 1 x0) := hidn (by rw [HZ.out, hx0]; rfl)
    have hx0le := hfk.le (fun y hy => by simp at hy; omega)
    have hx0lt := hfk.lt (fun y hy => by simp at hy)
    have hx0tk : x0.2.length ≤ 1000 := by
      have h1 := hfk.tk
      have h2 := unseen_le 1 (List.replicate L.length 0)
      simp at h1 h2
      omega
    clear hcall hF5 hφ0 hx0 hfk ca1
    refine HC.out.mono ?_
    rintro e w6 ⟨rfl, φ6, h6, G6⟩
    obtain ⟨qa6, za6⟩ := G6.blk qa5 hzA
    have b6 : Below w.heap.size w w6 := b5.trans (G6.below b5.size hz0)
    have hz6 : ∀ k, k < w.heap.size → φ6 k = 0 := fun k hk => (G6.2 k (Nat.lt_of_lt_of_le hk b5.size)).trans (hz0 k hk)
    go_wp2_with fail
    go_loopw [] (fun wr => ∃ (pos fuel rd : Nat) (x : rx_Fr) (φ : Nat → Nat) (bf : List Nat) (bv : Value) (a b : Nat), FRx wr fb φ L rd x bf (.slice (some ⟨gs, 0, none⟩) L.length cs) V bv a b ∧ wr.heap[w6.heap.size]? = some (.stringIter s pos) ∧ wr.heap[A]? = some (.cells #[.slice (some ⟨gs, 0, none⟩) NL cs, .int .i64 (f : Int), .int .i64 (t : Int)] 75 (0, 0)) ∧ φ A = 0 ∧ φ w6.heap.size = 0 ∧ (∀ k, k < w.heap.size → φ k = 0) ∧ Below w.heap.size w wr ∧ (s.size < pos + fuel ∧ 1 ≤ fuel ∧ rd ≤ pos + 1 ∧ pos ≤ s.size + 4) ∧ (∀ y ∈ x.1, y ≤ rd) ∧ (∀ y ∈ x.2, y < L.length) ∧ x.2.length ≤ 1000 ∧ Hid (Z = fitsF L t s fuel pos rd x)) (fun wr => s.size - wr.iterPos w6.heap.size)
    case atStart =>
      have bi : Below w6.heap.size w6 (w6.iter s 0) := (Below.refl _ w6).alloc (Nat.le_refl _) _
      refine ⟨0, s.size + 1, 1, x0, φ6, [], _, 3, 4, h6.below bi, ?_, (bi.block _ (Array.getElem?_eq_some_iff.1 qa6).1).trans qa6, za6, ?_, hz6, b6.trans (bi.mono b6.size), ⟨by omega, by omega, by omega, by omega⟩, hx0le, hx0lt, hx0tk, HZ0⟩
      · have := World.iter_heap w6 s 0
        simpa using this
      · obtain ⟨_, _, q⟩ := h6
        exact q.free _ (Nat.le_refl _)
    case round =>
      obtain ⟨pos, fuel, rd, x, φ, bf, bv, a, b, hF, hit, qa, zA, zi, hz, hbw, ⟨hfu, hfu1, hrdp, hpos⟩, hle, hlt, htk, HPk⟩ := hrel
      have ht : t < L.length := hm.t
      have hsz6 : w6.heap.size < wr.heap.size := (Array.getElem?_eq_some_iff.1 hit).1
      by_cases hp : pos < s.size
      · have hnx : ∀ ty, (Instr.next (.pointer (some ⟨w6.heap.size, 0, none⟩)) true ty).run Try.prog wr = _ := fun ty => Lib.run_next_any_at wr w6.heap.size s pos ty hit hp
        have hwd := width_pos s pos hp
        have hwd4 : (Utf8.decode s pos).2 ≤ 4 := by
          unfold Utf8.decode
          simp only [Utf8.runeError]
          repeat' split
          all_goals simp
        obtain ⟨fu, rfl⟩ : ∃ fu, fuel = fu + 1 := ⟨fuel - 1, by omega⟩
        have hit2 := Lib.iterAt_heap wr w6.heap.size s pos (pos + (Utf8.decode s pos).2) hit
        have hbw2 := Lib.below_iterAt hbw (k := w6.heap.size) b6.size s (pos + (Utf8.decode s pos).2)
        have hF2 := hF.iter hit (pos + (Utf8.decode s pos).2)
        have qa2 : (wr.iterAt w6.heap.size s (pos + (Utf8.decode s pos).2)).heap[A]? = some (.cells #[.slice (some ⟨gs, 0, none⟩) NL cs, .int .i64 (f : Int), .int .i64 (t : Int)] 75 (0, 0)) := by rw [Lib.iterAt_other _ _ _ _ _ (fun e => by rw [e, hit] at qa; cases qa)]; exact qa
        have hme : ∀ W : World, W.heap[w6.heap.size]? = some (.stringIter s (pos + (Utf8.decode s pos).2)) → s.size - W.iterPos w6.heap.size < s.size - wr.iterPos w6.heap.size := by
          intro W h; simp only [World.iterPos, h, hit]; omega
        have HME := hidn hme
        clear hme hF
        generalize hW : wr.iterAt w6.heap.size s (pos + (Utf8.decode s pos).2) = wi at *
        have HW := hidn hW
        clear hW
        have HS : Hid (Z = if (passF L (rd + 1) (L.length + 1) ((Utf8.decode s pos).1 : Int) x.2 (x.1, [])).2.length = 0 ∧ ¬ (passF L (rd + 1) (L.length + 1) ((Utf8.decode s pos).1 : Int) x.2 (x.1, [])).1[t]? = some (rd + 1) then false else fitsF L t s fu (pos + (Utf8.decode s pos).2) (rd + 1) (passF L (rd + 1) (L.length + 1) ((Utf8.decode s pos).1 : Int) x.2 (x.1, []))) := hidn (by rw [HPk.out]; simp only [fitsF]; rw [if_pos hp])
        generalize hR : (Utf8.decode s pos).1 = rn at *
        have HR := hidn hR
        clear hR HPk
        obtain ⟨q, hq⟩ : ∃ q, q = pos + (Utf8.decode s pos).2 := ⟨_, rfl⟩
        rw [← hq] at hit2 HS HME
        have hq1 : pos + 1 ≤ q := by omega
        have hq2 : q ≤ s.size + 4 := by omega
        have hxl : x.1.length = L.length := by obtain ⟨_, _, q⟩ := hF2; exact q.len
        have hcall := pass_any fb φ L rd x bf (.slice (some ⟨gs, 0, none⟩) L.length cs) V bv a b (rn : Int) wi hF2 hm.wf hm.sz (by omega) hle hlt htk
        have HC2 := hidn hcall
        have hfk := pass_FK L (rd + 1) (L.length + 1) (rn : Int) x.2 (x.1, []) hxl
        obtain ⟨y, hy⟩ : ∃ y, y = passF L (rd + 1) (L.length + 1) (rn : Int) x.2 (x.1, []) := ⟨_, rfl⟩
        rw [← hy] at HC2 HS hfk
        have hyle := hfk.le (fun z hz => by have := hle z hz; omega)
        have hylt := hfk.lt (fun z hz => by simp at hz)
        have hytk : y.2.length ≤ 1000 := by
          have h1 := hfk.tk
          have h2 := unseen_le (rd + 1) x.1
          simp only [List.length_nil] at h1
          omega
        clear hcall hy hq hfk hF2 hit
        go_wp2_with fail
        refine HC2.out.mono ?_
        rintro e w8 ⟨rfl, φ8, bf8, bv8, a8, b8, h8, G8⟩
        obtain ⟨qa8, za8⟩ := G8.blk qa2 zA
        obtain ⟨qi8, zi8⟩ := G8.blk hit2 zi
        have hwiz : w.heap.size ≤ wi.heap.size := hbw2.size
        have b8' : Below w.heap.size w w8 := hbw2.trans (G8.below hwiz hz)
        have hz8 : ∀ k, k < w.heap.size → φ8 k = 0 := fun k hk => (G8.2 k (Nat.lt_of_lt_of_le hk hwiz)).trans (hz k hk)
        obtain ⟨g, c, ta, tc, v, e1, e2, e3, e4, hv⟩ := h8.look ht
        have ea : w8.cell? ⟨A, 2, none⟩ = some (.int .i64 (t : Int)) := cell_of_row _ _ _ _ _ _ qa8
        rw [← HNL.out] at e2
        obtain ⟨r1, hr1⟩ : ∃ r1, r1 = rd + 1 := ⟨_, rfl⟩
        obtain ⟨yl, hyl⟩ : ∃ yl, yl = y.2.length := ⟨_, rfl⟩
        rw [← hr1] at e1
        rw [← hyl] at e3
        have htN : t < NL := by rw [HNL.out]; exact ht
        have htN2 : (t : Int) < (NL : Int) := by omega
        have HR1 := hidn hr1
        have HYL := hidn hyl
        clear hr1 hyl HC2
        by_cases l0 : yl = 0
        · have l1 : ((yl : Int) == 0) = true := by simp; omega
          by_cases v0 : v = r1
          · have v1 : ((v : Int) != (r1 : Int)) = false := by simp; omega
            have v2 : ((v : Int) == (r1 : Int)) = true := by simp; omega
            have hS2 : Hid (Z = fitsF L t s fu q (rd + 1) y) := hidn (by rw [HS.out, if_neg]; rintro ⟨_, hh⟩; exact hh (by rw [hv, v0, HR1.out]))
            clear v0 l0
            go_wp2_with fail
            go_quiet (fail)
            obtain ⟨w9, hw9⟩ : ∃ w9, w9 = w8.drewN nq := ⟨_, rfl⟩
            rw [← hw9]
            have b9 : Below w8.heap.size w8 w9 := by rw [hw9]; exact below_drewN (Below.refl _ _) _
            have HB9 := hidn b9
            clear hw9
            go_wp2_with fail
            exact ⟨⟨q, fu, rd + 1, y, φ8, bf8, bv8, a8, b8, h8.below HB9.out, (HB9.out.block _ (Array.getElem?_eq_some_iff.1 qi8).1).trans qi8, (HB9.out.block _ (Array.getElem?_eq_some_iff.1 qa8).1).trans qa8, za8, zi8, hz8, b8'.trans (HB9.out.mono b8'.size), ⟨by omega, by omega, by omega, hq2⟩, hyle, hylt, hytk, hS2⟩, HME.out _ ((HB9.out.block _ (Array.getElem?_eq_some_iff.1 qi8).1).trans qi8)⟩
          · have v1 : ((v : Int) != (r1 : Int)) = true := by simp; omega
            have v2 : ((v : Int) == (r1 : Int)) = false := by simp; omega
            have hS2 : Hid (Z = false) := hidn (by rw [HS.out, if_pos]; exact ⟨by rw [← HYL.out, l0], by rw [hv, ← HR1.out]; simpa using v0⟩)
            go_wp2_with fail
            go_quiet (fail)
            obtain ⟨w9, hw9⟩ : ∃ w9, w9 = w8.drewN nq := ⟨_, rfl⟩
            rw [← hw9]
            have b9 : Below w8.heap.size w8 w9 := by rw [hw9]; exact below_drewN (Below.refl _ _) _
            clear hw9
            go_wp2_with fail
            exact bodyPost_ret (v := .bool false) (by simp [results, Try.results39, go_sem]) rfl ⟨by rw [hS2.out], b8'.trans (b9.mono b8'.size)⟩
        · have l1 : ((yl : Int) == 0) = false := by simp; omega
          have hS2 : Hid (Z = fitsF L t s fu q (rd + 1) y) := hidn (by rw [HS.out, if_neg]; rintro ⟨hh, _⟩; rw [← HYL.out] at hh; exact l0 hh)
          go_wp2_with fail
          go_quiet (fail)
          obtain ⟨w9, hw9⟩ : ∃ w9, w9 = w8.drewN nq := ⟨_, rfl⟩
          rw [← hw9]
          have b9 : Below w8.heap.size w8 w9 := by rw [hw9]; exact below_drewN (Below.refl _ _) _
          have HB9 := hidn b9
          clear hw9
          go_wp2_with fail
          exact ⟨⟨q, fu, rd + 1, y, φ8, bf8, bv8, a8, b8, h8.below HB9.out, (HB9.out.block _ (Array.getElem?_eq_some_iff.1 qi8).1).trans qi8, (HB9.out.block _ (Array.getElem?_eq_some_iff.1 qa8).1).trans qa8, za8, zi8, hz8, b8'.trans (HB9.out.mono b8'.size), ⟨by omega, by omega, by omega, hq2⟩, hyle, hylt, hytk, hS2⟩, HME.out _ ((HB9.out.block _ (Array.getElem?_eq_some_iff.1 qi8).1).trans qi8)⟩
      · have hnx : ∀ ty, (Instr.next (.pointer (some ⟨w6.heap.size, 0, none⟩)) true ty).run Try.prog wr = _ := fun ty => Lib.run_next_end_at wr w6.heap.size s pos ty hit hp
        obtain ⟨g, c, ta, tc, v, e1, e2, e3, e4, hv⟩ := hF.look ht
        have hPv : Hid (Z = decide (v = rd)) := hidn (by
          rw [HPk.out]
          cases fuel with
          | zero => omega
          | succ f => simp only [fitsF]; rw [if_neg hp, hv]; simp)
        have ea : wr.cell? ⟨A, 2, none⟩ = some (.int .i64 (t : Int)) := cell_of_row _ _ _ _ _ _ qa
        rw [← HNL.out] at e2
        have htN : t < NL := by rw [HNL.out]; exact ht
        have htN2 : (t : Int) < (NL : Int) := by omega
        have hdv : ((v : Int) == (rd : Int)) = decide (v = rd) := by
          by_cases hh : v = rd
          · simp [hh]
          · simp [hh]; omega
        go_wp2_with fail
        go_quiet (fail)
        obtain ⟨w9, hw9⟩ : ∃ w9, w9 = wr.drewN nq := ⟨_, rfl⟩
        rw [← hw9]
        have b9 : Below wr.heap.size wr w9 := by rw [hw9]; exact below_drewN (Below.refl _ _) _
        clear hw9
        go_wp2_with fail
        exact bodyPost_ret (v := .bool (decide (v = rd))) (by simp [results, Try.results39, go_sem]) rfl ⟨by rw [hPv.out], hbw.trans (b9.mono hbw.size)⟩
  · refine rdy_val (i := 7) rfl rfl (some 5) rfl (.pointer (some ⟨wd.heap.size, 0, none⟩)) (wd.alloc (.cells #[.slice none 0 0, .int .i64 0, .slice none 0 0, .slice none 0 0, .slice none 0 0] 86)) (by go_simp) (by rw [World.cell?_of_block (w := wd) (Below.heap_alloc _ _ _ hdA)]; exact cd0) (fun hHeld => ?_) rdy_nil
    simp only [Act.put, List.setIfInBounds_toArray, List.set_cons_succ, List.set_cons_zero]
    obtain ⟨fb, hfb⟩ : ∃ fb, fb = wd.heap.size := ⟨_, rfl⟩
    obtain ⟨w3, hw3⟩ : ∃ w3, w3 = wd.alloc (.cells #[.slice none 0 0, .int .i64 0, .slice none 0 0, .slice none 0 0, .slice none 0 0] 86) := ⟨_, rfl⟩
    have q3 : w3.heap[fb]? = some (.cells #[.slice none 0 0, .int .i64 0, .slice none 0 0, .slice none 0 0, .slice none 0 0] 86 (0, 0)) := by rw [hw3, hfb]; exact heap_alloc_new wd _
    have qa3 : w3.heap[A]? = some (.cells #[.slice (some ⟨gs, 0, none⟩) NL cs, .int .i64 (f : Int), .int .i64 (t : Int)] 75 (0, 0)) := by rw [hw3, Below.heap_alloc _ _ _ hdA]; exact qd
    have b3 : Below w.heap.size w w3 := by rw [hw3]; exact bd.alloc bd.size _
    have hfbw : w.heap.size ≤ fb := by rw [hfb]; exact bd.size
    rw [← hw3] at hHeld
    rw [← hfb, ← hw3]
    have hfl : fb < w3.heap.size := (Array.getElem?_eq_some_iff.1 q3).1
    have hAl : A < w3.heap.size := (Array.getElem?_eq_some_iff.1 qa3).1
    refine wpAnyH_ready (rs := [5]) (by kernel_rfl) (by simp) ?_
    refine rdy_val (i := 5) rfl rfl (some 13) rfl (.slice (some ⟨w3.heap.size, 0, none⟩) NL NL) (w3.alloc (.cells (madeCells #[.int .i64 0] NL) 3)) (rx_mk_run (x := .tmp 12) (by kernel_rfl) (by kernel_rfl) (hmk w3)) (by rw [World.cell?_of_block (w := w3) (Below.heap_alloc _ _ _ hAl)]; exact cell_of_row _ _ _ _ _ _ qa3) (fun hHeld => ?_) rdy_nil
    simp only [Act.put, List.setIfInBounds_toArray, List.set_cons_succ, List.set_cons_zero]
    obtain ⟨gn, hgn⟩ : ∃ gn, gn = w3.heap.size := ⟨_, rfl⟩
    obtain ⟨w4, hw4⟩ : ∃ w4, w4 = w3.alloc (.cells (madeCells #[.int .i64 0] NL) 3) := ⟨_, rfl⟩
    have qg4 : w4.heap[gn]? = some (.cells (madeCells #[.int .i64 0] NL) 3 (0, 0)) := by rw [hw4, hgn]; exact heap_alloc_new w3 _
    have q4 : w4.heap[fb]? = some (.cells #[.slice none 0 0, .int .i64 0, .slice none 0 0, .slice none 0 0, .slice none 0 0] 86 (0, 0)) := by rw [hw4, Below.heap_alloc _ _ _ hfl]; exact q3
    have qa4 : w4.heap[A]? = some (.cells #[.slice (some ⟨gs, 0, none⟩) NL cs, .int .i64 (f : Int), .int .i64 (t : Int)] 75 (0, 0)) := by rw [hw4, Below.heap_alloc _ _ _ hAl]; exact qa3
    have b4 : Below w.heap.size w w4 := by rw [hw4]; exact b3.alloc b3.size _
    have hgnw : w.heap.size ≤ gn := by rw [hgn]; exact b3.size
    have hfg : fb ≠ gn := by omega
    have hfA : A ≠ fb := by omega
    have hgA : A ≠ gn := by omega
    rw [← hw4] at hHeld
    rw [← hgn, ← hw4]
    clear hw4 hgn hw3 hfb
    refine drawn_take (i := 6) (v := .agg #[.slice (some ⟨gs, 0, none⟩) NL cs, .int .i64 1, .slice (some ⟨gn, 0, none⟩) NL NL, .slice none 0 0, .slice none 0 0]) (some 14) rfl rfl (by kernel_rfl) (by kernel_rfl) (by kernel_rfl) (fun _ _ _ h => h) (Or.inl ⟨by kernel_rfl, fun wq hw => by go_simp⟩) hHeld ?_
    simp only [Act.put, List.setIfInBounds_toArray, List.set_cons_succ, List.set_cons_zero]
    refine wpAnyH_ready (rs := [8]) (by kernel_rfl) (by simp) ?_
    obtain ⟨⟨m0, m1, m2, m3, m4⟩, mf, q5, hoth, hbel⟩ := fin5 q4 (.slice (some ⟨gs, 0, none⟩) NL cs) (.int .i64 1) (.slice (some ⟨gn, 0, none⟩) NL NL) (.slice none 0 0) (.slice none 0 0)
    have mf0 := mf 0
    have mf1 := mf 1
    have mf2 := mf 2
    have mf3 := mf 3
    have mf4 := mf 4
    obtain ⟨w5, hw5⟩ : ∃ w5, w5 = (((((w4.setCell ⟨fb, 0, none⟩ (.slice (some ⟨gs, 0, none⟩) NL cs)).setCell ⟨fb, 1, none⟩ (.int .i64 1)).setCell ⟨fb, 2, none⟩ (.slice (some ⟨gn, 0, none⟩) NL NL)).setCell ⟨fb, 3, none⟩ (.slice none 0 0)).setCell ⟨fb, 4, none⟩ (.slice none 0 0)) := ⟨_, rfl⟩
    have b5 : Below w.heap.size w w5 := by rw [hw5]; exact hbel _ _ b4 hfbw
    have qf5 : w5.heap[fb]? = some (.cells #[.slice (some ⟨gs, 0, none⟩) NL cs, .int .i64 1, .slice (some ⟨gn, 0, none⟩) NL NL, .slice none 0 0, .slice none 0 0] 86 (0, 0)) := by rw [hw5]; exact q5
    have qg5 : w5.heap[gn]? = some (.cells (madeCells #[.int .i64 0] NL) 3 (0, 0)) := by rw [hw5, hoth gn (fun e => hfg e.symm)]; exact qg4
    have qa5 : w5.heap[A]? = some (.cells #[.slice (some ⟨gs, 0, none⟩) NL cs, .int .i64 (f : Int), .int .i64 (t : Int)] 75 (0, 0)) := by rw [hw5, hoth A hfA]; exact qa4
    refine rx_rdy_unit (i := 8) rfl rfl none rfl w5 (by rw [hw5]; go_simp) (cell_of_row _ _ _ _ _ _ qa5) (fun hHeld => ?_) rdy_nil
    refine wpAnyH_done (by kernel_rfl) ?_ _
    refine NoPanic.normal ?_
    simp only [Act.put]
    have hF5 := FRx.init hst hrows b5 fb gn hfbw hgnw hfg hlm (by rw [← HNL.out]; exact qf5) (by rw [← HNL.out]; exact qg5)
    clear hHeld m0 m1 m2 m3 m4 mf mf0 mf1 mf2 mf3 mf4 hoth hbel hw5 q5 q4 qg4 qa4 b4 hwd
    have ca1 : w5.cell? ⟨A, 1, none⟩ = some (.int .i64 (f : Int)) := cell_of_row _ _ _ _ _ _ qa5
    go_wp2_with fail
    have hcall := (reach_all (L.length + 1)).1 fb _ L 1 (List.replicate L.length 0, []) [] (.slice (some ⟨gs, 0, none⟩) L.length cs) V (.slice none 0 0) 3 4 f w5 hF5 hm.wf hm.sz (by omega) (by simp only [List.length_nil]; have := unseen_le 1 (List.replicate L.length 0); simp at this; omega) (by have := unseen_le 1 (List.replicate L.length 0); simp at this; simp only; omega) (fun y hy => by simp at hy; omega) hm.f
    have HC := hidn hcall
    have hz0 : ∀ k, k < w.heap.size → (fun k => if k = fb then 1 else if k = gn then 2 else 0 : Nat → Nat) k = 0 := fun k hk => by show (if k = fb then 1 else if k = gn then 2 else 0) = 0; rw [if_neg (by omega), if_neg (by omega)]
    have hzA : (fun k => if k = fb then 1 else if k = gn then 2 else 0 : Nat → Nat) A = 0 := by show (if A = fb then 1 else if A = gn then 2 else 0) = 0; rw [if_neg hfA, if_neg hgA]
    obtain ⟨φ0, hφ0⟩ : ∃ φ0, φ0 = (fun k => if k = fb then 1 else if k = gn then 2 else 0 : Nat → Nat) := ⟨_, rfl⟩
    rw [← hφ0] at HC hz0 hzA
    have hfk := reach_FK L 1 (L.length + 1) f (List.replicate L.length 0, []) (by simp)
    obtain ⟨x0, hx0⟩ : ∃ x0, x0 = reachF L 1 (L.length + 1) f (List.replicate L.length 0, []) := ⟨_, rfl⟩
    rw [← hx0] at HC hfk
    have HZ0 : Hid (Z = fitsF L t s (s.size + 1) 0 1 x0) := hidn (by rw [HZ.out, hx0]; rfl)
    have hx0le := hfk.le (fun y hy => by simp at hy; omega)
    have hx0lt := hfk.lt (fun y hy => by simp at hy)
    have hx0tk : x0.2.length ≤ 1000 := by
      have h1 := hfk.tk
      have h2 := unseen_le 1 (List.replicate L.length 0)
      simp at h1 h2
      omega
    clear hcall hF5 hφ0 hx0 hfk ca1
    refine HC.out.mono ?_
    rintro e w6 ⟨rfl, φ6, h6, G6⟩
    obtain ⟨qa6, za6⟩ := G6.blk qa5 hzA
    have b6 : Below w.heap.size w w6 := b5.trans (G6.below b5.size hz0)
    have hz6 : ∀ k, k < w.heap.size → φ6 k = 0 := fun k hk => (G6.2 k (Nat.lt_of_lt_of_le hk b5.size)).trans (hz0 k hk)
    go_wp2_with fail
    go_loopw [] (fun wr => ∃ (pos fuel rd : Nat) (x : rx_Fr) (φ : Nat → Nat) (bf : List Nat) (bv : Value) (a b : Nat), FRx wr fb φ L rd x bf (.slice (some ⟨gs, 0, none⟩) L.length cs) V bv a b ∧ wr.heap[w6.heap.size]? = some (.stringIter s pos) ∧ wr.heap[A]? = some (.cells #[.slice (some ⟨gs, 0, none⟩) NL cs, .int .i64 (f : Int), .int .i64 (t : Int)] 75 (0, 0)) ∧ φ A = 0 ∧ φ w6.heap.size = 0 ∧ (∀ k, k < w.heap.size → φ k = 0) ∧ Below w.heap.size w wr ∧ (s.size < pos + fuel ∧ 1 ≤ fuel ∧ rd ≤ pos + 1 ∧ pos ≤ s.size + 4) ∧ (∀ y ∈ x.1, y ≤ rd) ∧ (∀ y ∈ x.2, y < L.length) ∧ x.2.length ≤ 1000 ∧ Hid (Z = fitsF L t s fuel pos rd x)) (fun wr => s.size - wr.iterPos w6.heap.size)
    case atStart =>
      have bi : Below w6.heap.size w6 (w6.iter s 0) := (Below.refl _ w6).alloc (Nat.le_refl _) _
      refine ⟨0, s.size + 1, 1, x0, φ6, [], _, 3, 4, h6.below bi, ?_, (bi.block _ (Array.getElem?_eq_some_iff.1 qa6).1).trans qa6, za6, ?_, hz6, b6.trans (bi.mono b6.size), ⟨by omega, by omega, by omega, by omega⟩, hx0le, hx0lt, hx0tk, HZ0⟩
      · have := World.iter_heap w6 s 0
        simpa using this
      · obtain ⟨_, _, q⟩ := h6
        exact q.free _ (Nat.le_refl _)
    case round =>
      obtain ⟨pos, fuel, rd, x, φ, bf, bv, a, b, hF, hit, qa, zA, zi, hz, hbw, ⟨hfu, hfu1, hrdp, hpos⟩, hle, hlt, htk, HPk⟩ := hrel
      have ht : t < L.length := hm.t
      have hsz6 : w6.heap.size < wr.heap.size := (Array.getElem?_eq_some_iff.1 hit).1
      by_cases hp : pos < s.size
      · have hnx : ∀ ty, (Instr.next (.pointer (some ⟨w6.heap.size, 0, none⟩)) true ty).run Try.prog wr = _ := fun ty => Lib.run_next_any_at wr w6.heap.size s pos ty hit hp
        have hwd := width_pos s pos hp
        have hwd4 : (Utf8.decode s pos).2 ≤ 4 := by
          unfold Utf8.decode
          simp only [Utf8.runeError]
          repeat' split
          all_goals simp
        obtain ⟨fu, rfl⟩ : ∃ fu, fuel = fu + 1 := ⟨fuel - 1, by omega⟩
        have hit2 := Lib.iterAt_heap wr w6.heap.size s pos (pos + (Utf8.decode s pos).2) hit
        have hbw2 := Lib.below_iterAt hbw (k := w6.heap.size) b6.size s (pos + (Utf8.decode s pos).2)
        have hF2 := hF.iter hit (pos + (Utf8.decode s pos).2)
        have qa2 : (wr.iterAt w6.heap.size s (pos + (Utf8.decode s pos).2)).heap[A]? = some (.cells #[.slice (some ⟨gs, 0, none⟩) NL cs, .int .i64 (f : Int), .int .i64 (t : Int)] 75 (0, 0)) := by rw [Lib.iterAt_other _ _ _ _ _ (fun e => by rw [e, hit] at qa; cases qa)]; exact qa
        have hme : ∀ W : World, W.heap[w6.heap.size]? = some (.stringIter s (pos + (Utf8.decode s pos).2)) → s.size - W.iterPos w6.heap.size < s.size - wr.iterPos w6.heap.size := by
          intro W h; simp only [World.iterPos, h, hit]; omega
        have HME := hidn hme
        clear hme hF
        generalize hW : wr.iterAt w6.heap.size s (pos + (Utf8.decode s pos).2) = wi at *
        have HW := hidn hW
        clear hW
        have HS : Hid (Z = if (passF L (rd + 1) (L.length + 1) ((Utf8.decode s pos).1 : Int) x.2 (x.1, [])).2.length = 0 ∧ ¬ (passF L (rd + 1) (L.length + 1) ((Utf8.decode s pos).1 : Int) x.2 (x.1, [])).1[t]? = some (rd + 1) then false else fitsF L t s fu (pos + (Utf8.decode s pos).2) (rd + 1) (passF L (rd + 1) (L.length + 1) ((Utf8.decode s pos).1 : Int) x.2 (x.1, []))) := hidn (by rw [HPk.out]; simp only [fitsF]; rw [if_pos hp])
        generalize hR : (Utf8.decode s pos).1 = rn at *
        have HR := hidn hR
        clear hR HPk
        obtain ⟨q, hq⟩ : ∃ q, q = pos + (Utf8.decode s pos).2 := ⟨_, rfl⟩
        rw [← hq] at hit2 HS HME
        have hq1 : pos + 1 ≤ q := by omega
        have hq2 : q ≤ s.size + 4 := by omega
        have hxl : x.1.length = L.length := by obtain ⟨_, _, q⟩ := hF2; exact q.len
        have hcall := pass_any fb φ L rd x bf (.slice (some ⟨gs, 0, none⟩) L.length cs) V bv a b (rn : Int) wi hF2 hm.wf hm.sz (by omega) hle hlt htk
        have HC2 := hidn hcall
        have hfk := pass_FK L (rd + 1) (L.length + 1) (rn : Int) x.2 (x.1, []) hxl
        obtain ⟨y, hy⟩ : ∃ y, y = passF L (rd + 1) (L.length + 1) (rn : Int) x.2 (x.1, []) := ⟨_, rfl⟩
        rw [← hy] at HC2 HS hfk
        have hyle := hfk.le (fun z hz => by have := hle z hz; omega)
        have hylt := hfk.lt (fun z hz => by simp at hz)
        have hytk : y.2.length ≤ 1000 := by
          have h1 := hfk.tk
          have h2 := unseen_le (rd + 1) x.1
          simp only [List.length_nil] at h1
          omega
        clear hcall hy hq hfk hF2 hit
        go_wp2_with fail
        refine HC2.out.mono ?_
        rintro e w8 ⟨rfl, φ8, bf8, bv8, a8, b8, h8, G8⟩
        obtain ⟨qa8, za8⟩ := G8.blk qa2 zA
        obtain ⟨qi8, zi8⟩ := G8.blk hit2 zi
        have hwiz : w.heap.size ≤ wi.heap.size := hbw2.size
        have b8' : Below w.heap.size w w8 := hbw2.trans (G8.below hwiz hz)
        have hz8 : ∀ k, k < w.heap.size → φ8 k = 0 := fun k hk => (G8.2 k (Nat.lt_of_lt_of_le hk hwiz)).trans (hz k hk)
        obtain ⟨g, c, ta, tc, v, e1, e2, e3, e4, hv⟩ := h8.look ht
        have ea : w8.cell? ⟨A, 2, none⟩ = some (.int .i64 (t : Int)) := cell_of_row _ _ _ _ _ _ qa8
        rw [← HNL.out] at e2
        obtain ⟨r1, hr1⟩ : ∃ r1, r1 = rd + 1 := ⟨_, rfl⟩
        obtain ⟨yl, hyl⟩ : ∃ yl, yl = y.2.length := ⟨_, rfl⟩
        rw [← hr1] at e1
        rw [← hyl] at e3
        have htN : t < NL := by rw [HNL.out]; exact ht
        have htN2 : (t : Int) < (NL : Int) := by omega
        have HR1 := hidn hr1
        have HYL := hidn hyl
        clear hr1 hyl HC2
        by_cases l0 : yl = 0
        · have l1 : ((yl : Int) == 0) = true := by simp; omega
          by_cases v0 : v = r1
          · have v1 : ((v : Int) != (r1 : Int)) = false := by simp; omega
            have v2 : ((v : Int) == (r1 : Int)) = true := by simp; omega
            have hS2 : Hid (Z = fitsF L t s fu q (rd + 1) y) := hidn (by rw [HS.out, if_neg]; rintro ⟨_, hh⟩; exact hh (by rw [hv, v0, HR1.out]))
            clear v0 l0
            go_wp2_with fail
            go_quiet (fail)
            obtain ⟨w9, hw9⟩ : ∃ w9, w9 = w8.drewN nq := ⟨_, rfl⟩
            rw [← hw9]
            have b9 : Below w8.heap.size w8 w9 := by rw [hw9]; exact below_drewN (Below.refl _ _) _
            have HB9 := hidn b9
            clear hw9
            go_wp2_with fail
            exact ⟨⟨q, fu, rd + 1, y, φ8, bf8, bv8, a8, b8, h8.below HB9.out, (HB9.out.block _ (Array.getElem?_eq_some_iff.1 qi8).1).trans qi8, (HB9.out.block _ (Array.getElem?_eq_some_iff.1 qa8).1).trans qa8, za8, zi8, hz8, b8'.trans (HB9.out.mono b8'.size), ⟨by omega, by omega, by omega, hq2⟩, hyle, hylt, hytk, hS2⟩, HME.out _ ((HB9.out.block _ (Array.getElem?_eq_some_iff.1 qi8).1).trans qi8)⟩
          · have v1 : ((v : Int) != (r1 : Int)) = true := by simp; omega
            have v2 : ((v : Int) == (r1 : Int)) = false := by simp; omega
            have hS2 : Hid (Z = false) := hidn (by rw [HS.out, if_pos]; exact ⟨by rw [← HYL.out, l0], by rw [hv, ← HR1.out]; simpa using v0⟩)
            go_wp2_with fail
            go_quiet (fail)
            obtain ⟨w9, hw9⟩ : ∃ w9, w9 = w8.drewN nq := ⟨_, rfl⟩
            rw [← hw9]
            have b9 : Below w8.heap.size w8 w9 := by rw [hw9]; exact below_drewN (Below.refl _ _) _
            clear hw9
            go_wp2_with fail
            exact bodyPost_ret (v := .bool false) (by simp [results, Try.results39, go_sem]) rfl ⟨by rw [hS2.out], b8'.trans (b9.mono b8'.size)⟩
        · have l1 : ((yl : Int) == 0) = false := by simp; omega
          have hS2 : Hid (Z = fitsF L t s fu q (rd + 1) y) := hidn (by rw [HS.out, if_neg]; rintro ⟨hh, _⟩; rw [← HYL.out] at hh; exact l0 hh)
          go_wp2_with fail
          go_quiet (fail)
          obtain ⟨w9, hw9⟩ : ∃ w9, w9 = w8.drewN nq := ⟨_, rfl⟩
          rw [← hw9]
          have b9 : Below w8.heap.size w8 w9 := by rw [hw9]; exact below_drewN (Below.refl _ _) _
          have HB9 := hidn b9
          clear hw9
          go_wp2_with fail
          exact ⟨⟨q, fu, rd + 1, y, φ8, bf8, bv8, a8, b8, h8.below HB9.out, (HB9.out.block _ (Array.getElem?_eq_some_iff.1 qi8).1).trans qi8, (HB9.out.block _ (Array.getElem?_eq_some_iff.1 qa8).1).trans qa8, za8, zi8, hz8, b8'.trans (HB9.out.mono b8'.size), ⟨by omega, by omega, by omega, hq2⟩, hyle, hylt, hytk, hS2⟩, HME.out _ ((HB9.out.block _ (Array.getElem?_eq_some_iff.1 qi8).1).trans qi8)⟩
      · have hnx : ∀ ty, (Instr.next (.pointer (some ⟨w6.heap.size, 0, none⟩)) true ty).run Try.prog wr = _ := fun ty => Lib.run_next_end_at wr w6.heap.size s pos ty hit hp
        obtain ⟨g, c, ta, tc, v, e1, e2, e3, e4, hv⟩ := hF.look ht
        have hPv : Hid (Z = decide (v = rd)) := hidn (by
          rw [HPk.out]
          cases fuel with
          | zero => omega
          | succ f => simp only [fitsF]; rw [if_neg hp, hv]; simp)
        have ea : wr.cell? ⟨A, 2, none⟩ = some (.int .i64 (t : Int)) := cell_of_row _ _ _ _ _ _ qa
        rw [← HNL.out] at e2
        have htN : t < NL := by rw [HNL.out]; exact ht
        have htN2 : (t : Int) < (NL : Int) := by omega
        have hdv : ((v : Int) == (rd : Int)) = decide (v = rd) := by
          by_cases hh : v = rd
          · simp [hh]
          · simp [hh]; omega
        go_wp2_with fail
        go_quiet (fail)
        obtain ⟨w9, hw9⟩ : ∃ w9, w9 = wr.drewN nq := ⟨_, rfl⟩
        rw [← hw9]
        have b9 : Below wr.heap.size wr w9 := by rw [hw9]; exact below_drewN (Below.refl _ _) _
        clear hw9
        go_wp2_with fail
        exact bodyPost_ret (v := .bool (decide (v = rd))) (by simp [results, Try.results39, go_sem]) rfl ⟨by rw [hPv.out], hbw.trans (b9.mono hbw.size)⟩
end Go.Proofs.Ytdgkjiiegmnjfaa
