/- step: a part that takes one code point; around: a part with ways past it and back. -/
import Derived.Test.YtdgkjiiegmnjfaaRxB
namespace Go.Proofs.Ytdgkjiiegmnjfaa
open Go.RowKit Go.Joins
set_option linter.unusedVariables false

def upO (ρ : Nat → Nat) (v : Value) (x : Nat) : Nat → Nat := fun k => if v.ownBlock = some k then x else ρ k
theorem Own.other {w : World} {ρ : Nat → Nat} {e size x n : Nat} {v v' : Value} {xs : List Value} (h : Own w ρ e size x v n xs) (hx : x ≠ 0) (h0 : ∀ g, v'.ownBlock = some g → ρ g = 0) (y : Nat) : Own w (upO ρ v' y) e size x v n xs := by
  refine ⟨h.1, fun g hg => ?_⟩
  unfold upO
  split
  · rename_i e
    have := h0 g e
    rw [h.2 g hg] at this
    exact absurd this hx
  · exact h.2 g hg
theorem Own.named {w : World} {ρ : Nat → Nat} {e size x n : Nat} {v : Value} {xs : List Value} (h : Own w ρ e size x v n xs) (y : Nat) : Own w (upO ρ v y) e size y v n xs := ⟨h.1, fun g hg => by simp [upO, hg]⟩
theorem Own.gw {w w' : World} {ρ ρ' : Nat → Nat} {e size n : Nat} {v : Value} {xs : List Value} (h : Own w ρ e size 0 v n xs) (G : Gw ρ ρ' w w') : Own w' ρ' e size 0 v n xs := h.kp G.1 (fun k hk => hk) G.2
/-- As Gw, but for the block of v. -/
def Gx (v : Value) (ρ ρ' : Nat → Nat) (w w' : World) : Prop := Kp (fun k => ρ k ≠ 0 ∨ v.ownBlock = some k) w w' ∧ ∀ k, k < w.heap.size → v.ownBlock ≠ some k → ρ' k = ρ k
theorem Gx.after {v : Value} {ρ ρ1 ρ' : Nat → Nat} {w0 w w' : World} (h : Gx v ρ1 ρ' w w') (g : Gw ρ ρ1 w0 w) (hv : ∀ k, v.ownBlock = some k → w0.heap.size ≤ k) : Gw ρ ρ' w0 w' := by
  refine ⟨⟨h.1.os.trans g.1.os, h.1.tape.trans g.1.tape, h.1.output.trans g.1.output, Nat.le_trans g.1.size h.1.size, fun i hi hn => ?_⟩, fun i hi => ?_⟩
  · refine (h.1.block i (Nat.lt_of_lt_of_le hi g.1.size) ?_).trans (g.1.block i hi hn)
    rw [g.2 i hi]
    rintro (h1 | h1)
    · exact hn h1
    · have := hv i h1; omega
  · rw [h.2 i (Nat.lt_of_lt_of_le hi g.1.size) (fun e => by have := hv i e; omega), g.2 i hi]
theorem Gx.of {v : Value} {ρ ρ' : Nat → Nat} {w w' : World} (h : Gw ρ ρ' w w') : Gx v ρ ρ' w w' := ⟨⟨h.1.os, h.1.tape, h.1.output, h.1.size, fun i hi hn => h.1.block i hi (fun e => hn (.inl e))⟩, fun k hk _ => h.2 k hk⟩
theorem Gx.trans {v : Value} {ρ ρ1 ρ2 : Nat → Nat} {w w1 w2 : World} (h : Gx v ρ ρ1 w w1) (k : Gx v ρ1 ρ2 w1 w2) : Gx v ρ ρ2 w w2 := by
  refine ⟨⟨k.1.os.trans h.1.os, k.1.tape.trans h.1.tape, k.1.output.trans h.1.output, Nat.le_trans h.1.size k.1.size, fun i hi hn => ?_⟩, fun i hi hn => ?_⟩
  · refine (k.1.block i (Nat.lt_of_lt_of_le hi h.1.size) ?_).trans (h.1.block i hi hn)
    rintro (h1 | h1)
    · rw [h.2 i hi (fun e => hn (.inr e))] at h1
      exact hn (.inl h1)
    · exact hn (.inr h1)
  · rw [k.2 i (Nat.lt_of_lt_of_le hi h.1.size) hn, h.2 i hi hn]
theorem Gx.up {v : Value} {ρ : Nat → Nat} {w w' : World} (x : Nat) (h : Kp (fun k => ρ k ≠ 0) w w') : Gx v ρ (upO ρ v x) w w' :=
  ⟨⟨h.os, h.tape, h.output, h.size, fun i hi hn => h.block i hi (fun e => hn (.inl e))⟩, fun k hk hn => by unfold upO; rw [if_neg hn]⟩
theorem Gw.blk {ρ ρ' : Nat → Nat} {w w' : World} (h : Gw ρ ρ' w w') {k : Nat} {x : Obj} (hk : w.heap[k]? = some x) (h0 : ρ k = 0) : w'.heap[k]? = some x ∧ ρ' k = 0 := by
  have hlt : k < w.heap.size := (Array.getElem?_eq_some_iff.1 hk).1
  exact ⟨(h.1.block k hlt (fun e => e h0)).trans hk, (h.2 k hlt).trans h0⟩
/-- A cell of the call's own. -/
theorem RDx.loc {w : World} {r : Nat} {ρ : Nat → Nat} {R : Rd} (h : RDx w r ρ R) {k : Nat} {cs : Array Value} {t : TypeId} {fz : Nat × Nat} (hk : w.heap[k]? = some (.cells cs t fz)) (ht : t ≠ 90) (h0 : ρ k = 0) (o : Nat) (u : Value) : RDx (w.setCell ⟨k, o, none⟩ u) r ρ R := by
  obtain ⟨la, lc, sv, V, h⟩ := h
  have hr : r ≠ k := by rintro rfl; rw [h.me] at h0; cases h0
  have hy : ∀ y, la = some y → R.1 ≠ [] → y.block ≠ k := by
    rintro y hy hne rfl
    obtain ⟨_, cs', e⟩ := h.sigo y hy hne
    rw [hk] at e
    cases e
    exact ht rfl
  refine ⟨la, lc, sv, V, ?_, h.me, h.cap, h.capm, h.sig.keep (fun y hy' hne _ => Below.heap_setCell _ _ _ _ (hy y hy' hne)), fun y hy' hne => ⟨(h.sigo y hy' hne).1, ?_⟩, h.sts.setCell (by simp only; omega) _, fun i s hs => (h.nx i s hs).setCell (by simp only; omega) _, fun i s hs => (h.sp i s hs).setCell (by simp only; omega) _, fun k hk => h.free k (by simpa [World.setCell] using hk)⟩
  · rw [Below.heap_setCell _ _ _ _ hr]; exact h.blk
  · obtain ⟨cs', e⟩ := (h.sigo y hy' hne).2
    exact ⟨cs', by rw [Below.heap_setCell _ _ _ _ (hy y hy' hne)]; exact e⟩
theorem Kp.loc {F : Nat → Prop} {w w' : World} (h : Kp F w w') {k : Nat} (hk : w.heap.size ≤ k) (o : Nat) (u : Value) : Kp F w (w'.setCell ⟨k, o, none⟩ u) :=
  ⟨h.os, h.tape, h.output, by simpa [World.setCell] using h.size, fun i hi hn => by rw [Below.heap_setCell _ _ _ _ (by simp only; omega)]; exact h.block i hi hn⟩
theorem Gw.loc {ρ ρ' : Nat → Nat} {w w' : World} (h : Gw ρ ρ' w w') {k : Nat} (hk : w.heap.size ≤ k) (o : Nat) (u : Value) : Gw ρ ρ' w (w'.setCell ⟨k, o, none⟩ u) := ⟨h.1.loc hk o u, h.2⟩
theorem Gx.loc {v : Value} {ρ ρ' : Nat → Nat} {w w' : World} (h : Gx v ρ ρ' w w') {k : Nat} (hk : w.heap.size ≤ k) (o : Nat) (u : Value) : Gx v ρ ρ' w (w'.setCell ⟨k, o, none⟩ u) := ⟨h.1.loc hk o u, h.2⟩
/-- A state that takes. -/
theorem RD.mark {w : World} {r : Nat} {ρ : Nat → Nat} {l : List Sg} {L : List St} {la : Option Addr} {lc gs cs : Nat} {V : Nat → Value × Value} (h : RD w r ρ (l, L) la lc (.slice (some ⟨gs, 0, none⟩) L.length cs) V) {i : Nat} {s : St} (hs : L[i]? = some s) (o : Bool) {sv : Value} {sp : List (Int × Int)}
    (hsp : Own w ρ 101 2 0 sv sp.length (vspans sp)) :
    RDx (((w.setCell ⟨gs, i * 4, none⟩ (.bool true)).setCell ⟨gs, i * 4 + 1, none⟩ (.bool o)).setCell ⟨gs, i * 4 + 2, none⟩ sv) r (upO ρ sv (4 + 2 * i)) (l, markR L i o sp) ∧ Kp (fun k => ρ k ≠ 0) w (((w.setCell ⟨gs, i * 4, none⟩ (.bool true)).setCell ⟨gs, i * 4 + 1, none⟩ (.bool o)).setCell ⟨gs, i * 4 + 2, none⟩ sv) := by
  have hgs : ρ gs = 2 := h.sts.2 gs rfl
  have hgr : gs ≠ r := by rintro rfl; rw [h.me] at hgs; cases hgs
  have h0 := hsp.2
  have hrole : ∀ k, ρ k ≠ 0 → upO ρ sv (4 + 2 * i) k = ρ k := by
    intro k hk
    unfold upO
    split
    · rename_i e; exact absurd (h0 k e) hk
    · rfl
  have hgs' : upO ρ sv (4 + 2 * i) gs = 2 := (hrole gs (by omega)).trans hgs
  have hblk : ∀ k, k ≠ gs → (((w.setCell ⟨gs, i * 4, none⟩ (.bool true)).setCell ⟨gs, i * 4 + 1, none⟩ (.bool o)).setCell ⟨gs, i * 4 + 2, none⟩ sv).heap[k]? = w.heap[k]? := by
    intro k hk
    rw [Below.heap_setCell _ _ _ _ hk, Below.heap_setCell _ _ _ _ hk, Below.heap_setCell _ _ _ _ hk]
  have hsb : ∀ y, la = some y → l ≠ [] → y.block ≠ gs ∧ sv.ownBlock ≠ some y.block := by
    intro y hy hne
    obtain ⟨e1, cs, e2⟩ := h.sigo y hy hne
    refine ⟨fun e => ?_, fun e => ?_⟩
    · rw [e, hgs] at e1; cases e1
    · rcases hsp.1.2 with ⟨hv, _⟩ | ⟨g, cap, cur, hv, _, hh, _⟩
      · rw [hv] at e; simp [Value.ownBlock] at e
      · rw [hv] at e
        simp only [Value.ownBlock, Option.some.injEq] at e
        rw [e, e2] at hh
        cases hh
  have hget : ∀ k x, (markR L i o sp)[k]? = some x → (k = i ∧ x = { s with takes := true, others := o, spans := sp }) ∨ (k ≠ i ∧ L[k]? = some x) := by
    intro k x hx
    unfold markR at hx
    rw [List.getElem?_modify] at hx
    by_cases e : i = k
    · subst e
      rw [hs] at hx
      simp at hx
      exact .inl ⟨rfl, hx.symm⟩
    · cases hL : L[k]? with
      | none => rw [hL] at hx; simp at hx
      | some y =>
        rw [hL] at hx
        simp [e] at hx
        exact .inr ⟨fun e2 => e e2.symm, by rw [hx]⟩
  have keep : ∀ {e size x n : Nat} {v : Value} {xs : List Value}, Own w (upO ρ sv (4 + 2 * i)) e size x v n xs → x ≠ 2 → Own (((w.setCell ⟨gs, i * 4, none⟩ (.bool true)).setCell ⟨gs, i * 4 + 1, none⟩ (.bool o)).setCell ⟨gs, i * 4 + 2, none⟩ sv) (upO ρ sv (4 + 2 * i)) e size x v n xs := by
    intro e size x n v xs ho hx
    refine ((ho.setCell ?_ _).setCell ?_ _).setCell ?_ _ <;> (simp only [hgs']; omega)
  refine ⟨⟨la, lc, .slice (some ⟨gs, 0, none⟩) L.length cs, upV V i (sv, (V i).2), ?_, (hrole r (by rw [h.me]; decide)).trans h.me, h.cap, h.capm, h.sig.keep (fun y hy hne _ => hblk _ (hsb y hy hne).1), fun y hy hne => ⟨?_, ?_⟩, ?_, fun k x hx => ?_, fun k x hx => ?_, fun k hk => ?_⟩, (((Kp.refl _ w).setCell (by simp only; omega) _).setCell (by simp only; omega) _).setCell (by simp only; omega) _⟩
  · rw [hblk r (fun e => hgr e.symm)]; exact h.blk
  · unfold upO
    rw [if_neg (hsb y hy hne).2]
    exact (h.sigo y hy hne).1
  · obtain ⟨cs, hcs⟩ := (h.sigo y hy hne).2
    exact ⟨cs, by rw [hblk _ (hsb y hy hne).1]; exact hcs⟩
  · have := own_put (own_put (own_put h.sts.1 (i * 4) (.bool true)) (i * 4 + 1) (.bool o)) (i * 4 + 2) sv
    have e := vst_mark V sv o L 0 i (fun s => { s with takes := true, others := o, spans := sp }) (fun s => ⟨rfl, rfl⟩)
    rw [Nat.zero_add] at e
    rw [e] at this
    simp only [markR_length]
    exact ⟨this, fun g hg => by simp only [Value.ownBlock, Option.some.injEq] at hg; subst hg; exact hgs'⟩
  · rcases hget k x hx with ⟨rfl, rfl⟩ | ⟨hne, hx⟩
    · simp only [upV, if_true]
      exact keep ((h.nx k s hs).other (by omega) h0 _) (by omega)
    · have : upV V i (sv, (V i).2) k = V k := by simp [upV, hne]
      rw [this]
      exact keep ((h.nx k x hx).other (by omega) h0 _) (by omega)
  · rcases hget k x hx with ⟨rfl, rfl⟩ | ⟨hne, hx⟩
    · simp only [upV, if_true]
      exact keep (hsp.named _) (by omega)
    · have : upV V i (sv, (V i).2) k = V k := by simp [upV, hne]
      rw [this]
      exact keep ((h.sp k x hx).other (by omega) h0 _) (by omega)
  · have hk' : w.heap.size ≤ k := by simpa [World.setCell] using hk
    have : sv.ownBlock ≠ some k := fun e => by have := (hsp.1.lt k e).2; omega
    unfold upO
    rw [if_neg this]
    exact h.free k hk'

set_option maxHeartbeats 4000000 in
set_option maxRecDepth 100000 in
theorem step_any (r : Nat) (ρ : Nat → Nat) (R : Rd) (o : Bool) (sv : Value) (sp : List (Int × Int)) (w : World) (h : RDx w r ρ R) (hb : siz R.2 + 3 ≤ 100000) (hsp : Own w ρ 101 2 0 sv sp.length (vspans sp)) :
    Calls Try.prog 58 #[.pointer (some ⟨r, 0, none⟩), .agg #[.bool o, sv]] w fun e w' => e = .returned (.agg #[.int .i64 (R.2.length : Int), .int .i64 ((R.2.length + 1 : Nat) : Int)]) ∧ ∃ ρ', RDx w' r ρ' (R.1, stepR R.2 o sp) ∧ Gx sv ρ ρ' w w' := by
  obtain ⟨l, L⟩ := R
  simp only at hb
  obtain ⟨sa, sn, sc, hsv⟩ : ∃ sa sn sc, sv = .slice sa sn sc := by
    rcases hsp.1.2 with ⟨h1, _⟩ | ⟨g, cap, cur, h1, _⟩
    · exact ⟨_, _, _, h1⟩
    · exact ⟨_, _, _, h1⟩
  subst hsv
  have hfree : ∀ k, w.heap.size ≤ k → ρ k = 0 := by obtain ⟨_, _, _, _, h⟩ := h; exact h.free
  obtain ⟨wA, hwA⟩ : ∃ wA, wA = (w.alloc (.cells #[.bool o, .slice sa sn sc] 97)).alloc (.cells #[.int .i64 0, .int .i64 0] 73) := ⟨_, rfl⟩
  have bA : Below w.heap.size w wA := by rw [hwA]; exact ((Below.refl _ w).alloc (Nat.le_refl _) _).alloc (by simp) _
  have qA : wA.heap[w.heap.size]? = some (.cells #[.bool o, .slice sa sn sc] 97 (0, 0)) := by
    rw [hwA, Below.heap_alloc _ _ _ (by simp)]; exact heap_alloc_new w _
  have qB : wA.heap[w.heap.size + 1]? = some (.cells #[.int .i64 0, .int .i64 0] 73 (0, 0)) := by
    rw [hwA]
    have := heap_alloc_new (w.alloc (.cells #[.bool o, .slice sa sn sc] 97)) (.cells #[.int .i64 0, .int .i64 0] 73)
    simpa using this
  have hA := h.below bA
  have hspA := hsp.below bA
  go_enter Try.func58, Try.ntmps58
  go_wp2_with fail
  rw [← hwA]
  refine (state_any r ρ (l, L) _ hA (by simp only; omega)).mono ?_
  rintro e w1 ⟨rfl, ρ1, h1, G1⟩
  obtain ⟨qA1, zA1⟩ := G1.blk qA (hfree _ (by omega))
  obtain ⟨qB1, zB1⟩ := G1.blk qB (hfree _ (by omega))
  have hsp1 := hspA.gw G1
  clear hwA hA
  go_wp2_with fail
  refine (state_any r ρ1 (l, L ++ [St.zero]) _ h1 (by simp only [siz_append]; have : siz [St.zero] = 1 := rfl; omega)).mono ?_
  rintro e w2 ⟨rfl, ρ2, h2, G2⟩
  obtain ⟨qA2, zA2⟩ := G2.blk qA1 zA1
  obtain ⟨qB2, zB2⟩ := G2.blk qB1 zB1
  have hsp2 := hsp1.gw G2
  clear qA qB qA1 qB1 hsp1 hspA h1
  obtain ⟨n, hn⟩ : ∃ n, n = L.length := ⟨_, rfl⟩
  obtain ⟨m, hm⟩ : ∃ m, m = L.length + 1 := ⟨_, rfl⟩
  obtain ⟨N, hN⟩ : ∃ N, N = L.length + 2 := ⟨_, rfl⟩
  have e1 : ((l, L ++ [St.zero]) : Rd).2.length = m := by simp [hm]
  rw [e1, ← hn]
  have hbp : w2.heap.size ≠ r := by
    obtain ⟨_, _, _, _, q⟩ := h2
    have := q.rlt
    omega
  obtain ⟨w3, hw3⟩ : ∃ w3, w3 = w2.alloc (.cells #[.int .i64 (n : Int), .int .i64 (m : Int)] 73) := ⟨_, rfl⟩
  have b3 : Below w2.heap.size w2 w3 := by rw [hw3]; exact (Below.refl _ w2).alloc (Nat.le_refl _) _
  have qP3 : w3.heap[w2.heap.size]? = some (.cells #[.int .i64 (n : Int), .int .i64 (m : Int)] 73 (0, 0)) := by rw [hw3]; exact heap_alloc_new w2 _
  obtain ⟨bp, hbpe⟩ : ∃ bp, bp = w2.heap.size := ⟨_, rfl⟩
  obtain ⟨qA3, qB3⟩ : w3.heap[w.heap.size]? = some (.cells #[.bool o, .slice sa sn sc] 97 (0, 0)) ∧ w3.heap[w.heap.size + 1]? = some (.cells #[.int .i64 0, .int .i64 0] 73 (0, 0)) := ⟨(b3.block _ (Array.getElem?_eq_some_iff.1 qA2).1).trans qA2, (b3.block _ (Array.getElem?_eq_some_iff.1 qB2).1).trans qB2⟩
  have h3 := h2.below b3
  have hsp3 := hsp2.below b3
  have hfree2 : ∀ k, w2.heap.size ≤ k → ρ2 k = 0 := by obtain ⟨_, _, _, _, q⟩ := h2; exact q.free
  have zP : ρ2 bp = 0 := hfree2 _ (by omega)
  obtain ⟨la, lc, sv0, V, h3⟩ := h3
  have hL2 : (L ++ [St.zero] ++ [St.zero]).length = N := by simp [hN]
  obtain ⟨gs, cs, rfl, hcs1, hcs2⟩ := nonnil h3.sts.1 (show 0 < (L ++ [St.zero] ++ [St.zero]).length by simp)
  unfold maxLen at hcs2
  have hst : (L ++ [St.zero] ++ [St.zero])[n]? = some St.zero := by
    rw [List.append_assoc, hn, List.getElem?_append_right (Nat.le_refl _)]
    simp
  obtain ⟨H1, H2⟩ := h3.mark hst o hsp3
  have c1 : w3.cell? ⟨r, 1, none⟩ = some (.slice (some ⟨gs, 0, none⟩) N cs) := by rw [← hL2]; exact cell_of_row _ _ _ _ _ _ h3.blk
  rw [← hbpe] at qP3 hbp
  have cp0 : w3.cell? ⟨bp, 0, none⟩ = some (.int .i64 (n : Int)) := cell_of_row _ _ _ _ _ _ qP3
  have hgsr : gs ≠ r := by
    rintro rfl
    have x1 := h3.sts.2 gs rfl
    rw [h3.me] at x1
    cases x1
  have hgsp : gs ≠ bp := by
    rintro rfl
    have x1 := h3.sts.2 gs rfl
    rw [zP] at x1
    cases x1
  have hgs2 : ρ2 gs = 2 := h3.sts.2 gs rfl
  have hgsA : gs ≠ w.heap.size := by
    intro e
    have x1 := h3.sts.2 gs rfl
    rw [e, zA2] at x1
    cases x1
  obtain ⟨v0, v1, v2, _⟩ := vst_get V _ 0 n St.zero hst
  have d0 := own_at h3.sts.1 _ _ v0
  have d1 := own_at h3.sts.1 _ _ v1
  have d2 := own_at h3.sts.1 _ _ v2
  have ff := fun j => own_unfrozen h3.sts.1 j
  have f0 := ff (n * 4)
  have hnN : n < N := by omega
  have hnN2 : (n : Int) < (N : Int) := by omega
  have HH1 := hidn H1
  have HH2 := hidn H2
  have HFF := hidn ff
  have hrw := h3.rlt
  clear H1 H2 ff v0 v1 v2 h3 hsp3 hsp2 h2
  have HNN := hidn hn
  have HMM := hidn hm
  have HNB := hidn hN
  have HW3 := hidn hw3
  have HBP := hidn hbpe
  have HL2 := hidn hL2
  clear hn hm hN hw3 hbpe hL2 e1
  go_wp2_with fail
  rw [← HW3.out, ← HBP.out]
  have k1 : w3.drew.cell? ⟨r, 1, none⟩ = some (.slice (some ⟨gs, 0, none⟩) N cs) := c1
  have kp0 : w3.drew.cell? ⟨bp, 0, none⟩ = some (.int .i64 (n : Int)) := cp0
  have k0 : w3.drew.cell? ⟨gs, n * 4, none⟩ = some (.bool St.zero.takes) := d0
  have kf : w3.drew.frozen? ⟨gs, n * 4, none⟩ = false := f0
  obtain ⟨w4, hw4⟩ : ∃ w4, w3.drew = w4 := ⟨_, rfl⟩
  rw [hw4] at k1 kp0 k0 kf
  have m1 : (w4.setCell ⟨gs, n * 4, none⟩ (.bool true)).cell? ⟨r, 1, none⟩ = some (.slice (some ⟨gs, 0, none⟩) N cs) := (World.cell?_of_block (Below.heap_setCell _ _ _ _ (fun e => hgsr e.symm))).trans k1
  have mp0 : (w4.setCell ⟨gs, n * 4, none⟩ (.bool true)).cell? ⟨bp, 0, none⟩ = some (.int .i64 (n : Int)) := (World.cell?_of_block (Below.heap_setCell _ _ _ _ (fun e => hgsp e.symm))).trans kp0
  refine wp_region_noPanic ?_
  refine wp_region_held_drew (S := fun w' => w'.cell? ⟨r, 1, none⟩ = some (.slice (some ⟨gs, 0, none⟩) N cs) ∧ w'.cell? ⟨bp, 0, none⟩ = some (.int .i64 (n : Int))) (by kernel_rfl) (by rw [hw4]; exact ⟨k1, kp0⟩) (fun hHeld => ?_)
  rw [hw4] at hHeld ⊢
  refine drawn_take (i := 0) (v := .pointer (some ⟨r, 0, none⟩)) (some 11) rfl rfl (by kernel_rfl) (by kernel_rfl) (by kernel_rfl) (fun _ _ _ h => h) (Or.inl ⟨by kernel_rfl, fun wq hw => by go_simp⟩) hHeld ?_
  simp only [Act.put, List.setIfInBounds_toArray, List.set_cons_succ, List.set_cons_zero]
  refine drawn_take (i := 1) (v := .pointer (some ⟨r, 0, none⟩)) (some 12) rfl rfl (by kernel_rfl) (by kernel_rfl) (by kernel_rfl) (fun _ _ _ h => h) (Or.inl ⟨by kernel_rfl, fun wq hw => by go_simp⟩) hHeld ?_
  simp only [Act.put, List.setIfInBounds_toArray, List.set_cons_succ, List.set_cons_zero]
  refine drawn_take (i := 2) (v := .pointer (some ⟨r, 1, none⟩)) (some 13) rfl rfl (by kernel_rfl) (by kernel_rfl) (by kernel_rfl) (fun _ _ _ h => h) (Or.inl ⟨by kernel_rfl, fun wq hw => by go_simp⟩) hHeld ?_
  simp only [Act.put, List.setIfInBounds_toArray, List.set_cons_succ, List.set_cons_zero]
  refine drawn_take (i := 3) (v := .slice (some ⟨gs, 0, none⟩) N cs) (some 14) rfl rfl (by kernel_rfl) (by kernel_rfl) (by kernel_rfl) (fun _ _ _ h => h) (Or.inl ⟨by kernel_rfl, fun wq hw => by obtain ⟨h1, h2⟩ := hw; go_simp⟩) hHeld ?_
  simp only [Act.put, List.setIfInBounds_toArray, List.set_cons_succ, List.set_cons_zero]
  refine drawn_take (i := 4) (v := .pointer (some ⟨bp, 0, none⟩)) (some 15) rfl rfl (by kernel_rfl) (by kernel_rfl) (by kernel_rfl) (fun _ _ _ h => h) (Or.inl ⟨by kernel_rfl, fun wq hw => by go_simp⟩) hHeld ?_
  simp only [Act.put, List.setIfInBounds_toArray, List.set_cons_succ, List.set_cons_zero]
  refine drawn_take (i := 5) (v := .int .i64 (n : Int)) (some 16) rfl rfl (by kernel_rfl) (by kernel_rfl) (by kernel_rfl) (fun _ _ _ h => h) (Or.inl ⟨by kernel_rfl, fun wq hw => by obtain ⟨h1, h2⟩ := hw; go_simp⟩) hHeld ?_
  simp only [Act.put, List.setIfInBounds_toArray, List.set_cons_succ, List.set_cons_zero]
  refine drawn_take (i := 6) (v := .pointer (some ⟨gs, n * 4, none⟩)) (some 17) rfl rfl (by kernel_rfl) (by kernel_rfl) (by kernel_rfl) (fun _ _ _ h => h) (Or.inl ⟨by kernel_rfl, fun wq hw => by go_simp⟩) hHeld ?_
  simp only [Act.put, List.setIfInBounds_toArray, List.set_cons_succ, List.set_cons_zero]
  refine drawn_take (i := 7) (v := .pointer (some ⟨gs, n * 4, none⟩)) (some 18) rfl rfl (by kernel_rfl) (by kernel_rfl) (by kernel_rfl) (fun _ _ _ h => h) (Or.inl ⟨by kernel_rfl, fun wq hw => by go_simp⟩) hHeld ?_
  simp only [Act.put, List.setIfInBounds_toArray, List.set_cons_succ, List.set_cons_zero]
  refine wpAnyH_ready (rs := [8]) (by kernel_rfl) (by simp) ?_
  refine rx_rdy_unit (i := 8) rfl rfl none rfl (w4.setCell ⟨gs, n * 4, none⟩ (.bool true)) (by go_simp) ⟨m1, mp0⟩ (fun hHeld => ?_) rdy_nil
  refine wpAnyH_done (by kernel_rfl) ?_ _
  refine NoPanic.normal ?_
  simp only [Act.put]
  clear hHeld
  go_wp2_with fail
  have hsz3 := (Array.getElem?_eq_some_iff.1 qA3).1
  have cA0 : w3.cell? ⟨w.heap.size, 0, none⟩ = some (.bool o) := cell_of_row _ _ _ _ _ _ qA3
  have cA1 : w3.cell? ⟨w.heap.size, 1, none⟩ = some (.slice sa sn sc) := cell_of_row _ _ _ _ _ _ qA3
  obtain ⟨A, hA⟩ : ∃ A, A = w.heap.size := ⟨_, rfl⟩
  have HAA := hidn hA
  rw [← hA] at cA0 cA1 hgsA ⊢
  clear hA
  have kA0 : (w4.setCell ⟨gs, n * 4, none⟩ (.bool true)).drew.cell? ⟨A, 0, none⟩ = some (.bool o) := (World.cell?_of_block (w := w4) (Below.heap_setCell _ _ _ _ (fun e => hgsA e.symm))).trans (by rw [← hw4]; exact cA0)
  have kA1 : (w4.setCell ⟨gs, n * 4, none⟩ (.bool true)).drew.cell? ⟨A, 1, none⟩ = some (.slice sa sn sc) := (World.cell?_of_block (w := w4) (Below.heap_setCell _ _ _ _ (fun e => hgsA e.symm))).trans (by rw [← hw4]; exact cA1)
  have j1 : (w4.setCell ⟨gs, n * 4, none⟩ (.bool true)).drew.cell? ⟨r, 1, none⟩ = some (.slice (some ⟨gs, 0, none⟩) N cs) := m1
  have jp0 : (w4.setCell ⟨gs, n * 4, none⟩ (.bool true)).drew.cell? ⟨bp, 0, none⟩ = some (.int .i64 (n : Int)) := mp0
  have n1 : (w4.setCell ⟨gs, n * 4, none⟩ (.bool true)).drew.cell? ⟨gs, n * 4 + 1, none⟩ = some (.bool St.zero.others) := (World.cell?_setCell_other w4 ⟨gs, n * 4, none⟩ ⟨gs, n * 4 + 1, none⟩ (.bool true) (fun e => by injection e with _ e2; omega)).trans (by rw [← hw4]; exact d1)
  have n2 : (w4.setCell ⟨gs, n * 4, none⟩ (.bool true)).drew.cell? ⟨gs, n * 4 + 1 + 1, none⟩ = some (V (0 + n)).1 := (World.cell?_setCell_other w4 ⟨gs, n * 4, none⟩ ⟨gs, n * 4 + 1 + 1, none⟩ (.bool true) (fun e => by injection e with _ e2; omega)).trans (by rw [← hw4]; exact d2)
  have u1 : (w4.setCell ⟨gs, n * 4, none⟩ (.bool true)).drew.frozen? ⟨gs, n * 4 + 1, none⟩ = false := by
    have := HFF.out (n * 4 + 1)
    show (w4.setCell ⟨gs, n * 4, none⟩ (.bool true)).frozen? ⟨gs, n * 4 + 1, none⟩ = false
    rw [World.frozen?_setCell, ← hw4]; exact this
  have u2 : (w4.setCell ⟨gs, n * 4, none⟩ (.bool true)).drew.frozen? ⟨gs, n * 4 + 1 + 1, none⟩ = false := by
    have := HFF.out (n * 4 + 1 + 1)
    show (w4.setCell ⟨gs, n * 4, none⟩ (.bool true)).frozen? ⟨gs, n * 4 + 1 + 1, none⟩ = false
    rw [World.frozen?_setCell, ← hw4]; exact this
  obtain ⟨w5, hw5⟩ : ∃ w5, (w4.setCell ⟨gs, n * 4, none⟩ (.bool true)).drew = w5 := ⟨_, rfl⟩
  rw [hw5] at kA0 kA1 j1 jp0 n1 n2 u1 u2
  have n3 : (w5.setCell ⟨gs, n * 4 + 1, none⟩ (.bool o)).cell? ⟨gs, n * 4 + 1 + 1, none⟩ = some (V (0 + n)).1 := (World.cell?_setCell_other w5 ⟨gs, n * 4 + 1, none⟩ ⟨gs, n * 4 + 1 + 1, none⟩ (.bool o) (fun e => by injection e with _ e2; omega)).trans n2
  have y1 : ((w5.setCell ⟨gs, n * 4 + 1, none⟩ (.bool o)).setCell ⟨gs, n * 4 + 1 + 1, none⟩ (.slice sa sn sc)).cell? ⟨r, 1, none⟩ = some (.slice (some ⟨gs, 0, none⟩) N cs) := (World.cell?_of_block ((Below.heap_setCell _ _ _ _ (fun e => hgsr e.symm)).trans (Below.heap_setCell _ _ _ _ (fun e => hgsr e.symm)))).trans j1
  have y2 : ((w5.setCell ⟨gs, n * 4 + 1, none⟩ (.bool o)).setCell ⟨gs, n * 4 + 1 + 1, none⟩ (.slice sa sn sc)).cell? ⟨bp, 0, none⟩ = some (.int .i64 (n : Int)) := (World.cell?_of_block ((Below.heap_setCell _ _ _ _ (fun e => hgsp e.symm)).trans (Below.heap_setCell _ _ _ _ (fun e => hgsp e.symm)))).trans jp0
  have y3 : ((w5.setCell ⟨gs, n * 4 + 1, none⟩ (.bool o)).setCell ⟨gs, n * 4 + 1 + 1, none⟩ (.slice sa sn sc)).cell? ⟨A, 0, none⟩ = some (.bool o) := (World.cell?_of_block ((Below.heap_setCell _ _ _ _ (fun e => hgsA e.symm)).trans (Below.heap_setCell _ _ _ _ (fun e => hgsA e.symm)))).trans kA0
  have y4 : ((w5.setCell ⟨gs, n * 4 + 1, none⟩ (.bool o)).setCell ⟨gs, n * 4 + 1 + 1, none⟩ (.slice sa sn sc)).cell? ⟨A, 1, none⟩ = some (.slice sa sn sc) := (World.cell?_of_block ((Below.heap_setCell _ _ _ _ (fun e => hgsA e.symm)).trans (Below.heap_setCell _ _ _ _ (fun e => hgsA e.symm)))).trans kA1
  refine wp_region_noPanic ?_
  refine wp_region_held_drew (S := fun w' => w'.cell? ⟨r, 1, none⟩ = some (.slice (some ⟨gs, 0, none⟩) N cs) ∧ w'.cell? ⟨bp, 0, none⟩ = some (.int .i64 (n : Int)) ∧ w'.cell? ⟨A, 0, none⟩ = some (.bool o) ∧ w'.cell? ⟨A, 1, none⟩ = some (.slice sa sn sc)) (by kernel_rfl) (by rw [hw5]; exact ⟨j1, jp0, kA0, kA1⟩) (fun hHeld => ?_)
  rw [hw5] at hHeld ⊢
  refine drawn_take (i := 0) (v := .pointer (some ⟨r, 0, none⟩)) (some 19) rfl rfl (by kernel_rfl) (by kernel_rfl) (by kernel_rfl) (fun _ _ _ h => h) (Or.inl ⟨by kernel_rfl, fun wq hw => by go_simp⟩) hHeld ?_
  simp only [Act.put, List.setIfInBounds_toArray, List.set_cons_succ, List.set_cons_zero]
  refine drawn_take (i := 1) (v := .pointer (some ⟨r, 0, none⟩)) (some 20) rfl rfl (by kernel_rfl) (by kernel_rfl) (by kernel_rfl) (fun _ _ _ h => h) (Or.inl ⟨by kernel_rfl, fun wq hw => by go_simp⟩) hHeld ?_
  simp only [Act.put, List.setIfInBounds_toArray, List.set_cons_succ, List.set_cons_zero]
  refine drawn_take (i := 2) (v := .pointer (some ⟨r, 1, none⟩)) (some 21) rfl rfl (by kernel_rfl) (by kernel_rfl) (by kernel_rfl) (fun _ _ _ h => h) (Or.inl ⟨by kernel_rfl, fun wq hw => by go_simp⟩) hHeld ?_
  simp only [Act.put, List.setIfInBounds_toArray, List.set_cons_succ, List.set_cons_zero]
  refine drawn_take (i := 3) (v := .slice (some ⟨gs, 0, none⟩) N cs) (some 22) rfl rfl (by kernel_rfl) (by kernel_rfl) (by kernel_rfl) (fun _ _ _ h => h) (Or.inl ⟨by kernel_rfl, fun wq hw => by obtain ⟨h1, h2, h3, h4⟩ := hw; go_simp⟩) hHeld ?_
  simp only [Act.put, List.setIfInBounds_toArray, List.set_cons_succ, List.set_cons_zero]
  refine drawn_take (i := 4) (v := .pointer (some ⟨bp, 0, none⟩)) (some 23) rfl rfl (by kernel_rfl) (by kernel_rfl) (by kernel_rfl) (fun _ _ _ h => h) (Or.inl ⟨by kernel_rfl, fun wq hw => by go_simp⟩) hHeld ?_
  simp only [Act.put, List.setIfInBounds_toArray, List.set_cons_succ, List.set_cons_zero]
  refine drawn_take (i := 5) (v := .int .i64 (n : Int)) (some 24) rfl rfl (by kernel_rfl) (by kernel_rfl) (by kernel_rfl) (fun _ _ _ h => h) (Or.inl ⟨by kernel_rfl, fun wq hw => by obtain ⟨h1, h2, h3, h4⟩ := hw; go_simp⟩) hHeld ?_
  simp only [Act.put, List.setIfInBounds_toArray, List.set_cons_succ, List.set_cons_zero]
  refine drawn_take (i := 6) (v := .agg #[.bool o, .slice sa sn sc]) (some 25) rfl rfl (by kernel_rfl) (by kernel_rfl) (by kernel_rfl) (fun _ _ _ h => h) (Or.inl ⟨by kernel_rfl, fun wq hw => by obtain ⟨h1, h2, h3, h4⟩ := hw; go_simp⟩) hHeld ?_
  simp only [Act.put, List.setIfInBounds_toArray, List.set_cons_succ, List.set_cons_zero]
  refine drawn_take (i := 7) (v := .pointer (some ⟨gs, n * 4, none⟩)) (some 26) rfl rfl (by kernel_rfl) (by kernel_rfl) (by kernel_rfl) (fun _ _ _ h => h) (Or.inl ⟨by kernel_rfl, fun wq hw => by go_simp⟩) hHeld ?_
  simp only [Act.put, List.setIfInBounds_toArray, List.set_cons_succ, List.set_cons_zero]
  refine drawn_take (i := 8) (v := .pointer (some ⟨gs, n * 4 + 1, none⟩)) (some 27) rfl rfl (by kernel_rfl) (by kernel_rfl) (by kernel_rfl) (fun _ _ _ h => h) (Or.inl ⟨by kernel_rfl, fun wq hw => by go_simp⟩) hHeld ?_
  simp only [Act.put, List.setIfInBounds_toArray, List.set_cons_succ, List.set_cons_zero]
  refine wpAnyH_ready (rs := [9]) (by kernel_rfl) (by simp) ?_
  refine rx_rdy_unit (i := 9) rfl rfl none rfl ((w5.setCell ⟨gs, n * 4 + 1, none⟩ (.bool o)).setCell ⟨gs, n * 4 + 1 + 1, none⟩ (.slice sa sn sc)) (by go_simp) ⟨y1, y2, y3, y4⟩ (fun hHeld => ?_) rdy_nil
  refine wpAnyH_done (by kernel_rfl) ?_ _
  refine NoPanic.normal ?_
  simp only [Act.put]
  clear hHeld
  obtain ⟨w6, hw6⟩ : ∃ w6, (w5.setCell ⟨gs, n * 4 + 1, none⟩ (.bool o)).setCell ⟨gs, n * 4 + 1 + 1, none⟩ (.slice sa sn sc) = w6 := ⟨_, rfl⟩
  rw [hw6] at y1 y2 ⊢
  have hb6 : Below ((((w3.setCell ⟨gs, n * 4, none⟩ (.bool true)).setCell ⟨gs, n * 4 + 1, none⟩ (.bool o)).setCell ⟨gs, n * 4 + 2, none⟩ (.slice sa sn sc))).heap.size ((((w3.setCell ⟨gs, n * 4, none⟩ (.bool true)).setCell ⟨gs, n * 4 + 1, none⟩ (.bool o)).setCell ⟨gs, n * 4 + 2, none⟩ (.slice sa sn sc))) w6 := by
    rw [← hw6, ← hw5, ← hw4]
    exact ⟨rfl, rfl, rfl, Nat.le_refl _, fun _ _ => rfl⟩
  have h6 := HH1.out.below hb6
  have hw26 : ∀ k, k ≠ gs → w6.heap[k]? = w3.heap[k]? := by
    intro k hk
    rw [← hw6, Below.heap_setCell _ _ _ _ hk, Below.heap_setCell _ _ _ _ hk, ← hw5]
    show (w4.setCell ⟨gs, n * 4, none⟩ (.bool true)).heap[k]? = _
    rw [Below.heap_setCell _ _ _ _ hk, ← hw4]
    rfl
  have hGa : Gx (.slice sa sn sc) ρ2 (upO ρ2 (.slice sa sn sc) (4 + 2 * n)) w2 w6 := (Gx.of (Gw.of (Kp.of_below b3))).trans ((Gx.up _ HH2.out).trans (Gx.of (Gw.of (Kp.of_below hb6))))
  have hGb : Hid (Gx (.slice sa sn sc) ρ (upO ρ2 (.slice sa sn sc) (4 + 2 * n)) w w6) := hidn ((Gx.of (((Gw.of (Kp.of_below bA)).trans G1).trans G2)).trans hGa)
  have hAsz : w.heap.size ≤ w2.heap.size := Nat.le_trans bA.size (Nat.le_trans G1.1.size G2.1.size)
  have qP6 : w6.heap[bp]? = some (.cells #[.int .i64 (n : Int), .int .i64 (m : Int)] 73 (0, 0)) := (hw26 bp (fun e => hgsp e.symm)).trans qP3
  have hgsB : gs ≠ w.heap.size + 1 := by
    intro e
    rw [e, zB2] at hgs2
    cases hgs2
  have qB6 : w6.heap[w.heap.size + 1]? = some (.cells #[.int .i64 0, .int .i64 0] 73 (0, 0)) := (hw26 _ (fun e => hgsB e.symm)).trans qB3
  have hout : ∀ k, w.heap.size ≤ k → ρ2 k = 0 → upO ρ2 (.slice sa sn sc) (4 + 2 * n) k = 0 := by
    intro k hk h0
    unfold upO
    rw [if_neg (fun e => by have := (hsp.1.lt k e).2; omega)]
    exact h0
  have zP6 := hout bp (by rw [HBP.out]; exact hAsz) zP
  have zB6 := hout (w.heap.size + 1) (by omega) zB2
  have cp1 : w6.cell? ⟨bp, 1, none⟩ = some (.int .i64 (m : Int)) := cell_of_row _ _ _ _ _ _ qP6
  rw [← HAA.out] at qB6 zB6
  clear hw6 hw5 hw4 HH1 HH2 hb6 hGa
  go_wp2_with fail
  refine (link_any r _ (l, markR (L ++ [St.zero] ++ [St.zero]) n o sp) n m w6 h6 (by simp only [siz_mark, siz_append]; have : siz [St.zero] = 1 := rfl; omega) (by simp only [markR_length, HL2.out]; exact hnN)).mono ?_
  rintro e w7 ⟨rfl, ρ4, h7, G7⟩
  obtain ⟨qP7, zP7⟩ := G7.blk qP6 zP6
  obtain ⟨qB7, zB7⟩ := G7.blk qB6 zB6
  have c70 : w7.cell? ⟨bp, 0, none⟩ = some (.int .i64 (n : Int)) := cell_of_row _ _ _ _ _ _ qP7
  have c71 : w7.cell? ⟨bp, 1, none⟩ = some (.int .i64 (m : Int)) := cell_of_row _ _ _ _ _ _ qP7
  have r70 : w7.cell? ⟨A + 1, 0, none⟩ = some (.int .i64 0) := cell_of_row _ _ _ _ _ _ qB7
  have r71 : w7.cell? ⟨A + 1, 1, none⟩ = some (.int .i64 0) := cell_of_row _ _ _ _ _ _ qB7
  have fr0 : w7.frozen? ⟨A + 1, 0, none⟩ = false := unfrozen_of_block qB7 _
  have fr1 : w7.frozen? ⟨A + 1, 1, none⟩ = false := unfrozen_of_block qB7 _
  have q8 := block_setCell (i := 1) (block_setCell (i := 0) qB7 (.int .i64 (n : Int))) (.int .i64 (m : Int))
  have t0 : ((w7.setCell ⟨A + 1, 0, none⟩ (.int .i64 (n : Int))).setCell ⟨A + 1, 1, none⟩ (.int .i64 (m : Int))).cell? ⟨A + 1, 0, none⟩ = some (.int .i64 (n : Int)) := by rw [cell_of_row _ _ _ _ _ _ q8]; rfl
  have t1 : ((w7.setCell ⟨A + 1, 0, none⟩ (.int .i64 (n : Int))).setCell ⟨A + 1, 1, none⟩ (.int .i64 (m : Int))).cell? ⟨A + 1, 1, none⟩ = some (.int .i64 (m : Int)) := by rw [cell_of_row _ _ _ _ _ _ q8]; rfl
  have h9 := (h7.loc qB7 (by decide) zB7 0 (.int .i64 (n : Int))).loc (block_setCell (i := 0) qB7 (.int .i64 (n : Int))) (by decide) zB7 1 (.int .i64 (m : Int))
  have HF : Hid (RDx ((w7.setCell ⟨A + 1, 0, none⟩ (.int .i64 (n : Int))).setCell ⟨A + 1, 1, none⟩ (.int .i64 (m : Int))) r ρ4 (l, stepR L o sp)) := hidn (by
    unfold stepR
    rw [← HMM.out, ← HNN.out]
    exact h9)
  have HG9 := hidn ((((hGb.out.trans (Gx.of G7)).loc (k := A + 1) (by rw [HAA.out]; omega) 0 (.int .i64 (n : Int)))).loc (k := A + 1) (by rw [HAA.out]; omega) 1 (.int .i64 (m : Int)))
  clear h7 h9 G7 qP7 qB7 q8 h6
  go_wp2_with fail
  exact bodyPost_ret (v := .agg #[.int .i64 (n : Int), .int .i64 (m : Int)]) (by simp [results, Try.results58, go_sem, t0, t1]) rfl ⟨by show _ = Ending.returned (.agg #[.int .i64 (L.length : Int), .int .i64 ((L.length + 1 : Nat) : Int)]); rw [← HMM.out, ← HNN.out], _, HF.out, HG9.out⟩
end Go.Proofs.Ytdgkjiiegmnjfaa
