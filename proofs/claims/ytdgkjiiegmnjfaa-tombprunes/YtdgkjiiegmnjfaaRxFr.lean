/- The machine's front in memory; reach, goOn. -/
import Derived.Test.YtdgkjiiegmnjfaaRxHas
import Derived.Deep.QuietTactic
import Derived.BigQuiet
namespace Go.Proofs.Ytdgkjiiegmnjfaa
open Go.RowKit Go.Joins
set_option linter.unusedVariables false

structure FRD (w : World) (fb : Nat) (φ : Nat → Nat) (L : List St) (rd : Nat) (x : rx_Fr) (bf : List Nat) (sv : Value) (V : Nat → Value × Value) (bv : Value) (a b : Nat) (sn tk : Value) : Prop where
  blk : w.heap[fb]? = some (.cells #[sv, .int .i64 (rd : Int), sn, tk, bv] 86 (0, 0))
  me : φ fb = 1
  ab : (a = 3 ∧ b = 4) ∨ (a = 4 ∧ b = 3)
  sts : Own w φ 99 4 0 sv L.length (vst V 0 L)
  nx : ∀ i s, L[i]? = some s → Own w φ 3 1 0 (V i).2 s.next.length (vi s.next)
  sp : ∀ i s, L[i]? = some s → Own w φ 101 2 0 (V i).1 s.spans.length (vspans s.spans)
  seen : Own w φ 3 1 2 sn x.1.length (vi x.1)
  taking : Own w φ 3 1 a tk x.2.length (vi x.2)
  before : Own w φ 3 1 b bv bf.length (vi bf)
  len : x.1.length = L.length
  free : ∀ k, w.heap.size ≤ k → φ k = 0
def FRx (w : World) (fb : Nat) (φ : Nat → Nat) (L : List St) (rd : Nat) (x : rx_Fr) (bf : List Nat) (sv : Value) (V : Nat → Value × Value) (bv : Value) (a b : Nat) : Prop := ∃ sn tk, FRD w fb φ L rd x bf sv V bv a b sn tk
theorem FRD.below {w w' : World} {fb : Nat} {φ : Nat → Nat} {L : List St} {rd : Nat} {x : rx_Fr} {bf : List Nat} {sv : Value} {V : Nat → Value × Value} {bv : Value} {a b : Nat} {sn tk : Value} (h : FRD w fb φ L rd x bf sv V bv a b sn tk) (hb : Below w.heap.size w w') : FRD w' fb φ L rd x bf sv V bv a b sn tk :=
  ⟨(hb.block fb (Array.getElem?_eq_some_iff.1 h.blk).1).trans h.blk, h.me, h.ab, h.sts.below hb, fun i s hs => (h.nx i s hs).below hb, fun i s hs => (h.sp i s hs).below hb, h.seen.below hb, h.taking.below hb, h.before.below hb, h.len, fun k hk => h.free k (Nat.le_trans hb.size hk)⟩
theorem FRx.below {w w' : World} {fb : Nat} {φ : Nat → Nat} {L : List St} {rd : Nat} {x : rx_Fr} {bf : List Nat} {sv : Value} {V : Nat → Value × Value} {bv : Value} {a b : Nat} (h : FRx w fb φ L rd x bf sv V bv a b) (hb : Below w.heap.size w w') : FRx w' fb φ L rd x bf sv V bv a b := by
  obtain ⟨sn, tk, h⟩ := h
  exact ⟨sn, tk, h.below hb⟩
theorem FRD.flt {w : World} {fb : Nat} {φ : Nat → Nat} {L : List St} {rd : Nat} {x : rx_Fr} {bf : List Nat} {sv : Value} {V : Nat → Value × Value} {bv : Value} {a b : Nat} {sn tk : Value} (h : FRD w fb φ L rd x bf sv V bv a b sn tk) : fb < w.heap.size := (Array.getElem?_eq_some_iff.1 h.blk).1
theorem vi_get (l : List Nat) (j x : Nat) (h : l[j]? = some x) : (vi l)[j]? = some (.int .i64 (x : Int)) := by simp [vi, h]
theorem vi_set (l : List Nat) (j x : Nat) : (vi l).set j (.int .i64 (x : Int)) = vi (l.set j x) := by simp [vi, List.map_set]
/-- A state is seen. -/
theorem FRD.see {w : World} {fb : Nat} {φ : Nat → Nat} {L : List St} {rd : Nat} {x : rx_Fr} {bf : List Nat} {sv : Value} {V : Nat → Value × Value} {bv : Value} {a b g c : Nat} {tk : Value} {N : Nat} (h : FRD w fb φ L rd x bf sv V bv a b (.slice (some ⟨g, 0, none⟩) N c) tk) (n : Nat) (hN : N = x.1.length) :
    FRD (w.setCell ⟨g, n, none⟩ (.int .i64 (rd : Int))) fb φ L rd (x.1.set n rd, x.2) bf sv V bv a b (.slice (some ⟨g, 0, none⟩) N c) tk ∧ Gw φ φ w (w.setCell ⟨g, n, none⟩ (.int .i64 (rd : Int))) := by
  subst hN
  have hg : φ g = 2 := h.seen.2 g rfl
  have hab := h.ab
  have hgf : g ≠ fb := by rintro rfl; rw [h.me] at hg; cases hg
  refine ⟨⟨?_, h.me, h.ab, h.sts.setCell (by simp only [hg]; omega) _, fun i s hs => (h.nx i s hs).setCell (by simp only [hg]; omega) _, fun i s hs => (h.sp i s hs).setCell (by simp only [hg]; omega) _, ?_, h.taking.setCell (by simp only [hg]; omega) _, h.before.setCell (by simp only [hg]; omega) _, by simpa using h.len, fun k hk => h.free k (by simpa [World.setCell] using hk)⟩, Gw.of ((Kp.refl _ w).setCell (by simp only [hg]; omega) _)⟩
  · rw [Below.heap_setCell _ _ _ _ (fun e => hgf e.symm)]; exact h.blk
  · have := own_put h.seen.1 n (.int .i64 (rd : Int))
    rw [vi_set] at this
    simp only [List.length_set]
    exact ⟨this, h.seen.2⟩
/-- A state that takes is kept. -/
theorem FRD.take {w w1 : World} {fb : Nat} {φ : Nat → Nat} {L : List St} {rd : Nat} {x : rx_Fr} {bf : List Nat} {sv : Value} {V : Nat → Value × Value} {bv : Value} {a b g c n : Nat} {sn tk : Value} (h : FRD w fb φ L rd x bf sv V bv a b sn tk)
    (h1 : w1.ownsRow 0 3 1 (.slice (some ⟨g, 0, none⟩) (x.2.length + 1) c) (x.2.length + 1) (vi x.2 ++ [.int .i64 (n : Int)])) (hg : w.grownBy w1 tk.ownBlock) (hk : tk.ownBlock = some g ∨ w.heap.size ≤ g) :
    w1.heap[fb]? = some (.cells #[sv, .int .i64 (rd : Int), sn, tk, bv] 86 (0, 0)) ∧
    FRx (w1.setCell ⟨fb, 3, none⟩ (.slice (some ⟨g, 0, none⟩) (x.2.length + 1) c)) fb (upR φ g a) L rd (x.1, x.2 ++ [n]) bf sv V bv a b ∧ Gw φ (upR φ g a) w (w1.setCell ⟨fb, 3, none⟩ (.slice (some ⟨g, 0, none⟩) (x.2.length + 1) c)) := by
  have hab := h.ab
  have ha : a ≠ 0 := by omega
  have G := grown_role h.taking ha hg hk
  have hfb : upR φ g a fb = 1 := (G.2 fb h.flt).trans h.me
  have hblk : w1.heap[fb]? = some (.cells #[sv, .int .i64 (rd : Int), sn, tk, bv] 86 (0, 0)) := (hg.block fb h.flt (fun e => by have := h.taking.2 fb e.symm; rw [h.me] at this; omega)).trans h.blk
  have keep : ∀ {e size y m : Nat} {v : Value} {ys : List Value}, Own w φ e size y v m ys → a ≠ y → y ≠ 1 → Own (w1.setCell ⟨fb, 3, none⟩ (.slice (some ⟨g, 0, none⟩) (x.2.length + 1) c)) (upR φ g a) e size y v m ys := by
    intro e size y m v ys ho hy hy1
    exact (ho.grown h.taking hy hg hk ha).setCell (by simp only [hfb]; omega) _
  refine ⟨hblk, ⟨sn, .slice (some ⟨g, 0, none⟩) (x.2.length + 1) c, ?_, hfb, h.ab, keep h.sts (by omega) (by omega), fun i s hs => keep (h.nx i s hs) (by omega) (by omega), fun i s hs => keep (h.sp i s hs) (by omega) (by omega), keep h.seen (by omega) (by omega), ?_, keep h.before (by omega) (by omega), h.len, fun k hk => upR_free h.free hg.size h1 k (by simpa [World.setCell] using hk)⟩, G.trans (Gw.of ((Kp.refl _ w1).setCell (by simp only [hfb]; omega) _))⟩
  · have := block_setCell (i := 3) hblk (.slice (some ⟨g, 0, none⟩) (x.2.length + 1) c)
    simpa using this
  · have e : vi (x.2 ++ [n]) = vi x.2 ++ [.int .i64 (n : Int)] := by simp [vi]
    simp only [List.length_append, List.length_singleton]
    rw [e]
    exact (Own.made h1).setCell (by simp only [hfb]; omega) _

/-- The contract of reach where fewer than k states are not seen. -/
def ReachC (k : Nat) : Prop := ∀ (fb : Nat) (φ : Nat → Nat) (L : List St) (rd : Nat) (x : rx_Fr) (bf : List Nat) (sv : Value) (V : Nat → Value × Value) (bv : Value) (a b n : Nat) (w : World), FRx w fb φ L rd x bf sv V bv a b → WF L.length L → siz L ≤ 600 → rd < 4611686018427387904 → x.2.length + unseen rd x.1 ≤ 1000 → unseen rd x.1 < k → (∀ y ∈ x.1, y ≤ rd) → n < L.length →
  Calls Try.prog 42 #[.pointer (some ⟨fb, 0, none⟩), .int .i64 (n : Int)] w fun e w' => e = .returned (.tuple #[]) ∧ ∃ φ', FRx w' fb φ' L rd (reachF L rd k n x) bf sv V bv a b ∧ Gw φ φ' w w'
def GoOnC (k : Nat) : Prop := ∀ (fb : Nat) (φ : Nat → Nat) (L : List St) (rd : Nat) (x : rx_Fr) (bf : List Nat) (sv : Value) (V : Nat → Value × Value) (bv : Value) (a b n : Nat) (w : World), FRx w fb φ L rd x bf sv V bv a b → WF L.length L → siz L ≤ 600 → rd < 4611686018427387904 → x.2.length + unseen rd x.1 ≤ 1000 → unseen rd x.1 < k → (∀ y ∈ x.1, y ≤ rd) → n < L.length →
  Calls Try.prog 48 #[.pointer (some ⟨fb, 0, none⟩), .int .i64 (n : Int)] w fun e w' => e = .returned (.tuple #[]) ∧ ∃ φ', FRx w' fb φ' L rd (goOnF L rd k n x) bf sv V bv a b ∧ Gw φ φ' w w'

set_option maxHeartbeats 4000000 in
set_option maxRecDepth 100000 in
theorem goOn_step (k : Nat) (HR : ReachC k) : GoOnC k := by
  intro fb φ L rd x bf sv V bv a b n w h hwf hsz hrd htk hun hle hn
  obtain ⟨s, hs⟩ : ∃ s, L[n]? = some s := ⟨_, List.getElem?_eq_getElem hn⟩
  obtain ⟨sn, tk, h⟩ := h
  have hnl := siz_next L s (List.mem_of_getElem? hs)
  have hll := siz_len L
  obtain ⟨gs, cs, rfl, hcs1, hcs2⟩ := nonnil h.sts.1 (by omega)
  unfold maxLen at hcs2
  obtain ⟨v0, v1, v2, v3⟩ := vst_get V L 0 n s hs
  rw [Nat.zero_add] at v3
  have c0 : w.cell? ⟨fb, 0, none⟩ = some (.slice (some ⟨gs, 0, none⟩) L.length cs) := cell_of_row _ _ _ _ _ _ h.blk
  have c3 := own_at h.sts.1 _ _ v3
  have hnx := h.nx n s hs
  obtain ⟨sa, sc, hsv⟩ : ∃ sa sc, (V n).2 = .slice sa s.next.length sc := by
    rcases hnx.1.2 with ⟨h1, h2⟩ | ⟨g, cap, cur, h1, _⟩
    · exact ⟨none, 0, by rw [h1, h2]⟩
    · exact ⟨_, _, h1⟩
  rw [hsv] at c3 hnx
  obtain ⟨N, hN⟩ : ∃ N, N = L.length := ⟨_, rfl⟩
  obtain ⟨M, hM⟩ : ∃ M, M = s.next.length := ⟨_, rfl⟩
  rw [← hN] at c0
  rw [← hM] at c3 hnx
  have hnN : n < N := by omega
  have hnN2 : (n : Int) < (N : Int) := by omega
  have hM600 : M ≤ 600 := by omega
  have HN := hidn hN
  have HM := hidn hM
  have HG : Hid (goOnF L rd k n x = s.next.foldl (fun x m => reachF L rd k m x) x) := hidn (by unfold goOnF; rw [hs])
  rw [HG.out]
  have hF : FRx w fb φ L rd x bf (.slice (some ⟨gs, 0, none⟩) L.length cs) V bv a b := ⟨sn, tk, h⟩
  clear h v0 v1 v2 v3 hN hM hsv
  go_enter Try.func48, Try.ntmps48
  go_wp2
  go_loopw [15] (fun iv wr => ∃ (j : Nat) (φ' : Nat → Nat), iv = .int .i64 (j : Int) ∧ j ≤ M ∧ FRx wr fb φ' L rd ((s.next.take j).foldl (fun x m => reachF L rd k m x) x) bf (.slice (some ⟨gs, 0, none⟩) L.length cs) V bv a b ∧ Gw φ φ' w wr) (fun iv _ => M - (intOf iv).toNat)
  case atStart => exact ⟨0, φ, rfl, Nat.zero_le _, hF, Gw.refl _ _⟩
  case round =>
    obtain ⟨j, φ', rfl, hj, hFj, Gj⟩ := hrel
    by_cases hlt : j < M
    · have hlt2 : (j : Int) < (M : Int) := by omega
      have hjl : j < s.next.length := by rw [← HM.out]; exact hlt
      obtain ⟨m, hm⟩ : ∃ m, s.next[j]? = some m := ⟨_, List.getElem?_eq_getElem hjl⟩
      have hownj := hnx.gw Gj
      obtain ⟨g, c, hgc, _, _⟩ := nonnil hownj.1 (by omega)
      cases hgc
      have cj : wr.cell? ⟨g, j, none⟩ = some (.int .i64 (m : Int)) := own_at hownj.1 _ _ (vi_get _ _ _ hm)
      have hmL : m < L.length := hwf s (List.mem_of_getElem? hs) m (List.mem_of_getElem? hm)
      have hfk : FK L.length 0 rd x ((s.next.take j).foldl (fun x m => reachF L rd k m x) x) := fold_FK _ (fun x m hx => reach_FK L rd k m x hx) _ _ (by obtain ⟨_, _, q⟩ := hF; exact q.len)
      have hfold : Hid ((s.next.take (j + 1)).foldl (fun x m => reachF L rd k m x) x = reachF L rd k m ((s.next.take j).foldl (fun x m => reachF L rd k m x) x)) := hidn (by rw [List.take_add_one, hm]; simp [List.foldl_append])
      obtain ⟨xj, hxj⟩ : ∃ xj, xj = (s.next.take j).foldl (fun x m => reachF L rd k m x) x := ⟨_, rfl⟩
      rw [← hxj] at hFj hfk hfold
      have htk2 := hfk.tk
      have hun2 := hfk.cnt
      have hcall := HR fb φ' L rd xj bf (.slice (some ⟨gs, 0, none⟩) L.length cs) V bv a b m wr hFj hwf hsz hrd (by omega) (by omega) (hfk.le hle) hmL
      have HC := hidn hcall
      clear hcall hxj hm hFj hfk hownj
      go_wp2_with fail
      refine HC.out.mono ?_
      rintro e w2 ⟨rfl, φ2, hF2, G2⟩
      have G2' := Gj.trans G2
      go_wp2_with fail
      exact ⟨⟨j + 1, φ2, by simp, by omega, by rw [hfold.out]; exact hF2, G2'⟩, by simp [intOf]; omega⟩
    · have hlt2 : ¬ (j : Int) < (M : Int) := by omega
      have hall : Hid (s.next.take j = s.next) := hidn (List.take_of_length_le (by rw [← HM.out]; omega))
      rw [hall.out] at hFj
      go_wp2_with fail
      go_end0
      exact ⟨rfl, φ', hFj, Gj⟩
end Go.Proofs.Ytdgkjiiegmnjfaa
