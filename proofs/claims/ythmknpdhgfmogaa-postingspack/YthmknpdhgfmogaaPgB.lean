/- Bytes that are built; postings.putShort. -/
import Derived.Test.YthmknpdhgfmogaaPgA
import Derived.Test.YthmknpdhgfmogaaBytes
import Derived.Test.YthmknpdhgfmogaaAppK
import Derived.Laws.AppendOwnNone
namespace Go.Proofs.Ythmknpdhgfmogaa
open Go.RowKit Go.Joins
set_option linter.unusedVariables false

theorem vb_app (a b : List Nat) : vb (a ++ b) = vb a ++ vb b := by simp [vb]

theorem vb_cell (zs : List Nat) : ∀ u ∈ vb zs, u.oneCell' = true := by
  intro u hu
  unfold vb at hu
  rw [List.mem_map] at hu
  obtain ⟨x, _, rfl⟩ := hu
  rfl

theorem own_skip {w w' : World} {base e size n : Nat} {v : Value} {xs : List Value} (h : w.ownsRow base e size v n xs) (hb : Below w.heap.size w w') : w'.ownsRow base e size v n xs := by
  obtain ⟨hl, h1⟩ := h
  refine ⟨hl, ?_⟩
  rcases h1 with h1 | ⟨g, cap, cur, hv, hg, hh, r⟩
  · exact .inl h1
  · exact .inr ⟨g, cap, cur, hv, hg, (hb.block g (Array.getElem?_eq_some_iff.1 hh).1).trans hh, r⟩

theorem own_slice {w : World} {base e size n : Nat} {v : Value} {xs : List Value} (h : w.ownsRow base e size v n xs) : ∃ a c, v = .slice a n c := by
  rcases h.2 with ⟨rfl, rfl⟩ | ⟨g, cap, cur, hv, _⟩
  · exact ⟨none, 0, rfl⟩
  · exact ⟨_, _, hv⟩

/-- A row of one's own stays where its block does. -/
theorem own_stay {w w' : World} {base e size n : Nat} {v : Value} {xs : List Value} (h : w.ownsRow base e size v n xs) (hb : ∀ k, v.ownBlock = some k → w'.heap[k]? = w.heap[k]?) : w'.ownsRow base e size v n xs := by
  obtain ⟨hl, h1⟩ := h
  refine ⟨hl, ?_⟩
  rcases h1 with h1 | ⟨g, cap, cur, hv, hg, hh, r⟩
  · exact .inl h1
  · exact .inr ⟨g, cap, cur, hv, hg, (hb g (by rw [hv]; rfl)).trans hh, r⟩

/-- Bytes that are being built: where they lie, and what else is kept since w0. -/
structure Bld (w0 w : World) (B : Nat) (row : Option Nat) (v : Value) (zs : List Nat) : Prop where
  own : w.ownsRow B 5 1 v zs.length (vb zs)
  bel : Below B w0 w
  siz : w0.heap.size ≤ w.heap.size
  kep : ∀ k, k < w0.heap.size → some k ≠ row → w.heap[k]? = w0.heap[k]?
  blk : ∀ k, v.ownBlock = some k → some k = row ∨ w0.heap.size ≤ k

theorem Bld.start {w : World} {B : Nat} {v : Value} {zs : List Nat} (h : w.ownsRow B 5 1 v zs.length (vb zs)) : Bld w w B v.ownBlock v zs :=
  ⟨h, Below.refl _ _, Nat.le_refl _, fun _ _ _ => rfl, fun k hk => .inl hk.symm⟩

theorem Bld.below {w0 w w' : World} {B : Nat} {row : Option Nat} {v : Value} {zs : List Nat} (h : Bld w0 w B row v zs) (hB : B ≤ w0.heap.size) (hb : Below w.heap.size w w') : Bld w0 w' B row v zs :=
  ⟨own_skip h.own hb, h.bel.trans (hb.mono (Nat.le_trans hB h.siz)), Nat.le_trans h.siz hb.size, fun k h1 h2 => (hb.block k (Nat.lt_of_lt_of_le h1 h.siz)).trans (h.kep k h1 h2), h.blk⟩

theorem Bld.trans {w0 w w' : World} {B : Nat} {row : Option Nat} {v v' : Value} {zs zs' : List Nat} (h : Bld w0 w B row v zs) (k : Bld w w' B v.ownBlock v' zs') : Bld w0 w' B row v' zs' := by
  refine ⟨k.own, h.bel.trans k.bel, Nat.le_trans h.siz k.siz, fun j h1 h2 => ?_, fun j hj => ?_⟩
  · refine (k.kep j (Nat.lt_of_lt_of_le h1 h.siz) (fun e => ?_)).trans (h.kep j h1 h2)
    rcases h.blk j e.symm with h3 | h3
    · exact h2 h3
    · omega
  · rcases k.blk j hj with h3 | h3
    · exact h.blk j h3.symm
    · exact .inr (Nat.le_trans h.siz h3)

/-- More bytes behind them: a run of append, and what then is kept of all that lies elsewhere. -/
theorem Bld.app {w0 w : World} {B : Nat} {row : Option Nat} {v : Value} {zs : List Nat} (h : Bld w0 w B row v zs) (hB : B ≤ w0.heap.size) (ys : List Nat) (ad : Addr) (c : Nat) (hm : 0 < ys.length) (hn : zs.length + ys.length ≤ 100000000000000)
    (hc : ∀ j u, (vb ys)[j]? = some u → w.cell? (ad.add j) = some u) :
    ∃ g c' w', (Builtin.append_ #[23, 23] 23 #[v, .slice (some ad) ys.length c]).run Try.prog w = .ok (.slice (some ⟨g, 0, none⟩) (zs.length + ys.length) c') w' ∧ Bld w0 w' B row (.slice (some ⟨g, 0, none⟩) (zs.length + ys.length) c') (zs ++ ys) ∧
      w.heap.size ≤ w'.heap.size ∧ (∀ k, k < w.heap.size → some k ≠ v.ownBlock → w'.heap[k]? = w.heap[k]?) ∧ (v.ownBlock = some g ∨ w.heap.size ≤ g) := by
  obtain ⟨i0, hi, hz0, hz1, hz2⟩ := info_parts Try.info5
  obtain ⟨g, c', w', hr, ho, hg, hk⟩ := appN (P := Try.prog) w 23 23 5 i0 (.int .u8 0) 1 1 Try.underlying23 hi hz0 hz1 hz2 rfl (by decide) v zs.length (vb zs) B h.own (Nat.le_trans hB h.siz) ad ys.length c hm (vb ys) (by simp [vb]) hc (vb_cell ys) (by unfold maxLen; omega) (by omega)
  refine ⟨g, c', w', hr, ⟨?_, ?_, Nat.le_trans h.siz hg.size, ?_, ?_⟩, hg.size, hg.block, hk⟩
  · rw [vb_app, List.length_append]; exact ho
  · exact h.bel.grown hg (Nat.le_trans hB h.siz) (fun j hj => (h.own.lt j hj).1)
  · intro k h1 h2
    refine (hg.block k (Nat.lt_of_lt_of_le h1 h.siz) (fun e => ?_)).trans (h.kep k h1 h2)
    rcases h.blk k e.symm with h3 | h3
    · exact h2 h3
    · omega
  · intro k hk2
    simp [Value.ownBlock] at hk2
    subst hk2
    rcases hk with h3 | h3
    · exact h.blk _ h3
    · exact .inr (Nat.le_trans h.siz h3)

/-- One byte more, out of a literal. -/
theorem Bld.app1 {w0 w : World} {B : Nat} {row : Option Nat} {v : Value} {zs : List Nat} (h : Bld w0 w B row v zs) (hB : B ≤ w0.heap.size) (y : Nat) (hn : zs.length + 1 ≤ 100000000000000) :
    ∃ g c' w', (Builtin.append_ #[23, 23] 23 #[v, .slice (some ⟨w.heap.size, 0, none⟩) 1 1]).run Try.prog (w.alloc (.cells #[.int .u8 (y : Int)] 5)) = .ok (.slice (some ⟨g, 0, none⟩) (zs.length + 1) c') w' ∧ Bld w0 w' B row (.slice (some ⟨g, 0, none⟩) (zs.length + 1) c') (zs ++ [y]) := by
  have h1 : Bld w0 (w.alloc (.cells #[.int .u8 (y : Int)] 5)) B row v zs := h.below hB ((Below.refl _ w).alloc (Nat.le_refl _) _)
  obtain ⟨g, c', w', hr, hb, _⟩ := h1.app hB [y] ⟨w.heap.size, 0, none⟩ 1 (by simp) hn (fun j u hj => by
    match j, hj with
    | 0, hj => simp [vb] at hj; subst hj; simp [Addr.add])
  exact ⟨g, c', w', hr, hb⟩

/-- What putShort and putBody leave. -/
def PsP (w : World) (B : Nat) (row : Option Nat) (zs : List Nat) (e : Ending) (w' : World) : Prop := ∃ v, e = .returned v ∧ Bld w w' B row v zs

theorem or128 : ∀ m, m < 256 → m ||| 128 = m % 128 + 128 := by decide +kernel

theorem or128_u8 (m : Nat) (h : m < 256) : bits .or .u8 (m : Int) 128 = ((m % 128 + 128 : Nat) : Int) := by
  rw [← or128 m h]
  exact bits_or_u .u8 rfl m 128 h (by decide)

set_option maxHeartbeats 4000000 in
set_option maxRecDepth 100000 in
theorem putShort_any (B : Nat) (v : Value) (zs : List Nat) (n : Nat) (w : World) (h : w.ownsRow B 5 1 v zs.length (vb zs)) (hn : n < 34359738368) (hl : zs.length ≤ 10000000) (hB : B ≤ w.heap.size) :
    Calls Try.prog 34 #[v, .int .i64 (n : Int)] w (PsP w B v.ownBlock (zs ++ shortB n)) := by
  obtain ⟨row, hrow⟩ : ∃ row, row = v.ownBlock := ⟨_, rfl⟩
  rw [← hrow]
  have HS0 : Hid (Bld w w B row v zs) := hidn (by rw [hrow]; exact Bld.start h)
  obtain ⟨va, vc, e0⟩ := own_slice h
  subst e0
  have hB0 := hidn hB
  have hsh := shortB_len5 n hn
  clear h hrow
  go_enter Try.func34, Try.ntmps34
  go_wp2_with fail
  go_loopw [0, 1] (fun bv iv wr => ∃ (m L : Nat) (pre : List Nat) (a : Option Addr) (c : Nat), iv = .int .i64 (m : Int) ∧ m < 34359738368 ∧ bv = .slice a L c ∧ Hid (L = (zs ++ pre).length) ∧ Hid (Bld w wr B row (.slice a L c) (zs ++ pre)) ∧ Hid (pre ++ shortB m = shortB n)) (fun _ iv _ => (intOf iv).toNat)
  case atStart => exact ⟨n, zs.length, [], va, vc, rfl, hn, rfl, hidn (by simp), hidn (by simpa using HS0.out), hidn rfl⟩
  case round =>
    obtain ⟨m, L, pre, a, c, rfl, hm, rfl, HL, HB, HP⟩ := hrel
    have hpl : pre.length ≤ 5 := by
      have h1 := congrArg List.length HP.out
      rw [List.length_append] at h1
      omega
    have hLn : L ≤ 10000005 := by have := HL.out; rw [List.length_append] at this; omega
    by_cases hlt : 127 < m
    · have hlt2 : (127 : Int) < (m : Int) := by omega
      obtain ⟨k, hk⟩ : ∃ k, k = m % 256 := ⟨_, rfl⟩
      have hwr : IntKind.u8.wrap (m : Int) = (k : Int) := by rw [IntKind.wrap_u8, hk]; omega
      obtain ⟨y, hy⟩ : ∃ y, y = k % 128 + 128 := ⟨_, rfl⟩
      have hor : bits .or .u8 (k : Int) 128 = (y : Int) := by rw [or128_u8 k (by omega), hy]
      obtain ⟨q, hq⟩ : ∃ q, q = m / 128 := ⟨_, rfl⟩
      have hsr : (m : Int) / 128 = (q : Int) := by rw [hq]; omega
      have hqm : q < m := by omega
      have HE : Hid (pre ++ [y] ++ shortB q = shortB n) := hidn (by
        rw [← HP.out, shortB_hi (n := m) (by omega), ← hq, hy, hk, List.append_assoc]
        have : m % 256 % 128 = m % 128 := by omega
        rw [this]; rfl)
      obtain ⟨g, c', w', hr, hb⟩ := HB.out.app1 hB0.out y (by rw [← HL.out]; omega)
      rw [← HL.out] at hr hb
      have HR := hidn hr
      have HB2 : Hid (Bld w w' B row (.slice (some ⟨g, 0, none⟩) (L + 1) c') (zs ++ (pre ++ [y]))) := hidn (by rw [← List.append_assoc]; exact hb)
      have HL2 : Hid (L + 1 = (zs ++ (pre ++ [y])).length) := hidn (by rw [← List.append_assoc, List.length_append, ← HL.out]; rfl)
      clear hr hb hk hy hq HB HP hpl
      go_wp2_with (at_builtin; refine wpList_app_run2 rfl _ _ 23 23 rfl rfl _ _ _ rfl rfl HR.out ?_; clear HR)
      go_roundw
      case rel => exact ⟨q, L + 1, pre ++ [y], some ⟨g, 0, none⟩, c', by first | rfl | simp, by omega, rfl, HL2, HB2, HE⟩
      case measure => simp [intOf]; omega
    · have hlt2 : ¬ (127 : Int) < (m : Int) := by omega
      have hwr : IntKind.u8.wrap (m : Int) = (m : Int) := by rw [IntKind.wrap_u8]; omega
      have HE : Hid (pre ++ [m] = shortB n) := hidn (by rw [← HP.out, shortB_lo (n := m) (by omega)])
      obtain ⟨g, c', w', hr, hb⟩ := HB.out.app1 hB0.out m (by rw [← HL.out]; omega)
      rw [← HL.out] at hr hb
      have HR := hidn hr
      have HB2 : Hid (Bld w w' B row (.slice (some ⟨g, 0, none⟩) (L + 1) c') (zs ++ shortB n)) := hidn (by rw [← HE.out, ← List.append_assoc]; exact hb)
      clear hr hb HB HP hpl
      go_wp2_with (at_builtin; refine wpList_app_run2 rfl _ _ 23 23 rfl rfl _ _ _ rfl rfl HR.out ?_; clear HR)
      go_ret
      exact ⟨_, rfl, HB2.out⟩
end Go.Proofs.Ythmknpdhgfmogaa
