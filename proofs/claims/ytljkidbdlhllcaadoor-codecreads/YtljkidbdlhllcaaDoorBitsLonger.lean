/- The walk of bits.longer: bits in new memory, noughts behind them. -/
import Derived.Test.YtljkidbdlhllcaaDoorBitsLay
import Derived.Laws.CopyOwn
namespace Go.Proofs.YtljkidbdlhllcaaDoor
open Go.RowKit
set_option linter.unusedVariables false

theorem vb_one (zs : List Nat) : ∀ u ∈ vb zs, u.oneCell' = true := by
  intro u hu
  simp only [vb, List.mem_map] at hu
  obtain ⟨y, _, rfl⟩ := hu
  rfl
theorem bs_news {w : World} {x : Addr} {len : Nat} {zs : List Nat} (hB : Bs w (some x) len zs) : ∀ (j : Nat) (u : Value), (vb zs)[j]? = some u → w.cell? (x.add j) = some u := by
  intro j u hj
  have hj' : j < zs.length := by
    have := (List.getElem?_eq_some_iff.1 hj).1; simpa [vb] using this
  rw [vb_getD zs j hj'] at hj
  cases hj
  exact hB.2.2.2.2 x rfl j (by rw [← hB.1]; exact hj')
theorem bs_none_len {w : World} {len : Nat} {zs : List Nat} (hB : Bs w none len zs) : len = 0 := hB.2.2.2.1 rfl
theorem own_mono {w : World} {base base' e n : Nat} {v : Value} {xs : List Value} (h : w.ownsRow base e 1 v n xs) (hb : base' ≤ base) : w.ownsRow base' e 1 v n xs := by
  obtain ⟨hl, h1⟩ := h
  refine ⟨hl, ?_⟩
  rcases h1 with h1 | ⟨g, cap, cur, hv, hg, hr⟩
  · exact .inl h1
  · exact .inr ⟨g, cap, cur, hv, Nat.le_trans hb hg, hr⟩
theorem own_of_block {w : World} {g L : Nat} {e : TypeId} {xs : List Value} (h : w.heap[g]? = some (.cells xs.toArray e (0, 0))) (hl : xs.length = L) (hm : L ≤ maxLen) :
    w.ownsRow g e 1 (.slice (some ⟨g, 0, none⟩) L L) L xs := by
  refine ⟨by omega, .inr ⟨g, L, xs.toArray, rfl, Nat.le_refl _, h, Nat.le_refl _, hm, by simp; omega, by rw [← hl]; simp⟩⟩
theorem block_of_own {w : World} {base g L : Nat} {e : TypeId} {xs : List Value} (h : w.ownsRow base e 1 (.slice (some ⟨g, 0, none⟩) L L) L xs) : w.heap[g]? = some (.cells xs.toArray e (0, 0)) := by
  obtain ⟨hl, h1⟩ := h
  rcases h1 with ⟨h, _⟩ | ⟨g', cap, cur, hv, hg, hh, hnc, hcm, hcs, htk⟩
  · simp at h
  · simp at hv
    obtain ⟨rfl, rfl⟩ := hv
    rw [hh]
    congr 2
    rw [← htk]
    rw [List.take_of_length_le (by simp; omega)]
theorem made_block {w : World} {base g L : Nat} (h : w.ownsRow base 5 1 (.slice (some ⟨g, 0, none⟩) L L) L (madeCells (Value.int IntKind.u8 0).cells (L * 1)).toList) : Hid (w.heap[g]? = some (.cells (List.replicate L (Value.int .u8 0)).toArray 5 (0, 0))) := by
  have e : (madeCells (Value.int IntKind.u8 0).cells (L * 1)).toList = List.replicate L (Value.int .u8 0) := by
    rw [Nat.mul_one]; exact toList_madeCells_one _ _
  rw [e] at h
  exact block_of_own h
theorem splice_zero (zs : List Nat) (L : Nat) : splice (List.replicate L (Value.int .u8 0)) 0 (vb zs) = vb (zs ++ List.replicate (L - zs.length) 0) := by
  simp [splice, vb]
theorem nb_mono {a b : Nat} (h : a ≤ b) : nb a ≤ nb b := by unfold nb; omega

theorem copy_run {w1 W0 : World} {B g L len cap : Nat} {a : Option Addr} {zs : List Nat} (hblk : w1.heap[g]? = some (.cells (List.replicate L (Value.int .u8 0)).toArray 5 (0, 0)))
    (hl : zs.length = len) (hlL : len ≤ L) (hnone : a = none → len = 0) (hsrc : ∀ x, a = some x → ∀ (j : Nat) (u : Value), (vb zs)[j]? = some u → w1.cell? (x.add j) = some u) (hb : Below B W0 w1) (hB : B ≤ g) :
    ∃ w2, Sem.run Tryd.prog (Builtin.copy_ #[27, 27] 3 #[.slice (some ⟨g, 0, none⟩) L L, .slice a len cap]) w1 = .ok (goInt (len : Int)) w2 ∧
      Hid (w2.heap[g]? = some (.cells (vb (zs ++ List.replicate (L - len) 0)).toArray 5 (0, 0))) ∧ Below B W0 w2 := by
  have hvl : (vb zs).length = len := by simp [vb, hl]
  by_cases h0 : len = 0
  · subst h0
    obtain rfl : zs = [] := List.length_eq_zero_iff.1 hl
    refine ⟨w1, run_copy_none (P := Tryd.prog) w1 27 27 3 5 _ _ _ _ _ _ Tryd.underlying27 (by kernel_rfl) (by simp), ?_, hb⟩
    have : vb ([] ++ List.replicate (L - 0) 0) = List.replicate L (Value.int .u8 0) := by simp [vb]
    rw [this]; exact hblk
  · cases a with
    | none => exact absurd (hnone rfl) h0
    | some x =>
      have hrun := run_copy_row (P := Tryd.prog) w1 27 27 3 5 g 0 L L x len cap _ 5 (vb zs) Tryd.underlying27 (by kernel_rfl) hblk (by rw [hvl]; exact (Nat.min_eq_left hlL).symm) (hsrc x rfl) (by simp [hvl]; exact hlL) (vb_one zs)
      rw [hvl] at hrun
      refine ⟨_, hrun, ?_, below_setRow hb hB _⟩
      have hh := setRow_heap w1 g _ (List.take 0 (List.replicate L (Value.int IntKind.u8 0)).toArray.toList ++ vb zs ++ List.drop (0 + len) (List.replicate L (Value.int IntKind.u8 0)).toArray.toList).toArray 5 (0, 0) hblk
      have e : List.take 0 (List.replicate L (Value.int IntKind.u8 0)).toArray.toList ++ vb zs ++ List.drop (0 + len) (List.replicate L (Value.int IntKind.u8 0)).toArray.toList = vb (zs ++ List.replicate (L - len) 0) := by
        simp [vb]
      rw [e] at hh ⊢
      exact hh

theorem longer_mid {w w1 : World} {L len cap n : Nat} {a : Option Addr} {zs : List Nat}
    (hblk : w1.heap[w.heap.size + 1 + 1]? = some (.cells (List.replicate L (Value.int .u8 0)).toArray 5 (0, 0)))
    (hl : zs.length = len) (hlL : len ≤ L) (hnone : a = none → len = 0) (hsrc : ∀ x, a = some x → ∀ (j : Nat) (u : Value), (vb zs)[j]? = some u → w.cell? (x.add j) = some u)
    (hb : Below (w.heap.size + 2) ((w.alloc (.cells #[.slice a len cap, .int .i64 n] 45)).alloc (.cells #[.slice none 0 0, .int .i64 0] 45)) w1) :
    (w1.cell? ⟨w.heap.size, 0, none⟩ = some (.slice a len cap)) ∧ ∃ w2, Sem.run Tryd.prog (Builtin.copy_ #[27, 27] 3 #[.slice (some ⟨w.heap.size + 1 + 1, 0, none⟩) L L, .slice a len cap]) w1 = .ok (goInt (len : Int)) w2 ∧
      Hid (w2.heap[w.heap.size + 1 + 1]? = some (.cells (vb (zs ++ List.replicate (L - len) 0)).toArray 5 (0, 0))) ∧
      Below (w.heap.size + 2) ((w.alloc (.cells #[.slice a len cap, .int .i64 n] 45)).alloc (.cells #[.slice none 0 0, .int .i64 0] 45)) w2 ∧
      (w2.cell? ⟨w.heap.size, 1, none⟩ = some (.int .i64 n) ∧ w2.cell? ⟨w.heap.size + 1, 0, none⟩ = some (.slice none 0 0) ∧ w2.cell? ⟨w.heap.size + 1, 1, none⟩ = some (.int .i64 0) ∧
        w2.frozen? ⟨w.heap.size + 1, 0, none⟩ = false ∧ w2.frozen? ⟨w.heap.size + 1, 1, none⟩ = false) := by
  refine ⟨(hb.cell (by simp)).trans (by simp), ?_⟩
  obtain ⟨w2, h1, h2, h3⟩ := copy_run (cap := cap) hblk hl hlL hnone (fun x hx j u hj => by
    have h := hsrc x hx j u hj
    rw [hb.cell (p := x.add j) (by have := block_lt_of_cell h; omega)]
    exact Lib.cell?_alloc_some _ (Lib.cell?_alloc_some _ h)) hb (by omega)
  exact ⟨w2, h1, h2, h3, (h3.cell (by simp)).trans (by simp), (h3.cell (by simp)).trans (by simp), (h3.cell (by simp)).trans (by simp), (h3.frozen (by simp)).trans (by simp), (h3.frozen (by simp)).trans (by simp)⟩

set_option maxHeartbeats 1000000 in
theorem longer_any (a : Option Addr) (len cap n count : Nat) (zs : List Nat) (w : World) (hB : Bs w a len zs) (hn : n ≤ 1099511627776) (hc : count ≤ 128) (hl : len = nb n) :
    Calls Tryd.prog 48 #[.agg #[.slice a len cap, .int .i64 n], .int .i64 count] w fun e w' => ∃ g, e = .returned (.agg #[.slice (some ⟨g, 0, none⟩) (nb (n + count)) (nb (n + count)), .int .i64 ((n + count : Nat) : Int)]) ∧
      w.heap.size ≤ g ∧ w'.ownsRow w.heap.size 5 1 (.slice (some ⟨g, 0, none⟩) (nb (n + count)) (nb (n + count))) (nb (n + count)) (vb (zs ++ List.replicate (nb (n + count) - len) 0)) ∧ Below w.heap.size w w' := by
  obtain ⟨i0, hi, hz0, hz1, hz2⟩ := info_parts Tryd.info5
  obtain ⟨L, hL⟩ : ∃ L, L = nb (n + count) := ⟨_, rfl⟩
  have hLb : L ≤ 137438953600 := by unfold nb at hL; omega
  have hlL : len ≤ L := by rw [hL, hl]; exact nb_mono (by omega)
  rw [← hL]
  have HL : Hid _ := hL
  have hl0 := hB.1
  have HL0 : Hid _ := hl0
  have HLn : Hid _ := hl
  clear hL hl hl0
  have hbo : ∀ W, Calls Tryd.prog 55 #[.int .i64 ((n : Int) + (count : Int))] W fun e w' => e = .returned (.int .i64 (L : Nat)) ∧ w' = W := by
    intro W
    have := bytesOf_any (n + count) W (by omega)
    rw [show ((n + count : Nat) : Int) = (n : Int) + (count : Int) from by push_cast; rfl, ← HL.out] at this
    exact this
  have hnews : ∀ (x : Addr), a = some x → ∀ (j : Nat) (u : Value), (vb zs)[j]? = some u → w.cell? (x.add j) = some u := by
    rintro x rfl; exact bs_news hB
  have hnone : a = none → len = 0 := by rintro rfl; exact bs_none_len hB
  clear hB
  go_enter Tryd.func48, Tryd.ntmps48
  go_wp2_with fail
  refine (hbo _).mono ?_
  rintro e w0 ⟨rfl, rfl⟩
  go_wp2_with (at_make; refine wpList_make_full _ rfl _ _ 27 rfl (w.heap.size + 2) 5 i0 (.int .u8 0) 1 Tryd.underlying27 hi hz0 hz1 _ _ _ _ L rfl rfl rfl rfl (by rw [hz2]; omega) (by unfold maxLen; omega) (by simp) ?_; intro w1 hown1 hgrow1; have hblk := made_block hown1; simp only [World.size_alloc] at hblk; have hb1 : Below (w.heap.size + 2) ((w.alloc (.cells #[.slice a len cap, .int .i64 n] 45)).alloc (.cells #[.slice none 0 0, .int .i64 0] 45)) w1 := (Below.refl _ _).grown hgrow1 (by simp) (by simp); clear hown1 hgrow1; obtain ⟨k0, w2, hcp, HB2, hb2, k2⟩ := longer_mid (cap := cap) hblk.out HL0.out hlL hnone hnews hb1)
  refine bodyPost_ret (v := .agg #[.slice (some ⟨w.heap.size + 1 + 1, 0, none⟩) L L, .int .i64 ((n : Int) + (count : Int))]) (by simp [results, Tryd.results48, go_sem, k2]) rfl ⟨w.heap.size + 1 + 1, by rw [show ((n + count : Nat) : Int) = (n : Int) + (count : Int) from by push_cast; rfl], by omega, ?_, ?_⟩
  · refine own_mono (base := w.heap.size + 1 + 1) ?_ (by omega)
    refine ownsRow_setCell_below (ownsRow_setCell_below (own_of_block HB2.out ?_ ?_) (by simp) _) (by simp) _
    · have := HL0.out
      simp [vb]; omega
    · unfold maxLen; omega
  · have h1 : Below w.heap.size w ((w.alloc (.cells #[.slice a len cap, .int .i64 n] 45)).alloc (.cells #[.slice none 0 0, .int .i64 0] 45)) := ((Below.refl _ _).alloc (Nat.le_refl _) _).alloc (by simp) _
    exact ((h1.trans (hb2.mono (by omega))).setCell (by simp) _).setCell (by simp) _
end Go.Proofs.YtljkidbdlhllcaaDoor
