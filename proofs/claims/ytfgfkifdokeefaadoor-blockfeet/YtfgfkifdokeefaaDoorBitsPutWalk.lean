/- The walk of bits.Put. -/
import Derived.Test.YtfgfkifdokeefaaDoorMa
namespace Go.Proofs.YtfgfkifdokeefaaDoor.Cd
open Go.RowKit
set_option linter.unusedVariables false

theorem bcell {W w1 : World} (hb : Below W.heap.size W w1) : (∀ b o, b < W.heap.size → w1.cell? ⟨b, o, none⟩ = W.cell? ⟨b, o, none⟩) ∧ (∀ b o, b < W.heap.size → w1.frozen? ⟨b, o, none⟩ = W.frozen? ⟨b, o, none⟩) :=
  ⟨fun b o h => hb.cell (p := ⟨b, o, none⟩) h, fun b o h => hb.frozen (p := ⟨b, o, none⟩) h⟩

set_option maxHeartbeats 1000000 in
theorem put_bad (a : Option Addr) (len cap : Nat) (x : Int) (n : Nat) (count : Int) (zs : List Nat) (w : World) (hB : Bs w a len zs) (hx : x ≤ 9223372036854775807)
    (hbad : canB zs x = false ∨ ¬ (0 ≤ count ∧ count ≤ 64)) :
    Calls Tryd.prog 51 #[.agg #[.slice a len cap, .int .i64 x], .int .u64 n, .int .i64 count] w fun e w' =>
      e = .returned (.tuple #[.agg #[.slice none 0 0, .int .i64 0], .int .i64 1]) ∧ Below w.heap.size w w' := by
  have h0 : Below w.heap.size w ((w.alloc (.cells #[.slice a len cap, .int .i64 x] 79)).alloc (.cells #[.slice none 0 0, .int .i64 0] 79)) := ((Below.refl w.heap.size w).alloc (Nat.le_refl _) _).alloc (by simp) _
  have hB2 := hB.below h0
  go_enter Tryd.func51, Tryd.ntmps51
  go_wp2_with fail
  refine (can_any a len cap x zs _ hB2 hx).mono ?_
  rintro e w1 ⟨rfl, hb1⟩
  obtain ⟨hc, hf⟩ := bcell hb1
  have hz : w.heap.size + 1 < w1.heap.size := by have := hb1.size; simp at this; omega
  have HB : Hid _ := hbad
  clear hbad
  cases hcan : canB zs x with
  | false =>
    go_wp2
    refine bodyPost_ret (v := .tuple #[.agg #[.slice none 0 0, .int .i64 0], .int .i64 1]) (by simp [results, Tryd.results51, go_sem, hc]) rfl ⟨rfl, ?_⟩
    exact ((h0.trans (hb1.mono (by simp; omega))).setCell (by simp) _).setCell (by simp) _
  | true =>
    have hct : decide (0 ≤ count ∧ count ≤ 64) = false := by
      rcases HB.out with h | h
      · rw [h] at hcan; cases hcan
      · exact decide_eq_false h
    go_wp2_with fail
    refine (isCount_any count _).mono ?_
    rintro e w2 ⟨rfl, rfl⟩
    rw [hct]
    go_wp2
    refine bodyPost_ret (v := .tuple #[.agg #[.slice none 0 0, .int .i64 0], .int .i64 1]) (by simp [results, Tryd.results51, go_sem, hc]) rfl ⟨rfl, ?_⟩
    exact ((h0.trans (hb1.mono (by simp; omega))).setCell (by simp) _).setCell (by simp) _

theorem grown_cells {W w1 : World} {g : Nat} (hg : W.grownBy w1 (some g)) : ∀ b o v, b ≠ g → W.cell? ⟨b, o, none⟩ = some v → w1.cell? ⟨b, o, none⟩ = some v :=
  fun b o v hne h => hg.cell h (by simpa using hne)
theorem grown_frozen {W w1 : World} {g : Nat} (hg : W.grownBy w1 (some g)) (b o : Nat) (hb : b < W.heap.size) (hne : b ≠ g) : w1.frozen? ⟨b, o, none⟩ = W.frozen? ⟨b, o, none⟩ := by
  have := hg.block b hb (by simpa using hne)
  unfold World.frozen?
  simp only [this]
theorem own_lt {w : World} {base g n cap : Nat} {e : TypeId} {xs : List Value} (h : w.ownsRow base e 1 (.slice (some ⟨g, 0, none⟩) n cap) n xs) : g < w.heap.size := by
  rcases h.2 with ⟨h, _⟩ | ⟨g', cap', cur, hv, hg, hh, _⟩
  · simp at h
  · simp at hv
    obtain ⟨rfl, rfl⟩ := hv
    exact (Array.getElem?_eq_some_iff.1 hh).1

/-- The row that is laid is the list of bits with the number's lowest bits behind it. -/
theorem put_pack {zs ys : List Nat} {n x count : Nat} (hz : isB zs) (hcan : canP zs x) (hy : isB ys) (hl : ys.length = nb (x + count))
    (hb : ∀ j, bitAt ys j = (bitAt (zs ++ List.replicate (nb (x + count) - zs.length) 0) j || (decide (x ≤ j ∧ j < x + count) && n.testBit (x + count - 1 - j)))) :
    IsPack ys (bitsL zs x ++ lowBits n count) := by
  refine ⟨by simp [bitsL_length, lowBits_length, hl], hy, fun i => ?_⟩
  have hp := (canP_pack hcan hz).2.2 i
  rw [Int.toNat_natCast] at hp
  rw [hb i, bitAt_append_zero, hp, getD_app, bitsL_length]
  by_cases h1 : i < x
  · rw [if_pos h1, decide_eq_false (by omega)]; simp
  · rw [if_neg h1, List.getD_eq_getElem?_getD, List.getElem?_eq_none (by rw [bitsL_length]; omega)]
    by_cases h2 : i < x + count
    · rw [decide_eq_true (by omega), lowBits_getD n count (i - x) (by omega), show count - 1 - (i - x) = x + count - 1 - i from by omega]; simp
    · rw [decide_eq_false (by omega), List.getD_eq_getElem?_getD, List.getElem?_eq_none (by rw [lowBits_length]; omega)]; simp

set_option maxHeartbeats 2000000 in
theorem put_ok (a : Option Addr) (len cap : Nat) (x : Nat) (n : Nat) (count : Nat) (zs : List Nat) (w : World) (hB : Bs w a len zs) (hx : x ≤ 1099511627776) (hn : n < 18446744073709551616)
    (hcan : canB zs x = true) (hct : count ≤ 64) :
    Calls Tryd.prog 51 #[.agg #[.slice a len cap, .int .i64 x], .int .u64 n, .int .i64 count] w fun e w' =>
      ∃ g ys, e = .returned (.tuple #[.agg #[.slice (some ⟨g, 0, none⟩) ys.length ys.length, .int .i64 ((x + count : Nat) : Int)], .int .i64 0]) ∧ w.heap.size ≤ g ∧
        w'.ownsRow w.heap.size 5 1 (.slice (some ⟨g, 0, none⟩) ys.length ys.length) ys.length (vb ys) ∧ IsPack ys (bitsL zs x ++ lowBits n count) ∧ Below w.heap.size w w' := by
  have h0 : Below w.heap.size w ((w.alloc (.cells #[.slice a len cap, .int .i64 x] 79)).alloc (.cells #[.slice none 0 0, .int .i64 0] 79)) := ((Below.refl w.heap.size w).alloc (Nat.le_refl _) _).alloc (by simp) _
  have hB2 := hB.below h0
  have hcp := (canB_iff zs x).1 hcan
  have hlen : len = nb x := by have := hcp.2.1; rw [Int.toNat_natCast] at this; rw [← hB.1]; exact this
  have HC : Hid _ := hcan
  have HP : Hid _ := hcp
  have HE : Hid _ := hlen
  have hdc : decide (0 ≤ (count : Int) ∧ (count : Int) ≤ 64) = true := decide_eq_true (by omega)
  have HD : Hid _ := hdc
  clear hcan hcp hlen hdc
  go_enter Tryd.func51, Tryd.ntmps51
  go_wp2_with fail
  refine (can_any a len cap x zs _ hB2 (by omega)).mono ?_
  rintro e w1 ⟨rfl, hb1⟩
  rw [HC.out]
  obtain ⟨hc, hf⟩ := bcell hb1
  have hz : w.heap.size + 1 < w1.heap.size := by have := hb1.size; simp at this; omega
  go_wp2_with fail
  refine (isCount_any count _).mono ?_
  rintro e w1 ⟨rfl, rfl⟩
  rw [HD.out]
  go_wp2_with fail
  refine (longer_any a len cap x count zs _ (hB2.below hb1) hx (by omega) HE.out).mono ?_
  rintro e w3 ⟨g, rfl, hg, hown3, hb3⟩
  have hgl := own_lt hown3
  have hz3 := hb3.size
  obtain ⟨hc3, hf3⟩ := bcell hb3
  obtain ⟨L, hL⟩ : ∃ L, L = nb (x + count) := ⟨_, rfl⟩
  rw [← hL] at hown3 ⊢
  have hLb : L ≤ 137438953600 := by unfold nb at hL; omega
  have hL8 : x + count ≤ 8 * L := by unfold nb at hL; omega
  have HL : Hid _ := hL
  have hlL : len ≤ L := by rw [hL, HE.out]; exact nb_mono (by omega)
  have hsum : (zs ++ List.replicate (L - len) 0).length = L := by have := hB.1; simp; omega
  have hsB : isB (zs ++ List.replicate (L - len) 0) := by
    intro y hy
    rcases List.mem_append.1 hy with h | h
    · exact hB.2.2.1 y h
    · have := (List.mem_replicate.1 h).2; omega
  clear hL
  have c1 : w3.cell? ⟨w.heap.size, 1, none⟩ = some (.int .i64 x) := by rw [hc3 _ _ (by omega), hc _ _ (by simp; omega)]; simp
  have hlt3 : w.heap.size < w3.heap.size := by omega
  go_wp2_with fail
  refine (lay_any w1.heap.size g L L x count n _ _ hn hct (by omega) hsum hsB hL8 hg (hown3.alloc _)).mono ?_
  rintro e w4 ⟨rfl, ys, hown4, hy4, hl4, hbits4, hgr4⟩
  have hne1 : w3.heap.size ≠ g := by omega
  have hne2 : w.heap.size + 1 ≠ g := by omega
  have k1 := grown_cells hgr4 w3.heap.size 0 (.slice (some ⟨g, 0, none⟩) L L) hne1 (by simp)
  have k2 := grown_cells hgr4 w3.heap.size 1 (.int .i64 ((x + count : Nat) : Int)) hne1 (by simp)
  have k3 := grown_cells hgr4 (w.heap.size + 1) 0 (.slice none 0 0) hne2 (by rw [World.cell?_alloc_past _ _ _ (by omega), hc3 _ _ hz, hc _ _ (by simp)]; simp)
  have k4 := grown_cells hgr4 (w.heap.size + 1) 1 (.int .i64 0) hne2 (by rw [World.cell?_alloc_past _ _ _ (by omega), hc3 _ _ hz, hc _ _ (by simp)]; simp)
  have k5 : w4.frozen? ⟨w.heap.size + 1, 0, none⟩ = false := (grown_frozen hgr4 (w.heap.size + 1) 0 (by simp; omega) hne2).trans (by rw [frozen?_alloc_cells, hf3 _ _ hz, hf _ _ (by simp)]; simp)
  have k6 : w4.frozen? ⟨w.heap.size + 1, 1, none⟩ = false := (grown_frozen hgr4 (w.heap.size + 1) 1 (by simp; omega) hne2).trans (by rw [frozen?_alloc_cells, hf3 _ _ hz, hf _ _ (by simp)]; simp)
  have hb4 : Below w.heap.size w w4 := (((h0.trans (hb1.mono (by simp; omega))).trans (hb3.mono (by omega))).alloc (by omega) _).grown hgr4 (by simp; omega) (by intro k hk; cases hk; omega)
  have hne3 : ¬ (w.heap.size + 1 = g) := hne2
  have hpk : IsPack ys (bitsL zs x ++ lowBits n count) := put_pack hB.2.2.1 HP.out hy4 (by rw [hl4]; exact HL.out) (by rw [← HL.out, hB.1]; exact hbits4)
  clear hc hf hc3 hf3 hgr4 hbits4 hb3 hown3 hsB hsum hB hB2 c1
  go_wp2
  refine bodyPost_ret (v := .tuple #[.agg #[.slice (some ⟨g, 0, none⟩) L L, .int .i64 ((x + count : Nat) : Int)], .int .i64 0]) (by simp [results, Tryd.results51, go_sem, k3, k4]) rfl ⟨g, ys, by rw [hl4], by omega, ?_, hpk, (hb4.setCell (by simp) _).setCell (by simp) _⟩
  rw [hl4]
  refine own_mono (base := w1.heap.size) ?_ (by omega)
  exact ownsRow_setCell_below (ownsRow_setCell_below hown4 (by simp; omega) _) (by simp; omega) _
end Go.Proofs.YtfgfkifdokeefaaDoor.Cd
