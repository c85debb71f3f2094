/- The walks of bits.leastClass and bits.PutInt. -/
import Derived.Test.YtfgfkifdokeefaaDoorBitsPutWalk
namespace Go.Proofs.YtfgfkifdokeefaaDoor.Cd
open Go.RowKit
set_option linter.unusedVariables false

def cls (n : Int) : Nat := if n < -2147483648 ∨ 2147483647 < n then 4 else if n < -2048 ∨ 2047 < n then 3 else if n < -64 ∨ 63 < n then 2 else if n ≠ 0 then 1 else 0
def clsMark (k : Nat) : Nat := if k = 0 then 0 else if k = 1 then 2 else if k = 2 then 6 else if k = 3 then 14 else 15
def clsMarks (k : Nat) : Nat := if k = 0 then 1 else if k = 1 then 2 else if k = 2 then 3 else 4
def clsWidth (k : Nat) : Nat := if k = 0 then 0 else if k = 1 then 7 else if k = 2 then 12 else if k = 3 then 32 else 64
theorem cls_le (n : Int) : cls n ≤ 4 := by unfold cls; split; omega; split; omega; split; omega; split <;> omega

set_option maxHeartbeats 2000000 in
theorem leastClass_any (n : Int) (w : World) :
    Calls Tryd.prog 61 #[.int .i64 n] w fun e w' => e = .returned (.int .i64 (cls n : Nat)) ∧ w' = w := by
  by_cases h4a : n < -2147483648
  · have e : cls n = 4 := by unfold cls; rw [if_pos (.inl h4a)]
    have b1 : decide (n < -2147483648) = true := decide_eq_true h4a
    rw [e]
    go_enter Tryd.func61, Tryd.ntmps61
    go_wp2
    go_ret
    exact ⟨rfl, rfl⟩
  · have b1 : decide (n < -2147483648) = false := decide_eq_false h4a
    by_cases h4b : 2147483647 < n
    · have e : cls n = 4 := by unfold cls; rw [if_pos (.inr h4b)]
      have b2 : decide (2147483647 < n) = true := decide_eq_true h4b
      rw [e]
      go_enter Tryd.func61, Tryd.ntmps61
      go_wp2
      go_ret
      exact ⟨rfl, rfl⟩
    · have b2 : decide (2147483647 < n) = false := decide_eq_false h4b
      by_cases h3a : n < -2048
      · have e : cls n = 3 := by unfold cls; rw [if_neg (by omega), if_pos (.inl h3a)]
        have b3 : decide (n < -2048) = true := decide_eq_true h3a
        rw [e]
        go_enter Tryd.func61, Tryd.ntmps61
        go_wp2
        go_ret
        exact ⟨rfl, rfl⟩
      · have b3 : decide (n < -2048) = false := decide_eq_false h3a
        by_cases h3b : 2047 < n
        · have e : cls n = 3 := by unfold cls; rw [if_neg (by omega), if_pos (.inr h3b)]
          have b4 : decide (2047 < n) = true := decide_eq_true h3b
          rw [e]
          go_enter Tryd.func61, Tryd.ntmps61
          go_wp2
          go_ret
          exact ⟨rfl, rfl⟩
        · have b4 : decide (2047 < n) = false := decide_eq_false h3b
          by_cases h2a : n < -64
          · have e : cls n = 2 := by unfold cls; rw [if_neg (by omega), if_neg (by omega), if_pos (.inl h2a)]
            have b5 : decide (n < -64) = true := decide_eq_true h2a
            rw [e]
            go_enter Tryd.func61, Tryd.ntmps61
            go_wp2
            go_ret
            exact ⟨rfl, rfl⟩
          · have b5 : decide (n < -64) = false := decide_eq_false h2a
            by_cases h2b : 63 < n
            · have e : cls n = 2 := by unfold cls; rw [if_neg (by omega), if_neg (by omega), if_pos (.inr h2b)]
              have b6 : decide (63 < n) = true := decide_eq_true h2b
              rw [e]
              go_enter Tryd.func61, Tryd.ntmps61
              go_wp2
              go_ret
              exact ⟨rfl, rfl⟩
            · have b6 : decide (63 < n) = false := decide_eq_false h2b
              by_cases h0 : n = 0
              · have e : cls n = 0 := by unfold cls; rw [if_neg (by omega), if_neg (by omega), if_neg (by omega), if_neg (by omega)]
                have b7 : (n != 0) = false := by rw [bne_eq_false_iff_eq]; exact h0
                clear h0
                rw [e]
                go_enter Tryd.func61, Tryd.ntmps61
                go_wp2
                go_ret
                exact ⟨rfl, rfl⟩
              · have e : cls n = 1 := by unfold cls; rw [if_neg (by omega), if_neg (by omega), if_neg (by omega), if_pos h0]
                have b7 : (n != 0) = true := by rw [bne_iff_ne]; exact h0
                clear h0
                rw [e]
                go_enter Tryd.func61, Tryd.ntmps61
                go_wp2
                go_ret
                exact ⟨rfl, rfl⟩

/-- The table of the classes holds what its text lays. -/
def BitsTab (w : World) : Prop := ∀ k, k ≤ 4 → w.cell? ⟨0, k * 3, none⟩ = some (.int .u64 (clsMark k : Nat)) ∧ w.cell? ⟨0, k * 3 + 1, none⟩ = some (.int .i64 (clsMarks k : Nat)) ∧ w.cell? ⟨0, k * 3 + 2, none⟩ = some (.int .i64 (clsWidth k : Nat))
theorem BitsTab.below {w w' : World} (h : BitsTab w) (hb : Below w.heap.size w w') : BitsTab w' := by
  intro k hk
  obtain ⟨h0, h1, h2⟩ := h k hk
  exact ⟨(hb.cell (block_lt_of_cell h0)).trans h0, (hb.cell (block_lt_of_cell h1)).trans h1, (hb.cell (block_lt_of_cell h2)).trans h2⟩

set_option maxHeartbeats 1000000 in
theorem putInt_bad (a : Option Addr) (len cap : Nat) (x n : Int) (zs : List Nat) (w : World) (hB : Bs w a len zs) (hx : x ≤ 9223372036854775807) (hbad : canB zs x = false) :
    Calls Tryd.prog 53 #[.agg #[.slice a len cap, .int .i64 x], .int .i64 n] w fun e w' =>
      e = .returned (.tuple #[.agg #[.slice none 0 0, .int .i64 0], .int .i64 1]) ∧ Below w.heap.size w w' := by
  have h0 : Below w.heap.size w ((w.alloc (.cells #[.slice a len cap, .int .i64 x] 79)).alloc (.cells #[.slice none 0 0, .int .i64 0] 79)) := ((Below.refl w.heap.size w).alloc (Nat.le_refl _) _).alloc (by simp) _
  have hB2 := hB.below h0
  have HB : Hid _ := hbad
  clear hbad
  go_enter Tryd.func53, Tryd.ntmps53
  go_wp2_with fail
  refine (can_any a len cap x zs _ hB2 hx).mono ?_
  rintro e w1 ⟨rfl, hb1⟩
  rw [HB.out]
  obtain ⟨hc, hf⟩ := bcell hb1
  have hz : w.heap.size + 1 < w1.heap.size := by have := hb1.size; simp at this; omega
  go_wp2
  refine bodyPost_ret (v := .tuple #[.agg #[.slice none 0 0, .int .i64 0], .int .i64 1]) (by simp [results, Tryd.results53, go_sem, hc]) rfl ⟨rfl, ?_⟩
  exact ((h0.trans (hb1.mono (by simp; omega))).setCell (by simp) _).setCell (by simp) _

theorem longer_sum (a : Option Addr) (len cap n c1 c2 : Nat) (zs : List Nat) (w : World) (hB : Bs w a len zs) (hn : n ≤ 1099511627776) (hc : c1 + c2 ≤ 128) (hl : len = nb n) :
    Calls Tryd.prog 59 #[.agg #[.slice a len cap, .int .i64 n], .int .i64 ((c1 : Int) + (c2 : Int))] w fun e w' => ∃ g, e = .returned (.agg #[.slice (some ⟨g, 0, none⟩) (nb (n + (c1 + c2))) (nb (n + (c1 + c2))), .int .i64 ((n + (c1 + c2) : Nat) : Int)]) ∧
      w.heap.size ≤ g ∧ w'.ownsRow w.heap.size 5 1 (.slice (some ⟨g, 0, none⟩) (nb (n + (c1 + c2))) (nb (n + (c1 + c2)))) (nb (n + (c1 + c2))) (vb (zs ++ List.replicate (nb (n + (c1 + c2)) - len) 0)) ∧ Below w.heap.size w w' := by
  rw [show ((c1 : Int) + (c2 : Int)) = ((c1 + c2 : Nat) : Int) from by push_cast; rfl]
  exact longer_any a len cap n (c1 + c2) zs w hB hn hc hl

def Are (ys : List Nat) (l : List Bool) : Prop := ∀ i, bitAt ys i = l.getD i false
theorem are_lay {ys ys' : List Nat} {l : List Bool} {at_ count n : Nat} (h : Are ys l) (ha : l.length = at_)
    (hb : ∀ j, bitAt ys' j = (bitAt ys j || (decide (at_ ≤ j ∧ j < at_ + count) && n.testBit (at_ + count - 1 - j)))) : Are ys' (l ++ lowBits n count) := by
  intro i
  rw [hb i, h i, getD_app]
  by_cases h1 : i < l.length
  · rw [if_pos h1, decide_eq_false (by omega)]; simp
  · rw [if_neg h1, List.getD_eq_getElem?_getD, List.getElem?_eq_none (by omega)]
    by_cases h2 : i < at_ + count
    · rw [decide_eq_true (by omega), lowBits_getD n count (i - l.length) (by omega), show count - 1 - (i - l.length) = at_ + count - 1 - i from by omega]; simp
    · rw [decide_eq_false (by omega), List.getD_eq_getElem?_getD, List.getElem?_eq_none (by rw [lowBits_length]; omega)]; simp
theorem are_start {zs : List Nat} {x m : Nat} (hz : isB zs) (hcan : canP zs x) : Are (zs ++ List.replicate m 0) (bitsL zs x) := by
  intro i
  rw [bitAt_append_zero]
  have hp := (canP_pack hcan hz).2.2 i
  rw [Int.toNat_natCast] at hp
  exact hp
theorem lay_sum (base g len cap a1 a2 count : Nat) (n : Nat) (ys : List Nat) (w : World) (hn : n < 18446744073709551616) (hc : count ≤ 64) (hlen : len ≤ 1152921504606846975) (hl : ys.length = len) (hy : isB ys)
    (hfit : a1 + a2 + count ≤ 8 * len) (hg : base ≤ g) (hown : w.ownsRow base 5 1 (.slice (some ⟨g, 0, none⟩) len cap) len (vb ys)) :
    Calls Tryd.prog 60 #[.slice (some ⟨g, 0, none⟩) len cap, .int .i64 ((a1 : Int) + (a2 : Int)), .int .u64 n, .int .i64 count] w fun e w' => e = .returned (.tuple #[]) ∧
      ∃ ys', w'.ownsRow base 5 1 (.slice (some ⟨g, 0, none⟩) len cap) len (vb ys') ∧ isB ys' ∧ ys'.length = len ∧
        (∀ j, bitAt ys' j = (bitAt ys j || (decide (a1 + a2 ≤ j ∧ j < a1 + a2 + count) && n.testBit (a1 + a2 + count - 1 - j)))) ∧ w.grownBy w' (some g) := by
  rw [show ((a1 : Int) + (a2 : Int)) = ((a1 + a2 : Nat) : Int) from by push_cast; rfl]
  exact lay_any base g len cap (a1 + a2) count n ys w hn hc hlen hl hy hfit hg hown

set_option maxHeartbeats 4000000 in
theorem putInt_core (a : Option Addr) (len cap : Nat) (x : Nat) (n : Int) (k mark marks width u : Nat) (zs : List Nat) (w : World) (hB : Bs w a len zs) (hx : x ≤ 1099511627776) (hk : k ≤ 4)
    (hcls : cls n = k) (hmark : mark < 18446744073709551616) (hmarks : marks ≤ 4) (hwidth : width ≤ 64) (hu : IntKind.u64.wrap n = (u : Int)) (hu64 : u < 18446744073709551616)
    (t0 : w.cell? ⟨0, k * 3, none⟩ = some (.int .u64 mark)) (t1 : w.cell? ⟨0, k * 3 + 1, none⟩ = some (.int .i64 marks)) (t2 : w.cell? ⟨0, k * 3 + 2, none⟩ = some (.int .i64 width))
    (hcan : canB zs x = true) :
    Calls Tryd.prog 53 #[.agg #[.slice a len cap, .int .i64 x], .int .i64 n] w fun e w' =>
      ∃ g ys, e = .returned (.tuple #[.agg #[.slice (some ⟨g, 0, none⟩) ys.length ys.length, .int .i64 ((x + (marks + width) : Nat) : Int)], .int .i64 0]) ∧ w.heap.size ≤ g ∧
        w'.ownsRow w.heap.size 5 1 (.slice (some ⟨g, 0, none⟩) ys.length ys.length) ys.length (vb ys) ∧ IsPack ys (bitsL zs x ++ (lowBits mark marks ++ lowBits u width)) ∧ Below w.heap.size w w' := by
  have h0 : Below w.heap.size w ((w.alloc (.cells #[.slice a len cap, .int .i64 x] 79)).alloc (.cells #[.slice none 0 0, .int .i64 0] 79)) := ((Below.refl w.heap.size w).alloc (Nat.le_refl _) _).alloc (by simp) _
  have hB2 := hB.below h0
  have hcp := (canB_iff zs x).1 hcan
  have hlen : len = nb x := by have := hcp.2.1; rw [Int.toNat_natCast] at this; rw [← hB.1]; exact this
  have HC : Hid _ := hcan
  have HP : Hid _ := hcp
  have HE : Hid _ := hlen
  have HU : Hid _ := hu
  have HK : Hid _ := hcls
  have hg0 : 0 < w.heap.size := block_lt_of_cell t0
  clear hcan hcp hlen hcls
  go_enter Tryd.func53, Tryd.ntmps53
  go_wp2_with fail
  refine (can_any a len cap x zs _ hB2 (by omega)).mono ?_
  rintro e w1 ⟨rfl, hb1⟩
  rw [HC.out]
  obtain ⟨hc, hf⟩ := bcell hb1
  have hz : w.heap.size + 1 < w1.heap.size := by have := hb1.size; simp at this; omega
  go_wp2_with fail
  refine (leastClass_any n _).mono ?_
  rintro e w1 ⟨rfl, rfl⟩
  rw [HK.out]
  have t0' : w1.cell? ⟨0, k * 3, none⟩ = some (.int .u64 mark) := by rw [hc _ _ (by rw [World.size_alloc, World.size_alloc]; omega)]; exact Lib.cell?_alloc_some _ (Lib.cell?_alloc_some _ t0)
  have t1' : w1.cell? ⟨0, k * 3 + 1, none⟩ = some (.int .i64 marks) := by rw [hc _ _ (by rw [World.size_alloc, World.size_alloc]; omega)]; exact Lib.cell?_alloc_some _ (Lib.cell?_alloc_some _ t1)
  have t2' : w1.cell? ⟨0, k * 3 + 2, none⟩ = some (.int .i64 width) := by rw [hc _ _ (by rw [World.size_alloc, World.size_alloc]; omega)]; exact Lib.cell?_alloc_some _ (Lib.cell?_alloc_some _ t2)
  have x0 : w1.cell? ⟨w.heap.size, 0, none⟩ = some (.slice a len cap) := by rw [hc _ _ (by rw [World.size_alloc, World.size_alloc]; omega)]; simp
  have x1 : w1.cell? ⟨w.heap.size, 1, none⟩ = some (.int .i64 x) := by rw [hc _ _ (by rw [World.size_alloc, World.size_alloc]; omega)]; simp
  have r0 : w1.cell? ⟨w.heap.size + 1, 0, none⟩ = some (.slice none 0 0) := by rw [hc _ _ (by rw [World.size_alloc, World.size_alloc]; omega)]; simp
  have r1 : w1.cell? ⟨w.heap.size + 1, 1, none⟩ = some (.int .i64 0) := by rw [hc _ _ (by rw [World.size_alloc, World.size_alloc]; omega)]; simp
  have f0 : w1.frozen? ⟨w.heap.size + 1, 0, none⟩ = false := by rw [hf _ _ (by rw [World.size_alloc, World.size_alloc]; omega)]; simp
  have f1 : w1.frozen? ⟨w.heap.size + 1, 1, none⟩ = false := by rw [hf _ _ (by rw [World.size_alloc, World.size_alloc]; omega)]; simp
  clear hc hf t0 t1 t2
  have hlt1 : w.heap.size < w1.heap.size := by omega
  go_wp2_with fail
  have hbB : Below w.heap.size w (w1.alloc (.cells #[.int .u64 mark, .int .i64 marks, .int .i64 width] 99)) := (h0.trans (hb1.mono (by simp; omega))).alloc (by omega) _
  refine (longer_sum a len cap x marks width zs _ (hB.below hbB) hx (by omega) HE.out).mono ?_
  rintro e w3 ⟨g, rfl, hg, hown3, hb3⟩
  have hgl := own_lt hown3
  have hz3 := hb3.size
  simp only [World.size_alloc] at hz3 hg hown3
  have hne0 : w.heap.size ≠ g := by omega
  have hne1 : w.heap.size + 1 ≠ g := by omega
  have hne2 : w1.heap.size ≠ g := by omega
  have hne3 : w3.heap.size ≠ g := by omega
  have x1' : w3.cell? ⟨w.heap.size, 1, none⟩ = some (.int .i64 x) := by rw [hb3.cell (by rw [World.size_alloc]; show w.heap.size < _; omega), World.cell?_alloc_past _ _ _ (by omega)]; exact x1
  have r0' : w3.cell? ⟨w.heap.size + 1, 0, none⟩ = some (.slice none 0 0) := by rw [hb3.cell (by rw [World.size_alloc]; show w.heap.size + 1 < _; omega), World.cell?_alloc_past _ _ _ (by omega)]; exact r0
  have r1' : w3.cell? ⟨w.heap.size + 1, 1, none⟩ = some (.int .i64 0) := by rw [hb3.cell (by rw [World.size_alloc]; show w.heap.size + 1 < _; omega), World.cell?_alloc_past _ _ _ (by omega)]; exact r1
  have f0' : w3.frozen? ⟨w.heap.size + 1, 0, none⟩ = false := by rw [hb3.frozen (by rw [World.size_alloc]; show w.heap.size + 1 < _; omega), frozen?_alloc_cells]; exact f0
  have f1' : w3.frozen? ⟨w.heap.size + 1, 1, none⟩ = false := by rw [hb3.frozen (by rw [World.size_alloc]; show w.heap.size + 1 < _; omega), frozen?_alloc_cells]; exact f1
  have k0 : w3.cell? ⟨w1.heap.size, 0, none⟩ = some (.int .u64 mark) := by rw [hb3.cell (by rw [World.size_alloc]; show w1.heap.size < _; omega)]; simp
  have k1 : w3.cell? ⟨w1.heap.size, 1, none⟩ = some (.int .i64 marks) := by rw [hb3.cell (by rw [World.size_alloc]; show w1.heap.size < _; omega)]; simp
  have k2 : w3.cell? ⟨w1.heap.size, 2, none⟩ = some (.int .i64 width) := by rw [hb3.cell (by rw [World.size_alloc]; show w1.heap.size < _; omega)]; simp
  obtain ⟨L, hL⟩ : ∃ L, L = nb (x + (marks + width)) := ⟨_, rfl⟩
  rw [← hL] at hown3 ⊢
  have hLb : L ≤ 137438953600 := by unfold nb at hL; omega
  have hL8 : x + marks + width ≤ 8 * L := by unfold nb at hL; omega
  have HL : Hid _ := hL
  have hlL : len ≤ L := by rw [hL, HE.out]; exact nb_mono (by omega)
  have hsum : (zs ++ List.replicate (L - len) 0).length = L := by have := hB.1; simp; omega
  have hsB : isB (zs ++ List.replicate (L - len) 0) := by
    intro y hy
    rcases List.mem_append.1 hy with h | h
    · exact hB.2.2.1 y h
    · have := (List.mem_replicate.1 h).2; omega
  have hare := are_start (m := L - len) hB.2.2.1 HP.out
  have hlt3 : w.heap.size < w3.heap.size := by omega
  have hlt4 : w1.heap.size < w3.heap.size := by omega
  have hlt5 : w.heap.size + 1 < w3.heap.size := by omega
  have hbw3 : Below w.heap.size w w3 := hbB.trans (hb3.mono (by rw [World.size_alloc]; omega))
  clear hL x0 x1 r0 r1 f0 f1 t0' t1' t2' hB hB2 hbB hb1 hb3 h0
  go_wp2_with fail
  refine (lay_any (w1.heap.size + 1) g L L x marks mark _ _ hmark (by omega) (by omega) hsum hsB (by omega) hg (hown3.alloc _)).mono ?_
  rintro e w5 ⟨rfl, ys5, hown5, hy5, hl5, hbits5, hgr5⟩
  have hare5 := are_lay hare (bitsL_length _ _) hbits5
  have x1_5 := grown_cells hgr5 w.heap.size 1 (.int .i64 x) hne0 (Lib.cell?_alloc_some _ x1')
  have k1_5 := grown_cells hgr5 w1.heap.size 1 (.int .i64 marks) hne2 (Lib.cell?_alloc_some _ k1)
  have k2_5 := grown_cells hgr5 w1.heap.size 2 (.int .i64 width) hne2 (Lib.cell?_alloc_some _ k2)
  have y0_5 := grown_cells hgr5 w3.heap.size 0 (.slice (some ⟨g, 0, none⟩) L L) hne3 (by simp)
  have y1_5 := grown_cells hgr5 w3.heap.size 1 (.int .i64 ((x + (marks + width) : Nat) : Int)) hne3 (by simp)
  have r0_5 := grown_cells hgr5 (w.heap.size + 1) 0 (.slice none 0 0) hne1 (Lib.cell?_alloc_some _ r0')
  have r1_5 := grown_cells hgr5 (w.heap.size + 1) 1 (.int .i64 0) hne1 (Lib.cell?_alloc_some _ r1')
  have f0_5 : w5.frozen? ⟨w.heap.size + 1, 0, none⟩ = false := (grown_frozen hgr5 (w.heap.size + 1) 0 (by rw [World.size_alloc]; omega) hne1).trans (by rw [frozen?_alloc_cells]; exact f0')
  have f1_5 : w5.frozen? ⟨w.heap.size + 1, 1, none⟩ = false := (grown_frozen hgr5 (w.heap.size + 1) 1 (by rw [World.size_alloc]; omega) hne1).trans (by rw [frozen?_alloc_cells]; exact f1')
  have hz5 := hgr5.size
  simp only [World.size_alloc] at hz5
  have hbw5 : Below w.heap.size w w5 := (hbw3.alloc (by omega) _).grown hgr5 (by rw [World.size_alloc]; omega) (by intro j hj; cases hj; omega)
  clear hbits5 hgr5 hown3 hare x1' k0 k1 k2 r0' r1' f0' f1' hbw3 hsum hsB
  go_wp2_with fail
  refine (lay_sum (w1.heap.size + 1) g L L x marks width u _ _ hu64 hwidth (by omega) hl5 hy5 (by omega) hg hown5).mono ?_
  rintro e w6 ⟨rfl, ys, hown6, hy6, hl6, hbits6, hgr6⟩
  have hare6 := are_lay hare5 (by rw [List.length_append, bitsL_length, lowBits_length]) hbits6
  have y0_6 := grown_cells hgr6 w3.heap.size 0 _ hne3 y0_5
  have y1_6 := grown_cells hgr6 w3.heap.size 1 _ hne3 y1_5
  have r0_6 := grown_cells hgr6 (w.heap.size + 1) 0 _ hne1 r0_5
  have r1_6 := grown_cells hgr6 (w.heap.size + 1) 1 _ hne1 r1_5
  have f0_6 : w6.frozen? ⟨w.heap.size + 1, 0, none⟩ = false := (grown_frozen hgr6 (w.heap.size + 1) 0 (by omega) hne1).trans f0_5
  have f1_6 : w6.frozen? ⟨w.heap.size + 1, 1, none⟩ = false := (grown_frozen hgr6 (w.heap.size + 1) 1 (by omega) hne1).trans f1_5
  have hbw6 : Below w.heap.size w w6 := hbw5.grown hgr6 (by omega) (by intro j hj; cases hj; omega)
  have hpk : IsPack ys (bitsL zs x ++ (lowBits mark marks ++ lowBits u width)) := by
    rw [← List.append_assoc]
    refine ⟨?_, hy6, hare6⟩
    rw [hl6, HL.out, List.length_append, List.length_append, bitsL_length, lowBits_length, lowBits_length, Nat.add_assoc]
  clear hbits6 hgr6 hown5 x1_5 k1_5 k2_5 y0_5 y1_5 r0_5 r1_5 f0_5 f1_5 hare5 hare6
  go_wp2
  refine bodyPost_ret (v := .tuple #[.agg #[.slice (some ⟨g, 0, none⟩) L L, .int .i64 ((x + (marks + width) : Nat) : Int)], .int .i64 0]) (by simp [results, Tryd.results53, go_sem, r0_6, r1_6]) rfl ⟨g, ys, by rw [hl6], by omega, ?_, hpk, (hbw6.setCell (by simp) _).setCell (by simp) _⟩
  rw [hl6]
  refine own_mono (base := w1.heap.size + 1) ?_ (by omega)
  exact ownsRow_setCell_below (ownsRow_setCell_below hown6 (by simp; omega) _) (by simp; omega) _
end Go.Proofs.YtfgfkifdokeefaaDoor.Cd
