/- The document's reader of bits: takeInt, takeXor: some number, and nothing else is touched. -/
import Derived.Test.YtljkidbdlhllcaaDoorCodI
namespace Go.Proofs.YtljkidbdlhllcaaDoor
open Go.RowKit Go.Joins
set_option linter.unusedVariables false
set_option linter.unusedSimpArgs false

def IWPost (w w' : World) (r : Nat) (S : Option Addr × Nat) (zs : List Nat) (e : Ending) : Prop :=
  ∃ (v : Int) (q' : Nat) (b' : Bool), e = .returned (.int .i64 v) ∧ (-9223372036854775808 ≤ v ∧ v ≤ 9223372036854775807) ∧ II w' r S zs q' b' ∧ Kr r w w'
def IXPost (w w' : World) (r : Nat) (S : Option Addr × Nat) (zs : List Nat) (e : Ending) : Prop :=
  ∃ (x q' : Nat) (b' : Bool), e = .returned (.int .u64 (x : Int)) ∧ x < 18446744073709551616 ∧ II w' r S zs q' b' ∧ Kr r w w'
theorem i64_of_u64 (x : Nat) (h : x < 18446744073709551616) : ∃ n : Int, IntKind.i64.wrap (x : Int) = n ∧ wrap64 (x : Int) = n ∧ -9223372036854775808 ≤ n ∧ n ≤ 9223372036854775807 := by
  refine ⟨wrap64 x, i64_w64 _, rfl, ?_, ?_⟩ <;> unfold wrap64 <;> omega
theorem ii_bad {w : World} {r q : Nat} {S : Option Addr × Nat} {zs : List Nat} {b : Bool} (h : II w r S zs q b) : II (w.setCell ⟨r, 2, none⟩ (.bool true)) r S zs q true := by
  obtain ⟨h1, h2, h3, h4, h5⟩ := h
  exact ⟨block_setCell h1 _, bs_setCell h2 h5 _, h3, h4, h5⟩
set_option maxHeartbeats 4000000 in
set_option maxRecDepth 100000 in
theorem ixor_any (r : Nat) {S : Option Addr × Nat} (zs : List Nat) (q : Nat) (bad : Bool) (w : World) (h : II w r S zs q bad) :
    Calls Tryd.prog 37 #[.pointer (some ⟨r, 0, none⟩)] w fun e w' => IXPost w w' r S zs e := by
  go_enter Tryd.func37, Tryd.ntmps37
  go_wp2_with fail
  refine (itake_any r zs q 1 bad _ h (by omega)).mono ?_
  rintro e w1 ⟨x1, q1, b1, rfl, hx1, i1, k1, _⟩
  by_cases h0 : x1 = 0
  · have hz : ((x1 : Int) == 0) = true := by simp; omega
    have HF := hidn (And.intro i1 k1)
    clear h0 i1 k1
    go_wp2_with fail
    exact bodyPost_ret (v := .int .u64 0) (by simp [results, Tryd.results37, go_sem]) rfl ⟨0, q1, b1, rfl, by omega, HF.out.1, HF.out.2⟩
  · have hz : ((x1 : Int) == 0) = false := by simp; omega
    clear h0
    go_wp2_with fail
    refine (itake_any r zs q1 6 b1 _ i1 (by omega)).mono ?_
    rintro e w2 ⟨hi, q2, b2, rfl, hx2, i2, k2, _⟩
    have K2 := k1.trans k2
    have hhi : hi < 64 := hx2
    clear i1 k1 k2 hx2
    go_wp2_with fail
    refine (itake_any r zs q2 6 b2 _ i2 (by omega)).mono ?_
    rintro e w3 ⟨wm, q3, b3, rfl, hx3, i3, k3, _⟩
    have K3 := K2.trans k3
    have hwm : wm < 64 := hx3
    clear i2 k3 K2 hx3
    obtain ⟨wd, hwd⟩ : ∃ wd, wd = wm + 1 := ⟨_, rfl⟩
    have rwd : (wm : Int) + 1 = (wd : Int) := by omega
    have hwd64 : wd ≤ 64 := by omega
    have hwd1 : 1 ≤ wd := by omega
    clear hwd hwm
    go_wp2_with fail
    refine (itake_any r zs q3 wd b3 _ i3 hwd64).mono ?_
    rintro e w4 ⟨x, q4, b4, rfl, hx4, i4, k4, _⟩
    have K4 := K3.trans k4
    have hx4' : x < 18446744073709551616 := Nat.lt_of_lt_of_le hx4 (Nat.pow_le_pow_right (n := 2) (by omega) hwd64)
    clear i3 k4 K3 hx4
    by_cases hbig : 64 < hi + wd
    · have hd : decide ((64 : Int) < (hi : Int) + (wd : Int)) = true := decide_eq_true (by omega)
      have HF := hidn (And.intro (ii_bad i4) (K4.setCell 2 (.bool true)))
      have c2 : w4.cell? ⟨r, 2, none⟩ = some (.bool b4) := cell_of_row _ _ _ _ _ _ i4.1
      have f2 : w4.frozen? ⟨r, 2, none⟩ = false := unfrozen_of_block i4.1 _
      clear i4 K4
      go_wp2_with fail
      exact bodyPost_ret (v := .int .u64 0) (by simp [results, Tryd.results37, go_sem]) rfl ⟨0, q4, true, rfl, by omega, HF.out.1, HF.out.2⟩
    · have hd : decide ((64 : Int) < (hi : Int) + (wd : Int)) = false := decide_eq_false (by omega)
      obtain ⟨lo, hlo⟩ : ∃ lo, lo = 64 - hi - wd := ⟨_, rfl⟩
      have r1 : (64 : Int) - (hi : Int) - (wd : Int) = (lo : Int) := by omega
      have hlo64 : lo < 64 := by omega
      obtain ⟨y, hy, hyl⟩ : ∃ y : Nat, IntKind.u64.wrap ((x : Int) * 2 ^ lo) = (y : Int) ∧ y < 18446744073709551616 := by
        refine ⟨x * 2 ^ lo % 18446744073709551616, ?_, Nat.mod_lt _ (by omega)⟩
        have h9 : ((x * 2 ^ lo : Nat) : Int) = (x : Int) * 2 ^ lo := by push_cast; rfl
        rw [IntKind.wrap_u64, ← h9]
        omega
      have HF := hidn (And.intro i4 K4)
      have HY := hidn hy
      clear i4 K4 hlo hy
      go_wp2_with fail
      exact bodyPost_ret (v := .int .u64 (IntKind.u64.wrap ((x : Int) * 2 ^ lo))) (by simp [results, Tryd.results37, go_sem]) rfl ⟨y, q4, b4, by rw [HY.out], hyl, HF.out.1, HF.out.2⟩
set_option maxHeartbeats 4000000 in
set_option maxRecDepth 100000 in
theorem iint_any (r : Nat) {S : Option Addr × Nat} (zs : List Nat) (q : Nat) (bad : Bool) (w : World) (h : II w r S zs q bad) :
    Calls Tryd.prog 36 #[.pointer (some ⟨r, 0, none⟩)] w fun e w' => IWPost w w' r S zs e := by
  go_enter Tryd.func36, Tryd.ntmps36
  go_wp2_with fail
  go_loopw [3] (fun iv wr => ∃ (k q' : Nat) (b' : Bool), k ≤ 4 ∧ iv = .int .i64 (k : Int) ∧ II wr r S zs q' b' ∧ Kr r w wr) (fun iv _ => 4 - (intOf iv).toNat)
  case atStart => exact ⟨0, q, bad, by omega, rfl, h, Kr.refl _ _⟩
  case round =>
    obtain ⟨k, q1, b1, hk, rfl, i1, k1⟩ := hrel
    clear h
    rcases (show k = 0 ∨ k = 1 ∨ k = 2 ∨ k = 3 ∨ k = 4 by omega) with rfl | rfl | rfl | rfl | rfl
    · go_wp2_with fail
      refine (itake_any r zs q1 1 b1 _ i1 (by omega)).mono ?_
      rintro e w2 ⟨x, q2, b2, rfl, hx2, i2, k2, _⟩
      have K2 := k1.trans k2
      clear i1 k1 k2 hx2
      by_cases hx : x = 1
      · have hz : ((x : Int) == 1) = true := by simp; omega
        have HF := hidn (And.intro i2 K2)
        clear hx i2 K2
        go_wp2_with fail
        refine ⟨⟨1, q2, b2, by omega, rfl, HF.out.1, HF.out.2⟩, by simp [intOf]⟩
      · have hz : ((x : Int) == 1) = false := by simp; omega
        clear hx
        have iA := i2.below ((Below.refl _ w2).alloc (Nat.le_refl _) (.cells #[.int .i64 0, .int .i64 7, .int .i64 12, .int .i64 32, .int .i64 64] 3))
        have kA := K2.trans (Kr.of_below (r := r) ((Below.refl _ w2).alloc (Nat.le_refl _) (.cells #[.int .i64 0, .int .i64 7, .int .i64 12, .int .i64 32, .int .i64 64] 3)))
        go_wp2_with fail
        refine (itake_any r zs _ 0 _ _ iA (by omega)).mono ?_
        rintro e w5 ⟨x5, q5, b5, rfl, hx5, i5, k5, _⟩
        have K5 := kA.trans k5
        have hx5' : x5 < 18446744073709551616 := Nat.lt_of_lt_of_le hx5 (Nat.pow_le_pow_right (n := 2) (by omega) (show 0 ≤ 64 by omega))
        obtain ⟨n, hn1, hn2, hn3, hn4⟩ := i64_of_u64 x5 hx5'
        have HF := hidn (And.intro i5 K5)
        clear iA kA i5 k5 K5 hx5
        go_wp2_with fail
        exact bodyPost_ret (v := .int .i64 n) (by simp [results, Tryd.results36, go_sem]) rfl ⟨n, q5, b5, rfl, ⟨hn3, hn4⟩, HF.out.1, HF.out.2⟩
    · go_wp2_with fail
      refine (itake_any r zs q1 1 b1 _ i1 (by omega)).mono ?_
      rintro e w2 ⟨x, q2, b2, rfl, hx2, i2, k2, _⟩
      have K2 := k1.trans k2
      clear i1 k1 k2 hx2
      by_cases hx : x = 1
      · have hz : ((x : Int) == 1) = true := by simp; omega
        have HF := hidn (And.intro i2 K2)
        clear hx i2 K2
        go_wp2_with fail
        refine ⟨⟨2, q2, b2, by omega, rfl, HF.out.1, HF.out.2⟩, by simp [intOf]⟩
      · have hz : ((x : Int) == 1) = false := by simp; omega
        clear hx
        have iA := i2.below ((Below.refl _ w2).alloc (Nat.le_refl _) (.cells #[.int .i64 0, .int .i64 7, .int .i64 12, .int .i64 32, .int .i64 64] 3))
        have kA := K2.trans (Kr.of_below (r := r) ((Below.refl _ w2).alloc (Nat.le_refl _) (.cells #[.int .i64 0, .int .i64 7, .int .i64 12, .int .i64 32, .int .i64 64] 3)))
        go_wp2_with fail
        refine (itake_any r zs _ 7 _ _ iA (by omega)).mono ?_
        rintro e w5 ⟨x5, q5, b5, rfl, hx5, i5, k5, _⟩
        have K5 := kA.trans k5
        have hx5' : x5 < 18446744073709551616 := Nat.lt_of_lt_of_le hx5 (Nat.pow_le_pow_right (n := 2) (by omega) (show 7 ≤ 64 by omega))
        obtain ⟨n, hn1, hn2, hn3, hn4⟩ := i64_of_u64 x5 hx5'
        have HF := hidn (And.intro i5 K5)
        clear iA kA i5 k5 K5 hx5
        by_cases hh : 64 ≤ n
        · have hd : decide ((64 : Int) ≤ n) = true := decide_eq_true hh
          clear hh
          go_wp2_with fail
          exact bodyPost_ret (v := .int .i64 (wrap64 (n - 128))) (by simp [results, Tryd.results36, go_sem]) rfl ⟨wrap64 (n - 128), q5, b5, rfl, wrap64_rng _, HF.out.1, HF.out.2⟩
        · have hd : decide ((64 : Int) ≤ n) = false := decide_eq_false hh
          clear hh
          go_wp2_with fail
          exact bodyPost_ret (v := .int .i64 n) (by simp [results, Tryd.results36, go_sem]) rfl ⟨n, q5, b5, rfl, ⟨hn3, hn4⟩, HF.out.1, HF.out.2⟩
    · go_wp2_with fail
      refine (itake_any r zs q1 1 b1 _ i1 (by omega)).mono ?_
      rintro e w2 ⟨x, q2, b2, rfl, hx2, i2, k2, _⟩
      have K2 := k1.trans k2
      clear i1 k1 k2 hx2
      by_cases hx : x = 1
      · have hz : ((x : Int) == 1) = true := by simp; omega
        have HF := hidn (And.intro i2 K2)
        clear hx i2 K2
        go_wp2_with fail
        refine ⟨⟨3, q2, b2, by omega, rfl, HF.out.1, HF.out.2⟩, by simp [intOf]⟩
      · have hz : ((x : Int) == 1) = false := by simp; omega
        clear hx
        have iA := i2.below ((Below.refl _ w2).alloc (Nat.le_refl _) (.cells #[.int .i64 0, .int .i64 7, .int .i64 12, .int .i64 32, .int .i64 64] 3))
        have kA := K2.trans (Kr.of_below (r := r) ((Below.refl _ w2).alloc (Nat.le_refl _) (.cells #[.int .i64 0, .int .i64 7, .int .i64 12, .int .i64 32, .int .i64 64] 3)))
        go_wp2_with fail
        refine (itake_any r zs _ 12 _ _ iA (by omega)).mono ?_
        rintro e w5 ⟨x5, q5, b5, rfl, hx5, i5, k5, _⟩
        have K5 := kA.trans k5
        have hx5' : x5 < 18446744073709551616 := Nat.lt_of_lt_of_le hx5 (Nat.pow_le_pow_right (n := 2) (by omega) (show 12 ≤ 64 by omega))
        obtain ⟨n, hn1, hn2, hn3, hn4⟩ := i64_of_u64 x5 hx5'
        have HF := hidn (And.intro i5 K5)
        clear iA kA i5 k5 K5 hx5
        by_cases hh : 2048 ≤ n
        · have hd : decide ((2048 : Int) ≤ n) = true := decide_eq_true hh
          clear hh
          go_wp2_with fail
          exact bodyPost_ret (v := .int .i64 (wrap64 (n - 4096))) (by simp [results, Tryd.results36, go_sem]) rfl ⟨wrap64 (n - 4096), q5, b5, rfl, wrap64_rng _, HF.out.1, HF.out.2⟩
        · have hd : decide ((2048 : Int) ≤ n) = false := decide_eq_false hh
          clear hh
          go_wp2_with fail
          exact bodyPost_ret (v := .int .i64 n) (by simp [results, Tryd.results36, go_sem]) rfl ⟨n, q5, b5, rfl, ⟨hn3, hn4⟩, HF.out.1, HF.out.2⟩
    · go_wp2_with fail
      refine (itake_any r zs q1 1 b1 _ i1 (by omega)).mono ?_
      rintro e w2 ⟨x, q2, b2, rfl, hx2, i2, k2, _⟩
      have K2 := k1.trans k2
      clear i1 k1 k2 hx2
      by_cases hx : x = 1
      · have hz : ((x : Int) == 1) = true := by simp; omega
        have HF := hidn (And.intro i2 K2)
        clear hx i2 K2
        go_wp2_with fail
        refine ⟨⟨4, q2, b2, by omega, rfl, HF.out.1, HF.out.2⟩, by simp [intOf]⟩
      · have hz : ((x : Int) == 1) = false := by simp; omega
        clear hx
        have iA := i2.below ((Below.refl _ w2).alloc (Nat.le_refl _) (.cells #[.int .i64 0, .int .i64 7, .int .i64 12, .int .i64 32, .int .i64 64] 3))
        have kA := K2.trans (Kr.of_below (r := r) ((Below.refl _ w2).alloc (Nat.le_refl _) (.cells #[.int .i64 0, .int .i64 7, .int .i64 12, .int .i64 32, .int .i64 64] 3)))
        go_wp2_with fail
        refine (itake_any r zs _ 32 _ _ iA (by omega)).mono ?_
        rintro e w5 ⟨x5, q5, b5, rfl, hx5, i5, k5, _⟩
        have K5 := kA.trans k5
        have hx5' : x5 < 18446744073709551616 := Nat.lt_of_lt_of_le hx5 (Nat.pow_le_pow_right (n := 2) (by omega) (show 32 ≤ 64 by omega))
        obtain ⟨n, hn1, hn2, hn3, hn4⟩ := i64_of_u64 x5 hx5'
        have HF := hidn (And.intro i5 K5)
        clear iA kA i5 k5 K5 hx5
        by_cases hh : 2147483648 ≤ n
        · have hd : decide ((2147483648 : Int) ≤ n) = true := decide_eq_true hh
          clear hh
          go_wp2_with fail
          exact bodyPost_ret (v := .int .i64 (wrap64 (n - 4294967296))) (by simp [results, Tryd.results36, go_sem]) rfl ⟨wrap64 (n - 4294967296), q5, b5, rfl, wrap64_rng _, HF.out.1, HF.out.2⟩
        · have hd : decide ((2147483648 : Int) ≤ n) = false := decide_eq_false hh
          clear hh
          go_wp2_with fail
          exact bodyPost_ret (v := .int .i64 n) (by simp [results, Tryd.results36, go_sem]) rfl ⟨n, q5, b5, rfl, ⟨hn3, hn4⟩, HF.out.1, HF.out.2⟩
    · have iA := i1.below ((Below.refl _ wr).alloc (Nat.le_refl _) (.cells #[.int .i64 0, .int .i64 7, .int .i64 12, .int .i64 32, .int .i64 64] 3))
      have kA := k1.trans (Kr.of_below (r := r) ((Below.refl _ wr).alloc (Nat.le_refl _) (.cells #[.int .i64 0, .int .i64 7, .int .i64 12, .int .i64 32, .int .i64 64] 3)))
      go_wp2_with fail
      refine (itake_any r zs _ 64 _ _ iA (by omega)).mono ?_
      rintro e w5 ⟨x5, q5, b5, rfl, hx5, i5, k5, _⟩
      have K5 := kA.trans k5
      have hx5' : x5 < 18446744073709551616 := Nat.lt_of_lt_of_le hx5 (Nat.pow_le_pow_right (n := 2) (by omega) (show 64 ≤ 64 by omega))
      obtain ⟨n, hn1, hn2, hn3, hn4⟩ := i64_of_u64 x5 hx5'
      have HF := hidn (And.intro i5 K5)
      clear iA kA i5 k5 K5 hx5
      go_wp2_with fail
      exact bodyPost_ret (v := .int .i64 n) (by simp [results, Tryd.results36, go_sem]) rfl ⟨n, q5, b5, rfl, ⟨hn3, hn4⟩, HF.out.1, HF.out.2⟩
end Go.Proofs.YtljkidbdlhllcaaDoor
