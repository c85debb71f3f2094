/- The document's reader of bits: take, at every place. -/
import Derived.Test.YtljkidbdlhllcaaDoorCodRefG
namespace Go.Proofs.YtljkidbdlhllcaaDoor
open Go.RowKit Go.Joins
set_option linter.unusedVariables false
set_option linter.unusedSimpArgs false

/-- The document's reader in memory. -/
def II (w : World) (r : Nat) (S : Option Addr × Nat) (zs : List Nat) (q : Nat) (bad : Bool) : Prop :=
  w.heap[r]? = some (.cells #[.slice S.1 zs.length S.2, .int .i64 (q : Int), .bool bad] 64 (0, 0)) ∧ Bs w S.1 zs.length zs ∧ q ≤ 8 * zs.length ∧ zs.length ≤ 1000000000 ∧ (∀ x, S.1 = some x → x.block ≠ r)
theorem II.below {S : Option Addr × Nat} {w w' : World} {r : Nat} {zs : List Nat} {q : Nat} {bad : Bool} (h : II w r S zs q bad) (hb : Below w.heap.size w w') : II w' r S zs q bad := by
  obtain ⟨h1, h2, h3⟩ := h
  exact ⟨(hb.block r (Array.getElem?_eq_some_iff.1 h1).1).trans h1, h2.below hb, h3⟩
/-- What take answers. -/
def ITPost (w w' : World) (r : Nat) (S : Option Addr × Nat) (zs : List Nat) (q c : Nat) (bad : Bool) (e : Ending) : Prop :=
  ∃ (x q' : Nat) (b' : Bool), e = .returned (.int .u64 (x : Int)) ∧ x < 2 ^ c ∧ II w' r S zs q' b' ∧ Kr r w w' ∧
      ((q + c ≤ 8 * zs.length ∧ x = numOf (win zs q c) ∧ q' = q + c ∧ b' = bad) ∨ (8 * zs.length < q + c ∧ b' = true ∧ x = 0))
theorem bit_of (y i : Nat) (hy : y < 256) : bits .and .u8 ((y : Int) / 2 ^ (7 - i % 8)) 1 = (((y.testBit (7 - i % 8)).toNat : Nat) : Int) := by
  generalize 7 - i % 8 = m
  have hq : y / 2 ^ m < 256 := Nat.lt_of_le_of_lt (Nat.div_le_self _ _) hy
  have e : ((y : Int) / 2 ^ m) = ((y / 2 ^ m : Nat) : Int) := by push_cast; rfl
  have h1 : bits .and .u8 ((y / 2 ^ m : Nat) : Int) 1 = ((y / 2 ^ m % 2 : Nat) : Int) := by
    have := bits_and_u .u8 rfl (y / 2 ^ m) 1 hq (by decide)
    rw [show ((1 : Nat) : Int) = 1 from rfl] at this
    rw [this, show (1 : Nat) = 2 ^ 1 - 1 from rfl, Nat.and_two_pow_sub_one_eq_mod]
  have hb : (y.testBit m).toNat = y / 2 ^ m % 2 := by
    rw [Nat.testBit_eq_decide_div_mod_eq]
    have : y / 2 ^ m % 2 = 0 ∨ y / 2 ^ m % 2 = 1 := by omega
    rcases this with h | h <;> rw [h] <;> rfl
  rw [e, h1, hb]
set_option maxHeartbeats 4000000 in
set_option maxRecDepth 100000 in
theorem itake_any (r : Nat) {S : Option Addr × Nat} (zs : List Nat) (q c : Nat) (bad : Bool) (w : World) (h : II w r S zs q bad) (hc : c ≤ 64) :
    Calls Tryd.prog 35 #[.pointer (some ⟨r, 0, none⟩), .int .i64 (c : Int)] w fun e w' => ITPost w w' r S zs q c bad e := by
  obtain ⟨sa, sc⟩ := S
  obtain ⟨N, hN⟩ : ∃ N, N = zs.length := ⟨_, rfl⟩
  have hN1 : N ≤ 1000000000 := by rw [hN]; exact h.2.2.2.1
  have hqN : q ≤ 8 * N := by rw [hN]; exact h.2.2.1
  have HN := hidn hN
  go_enter Tryd.func35, Tryd.ntmps35
  clear hN
  go_wp2_with fail
  go_loopw [5, 7] (fun nv iv wr => ∃ k : Nat, k ≤ c ∧ q + k ≤ 8 * N ∧ iv = .int .i64 (k : Int) ∧ nv = .int .u64 ((numOf (win zs q k) : Nat) : Int) ∧ II wr r (sa, sc) zs (q + k) bad ∧ Kr r w wr) (fun _ iv _ => c - (intOf iv).toNat)
  case atStart => exact ⟨0, by omega, by omega, rfl, rfl, h, Kr.refl _ _⟩
  case round =>
    obtain ⟨k, hk, hqk, rfl, rfl, hii, hkr⟩ := hrel
    obtain ⟨i, hie⟩ : ∃ i, i = q + k := ⟨_, rfl⟩
    rw [← hie] at hii hqk
    have HI := hidn hie
    obtain ⟨h1, h2, h3, h4, h5⟩ := hii
    rw [← HN.out] at h1 h2
    have c0 : wr.cell? ⟨r, 0, none⟩ = some (.slice sa N sc) := cell_of_row _ _ _ _ _ _ h1
    have c1 : wr.cell? ⟨r, 1, none⟩ = some (.int .i64 (i : Int)) := cell_of_row _ _ _ _ _ _ h1
    have c2 : wr.cell? ⟨r, 2, none⟩ = some (.bool bad) := cell_of_row _ _ _ _ _ _ h1
    by_cases hlt : k < c
    · have hki : (k : Int) < (c : Int) := by omega
      by_cases hend : 8 * N ≤ i
      · have hd : decide (8 * (N : Int) ≤ (i : Int)) = true := decide_eq_true (by omega)
        have HF : ∀ n, Hid (II ((wr.drewN n).setCell ⟨r, 2, none⟩ (.bool true)) r (sa, sc) zs i true ∧ Kr r w ((wr.drewN n).setCell ⟨r, 2, none⟩ (.bool true))) := fun n => hidn ⟨⟨by rw [← HN.out]; exact block_setCell (w := wr.drewN n) h1 _, by rw [← HN.out]; exact bs_setCell (show Bs (wr.drewN n) _ _ _ from h2) h5 _, by rw [← HN.out]; omega, by rw [← HN.out]; omega, h5⟩, (hkr.trans (Kr.of_below (below_drewN (Below.refl _ wr) n))).setCell 2 _⟩
        have f2 : wr.frozen? ⟨r, 2, none⟩ = false := unfrozen_of_block h1 _
        clear h1 h2 h3 h4 h5 hie
        go_wp2_with fail
        go_quiet (fail)
        go_wp2_with fail
        exact bodyPost_ret (v := .int .u64 0) (by simp [results, Tryd.results35, go_sem]) rfl ⟨0, i, true, rfl, Nat.two_pow_pos c, (HF _).out.1, (HF _).out.2, .inr ⟨by rw [← HN.out]; have := HI.out; omega, rfl, rfl⟩⟩
      · have hd : decide (8 * (N : Int) ≤ (i : Int)) = false := decide_eq_false (by omega)
        obtain ⟨b, off, rfl, hb, hcl⟩ := h2.pos (by omega)
        have cy := hcl (i / 8) (by omega)
        have hy := getD_lt h2.2.2.1 (i / 8)
        have HS : Hid (numOf (win zs q (k + 1)) = numOf (win zs q k) * 2 + ((zs.getD (i / 8) 0).testBit (7 - i % 8)).toNat) := hidn (by
          rw [win_succ, numOf_snoc, ← hie]; rfl)
        have hbt := bit_of (zs.getD (i / 8) 0) i hy
        have hNN : numOf (win zs q k) < 9223372036854775808 := by
          have h1 := numOf_lt (win zs q k)
          rw [win_length] at h1
          have h2 := Nat.pow_le_pow_right (n := 2) (by omega) (show k ≤ 63 by omega)
          exact Nat.lt_of_lt_of_le h1 h2
        obtain ⟨bt, hbe⟩ : ∃ bt, bt = ((zs.getD (i / 8) 0).testBit (7 - i % 8)).toNat := ⟨_, rfl⟩
        rw [← hbe] at hbt HS
        have hb2 : bt ≤ 1 := by rw [hbe]; exact Bool.toNat_le _
        have hbw : IntKind.u64.wrap (bt : Int) = (bt : Int) := wrap_u_lt .u64 rfl _ (by show bt < 18446744073709551616; omega)
        have hi8 : i / 8 < N := by omega
        clear hcl hbe hie
        generalize zs.getD (i / 8) 0 = y at *
        generalize numOf (win zs q k) = X at *
        have HF : ∀ n, Hid (II ((wr.drewN n).setCell ⟨r, 1, none⟩ (.int .i64 ((i : Int) + 1))) r (some ⟨b, off, none⟩, sc) zs (i + 1) bad ∧ Kr r w ((wr.drewN n).setCell ⟨r, 1, none⟩ (.int .i64 ((i : Int) + 1)))) := fun n => hidn ⟨⟨by rw [← HN.out]; exact block_setCell (w := wr.drewN n) h1 _, by rw [← HN.out]; exact bs_setCell (show Bs (wr.drewN n) _ _ _ from h2) h5 _, by rw [← HN.out]; omega, by rw [← HN.out]; omega, h5⟩, (hkr.trans (Kr.of_below (below_drewN (Below.refl _ wr) n))).setCell 1 _⟩
        have f1 : wr.frozen? ⟨r, 1, none⟩ = false := unfrozen_of_block h1 _
        clear h1 h2 h3 h4 h5
        go_wp2_with fail
        go_quiet (fail)
        go_wp2_with fail
        go_quiet (fail)
        go_wp2_with fail
        refine ⟨⟨k + 1, by omega, by have := HI.out; omega, by go_num, ?_, ?_, (HF _).out.2⟩, by simp [intOf]; omega⟩
        · rw [HS.out]; congr 1
        · rw [show q + (k + 1) = i + 1 from by have := HI.out; omega]; exact (HF _).out.1
    · have hke : k = c := by omega
      have HF : Hid (II wr r (sa, sc) zs i bad ∧ Kr r w wr) := hidn ⟨⟨by rw [← HN.out]; exact h1, by rw [← HN.out]; exact h2, h3, h4, h5⟩, hkr⟩
      have HX : Hid (q + c ≤ 8 * zs.length ∧ numOf (win zs q k) = numOf (win zs q c) ∧ i = q + c ∧ bad = bad) := hidn ⟨by rw [← HN.out]; omega, by rw [hke], by omega, rfl⟩
      have hx : Hid (numOf (win zs q k) < 2 ^ c) := hidn (by
        have h1 := numOf_lt (win zs q k)
        rw [win_length, hke] at h1
        rw [hke]; exact h1)
      have hki : ¬ (k : Int) < (c : Int) := by omega
      clear hke h1 h2 h3 h4 h5 hie
      generalize numOf (win zs q k) = X at *
      go_wp2_with fail
      exact bodyPost_ret (v := .int .u64 (X : Int)) (by simp [results, Tryd.results35, go_sem]) rfl ⟨X, i, bad, rfl, hx.out, HF.out.1, HF.out.2, .inl ⟨HX.out.1, HX.out.2.1, HX.out.2.2.1, rfl⟩⟩
end Go.Proofs.YtljkidbdlhllcaaDoor
