/- The document's reader of bits: takeXor, where a value was written. -/
import Derived.Test.YtljkidbdlhllcaaDoorCodI4
namespace Go.Proofs.YtljkidbdlhllcaaDoor
open Go.RowKit Go.Joins
set_option linter.unusedVariables false
set_option linter.unusedSimpArgs false

def IYPost (w w' : World) (r : Nat) (S : Option Addr × Nat) (zs : List Nat) (q : Nat) (bad : Bool) (y : Nat) (e : Ending) : Prop :=
  e = .returned (.int .u64 (y : Int)) ∧ II w' r S zs (q + (turned y).length) bad ∧ Kr r w w'
theorem it_of {zs : List Nat} {q c x n : Nat} (hA : At zs (8 * zs.length) q (lowBits n c)) (hn : n < 2 ^ c) {q' : Nat} {b' bad : Bool} (hal : (q + c ≤ 8 * zs.length ∧ x = numOf (win zs q c) ∧ q' = q + c ∧ b' = bad) ∨ (8 * zs.length < q + c ∧ b' = true ∧ x = 0)) : x = n ∧ q' = q + c ∧ bad = b' := by
  obtain ⟨h1, h2⟩ := at_low hA
  rw [Nat.mod_eq_of_lt hn] at h2
  rcases hal with ⟨_, h3, h4, h5⟩ | ⟨h3, _⟩
  · exact ⟨by rw [h3, h2], h4, h5.symm⟩
  · omega
set_option maxHeartbeats 4000000 in
set_option maxRecDepth 100000 in
theorem ixor_at (r : Nat) {S : Option Addr × Nat} (zs : List Nat) (q : Nat) (bad : Bool) (y : Nat) (w : World) (h : II w r S zs q bad) (hy : y < 18446744073709551616) (hA : At zs (8 * zs.length) q (turned y)) :
    Calls Tryd.prog 37 #[.pointer (some ⟨r, 0, none⟩)] w fun e w' => IYPost w w' r S zs q bad y e := by
  by_cases h0 : y = 0
  · subst h0
    rw [turned_zero] at hA
    go_enter Tryd.func37, Tryd.ntmps37
    go_wp2_with fail
    refine (itake_any r zs q 1 bad _ h (by omega)).mono ?_
    rintro e w1 ⟨x1, q1, b1, rfl, hx1, i1, k1, hal⟩
    obtain ⟨rfl, rfl, rfl⟩ := it_of hA (by decide) hal
    have HF : Hid (II w1 r S zs (q + (turned 0).length) bad ∧ Kr r w w1) := hidn ⟨by rw [turned_zero, lowBits_length]; exact i1, k1⟩
    clear i1 k1 hal hA
    go_wp2_with fail
    exact bodyPost_ret (v := .int .u64 0) (by simp [results, Tryd.results37, go_sem]) rfl ⟨rfl, HF.out⟩
  · rw [turned_some y h0] at hA
    have hlen : (turned y).length = 1 + 6 + 6 + widZ y := by rw [turned_some y h0]; simp only [List.length_append, lowBits_length]; omega
    obtain ⟨z1, z2, z3, z4, z5, z6, z7, z8, z9⟩ := zz_spec y h0 hy
    obtain ⟨A1, A'⟩ := at_app.1 hA
    obtain ⟨A2, A''⟩ := at_app.1 A'
    obtain ⟨A3, A4⟩ := at_app.1 A''
    rw [lowBits_length] at A2 A3 A4
    rw [lowBits_length] at A3 A4
    rw [lowBits_length] at A4
    obtain ⟨t, ht⟩ : ∃ t, t = y / 2 ^ loZ y := ⟨_, rfl⟩
    rw [← ht] at A4 z6
    have htl : t < 2 ^ widZ y := by rw [ht]; exact z8
    have HLEN := hidn hlen
    generalize hiZ y = hi at *
    generalize widZ y = wd at *
    generalize loZ y = lo at *
    have hwd1 : wd - 1 < 64 := by omega
    have HY : Hid (t * 2 ^ lo = y) := hidn (by rw [Nat.mul_comm]; exact z6.symm)
    clear hA A' A'' ht hlen z7 z8 z9 z1 h0 z6
    go_enter Tryd.func37, Tryd.ntmps37
    go_wp2_with fail
    refine (itake_any r zs q 1 bad _ h (by omega)).mono ?_
    rintro e w1 ⟨x1, q1, b1, rfl, hx1, i1, k1, hal⟩
    obtain ⟨rfl, rfl, rfl⟩ := it_of A1 (by decide) hal
    clear hal A1 hx1
    go_wp2_with fail
    refine (itake_any r zs (q + 1) 6 bad _ i1 (by omega)).mono ?_
    rintro e w2 ⟨x2, q2, b2, rfl, hx2, i2, k2, hal⟩
    obtain ⟨rfl, rfl, rfl⟩ := it_of A2 (by omega) hal
    have K2 := k1.trans k2
    have hhi : x2 < 64 := hx2
    clear hal A2 i1 k1 k2 hx2
    go_wp2_with fail
    refine (itake_any r zs (q + 1 + 6) 6 bad _ i2 (by omega)).mono ?_
    rintro e w3 ⟨wm, q3, b3, rfl, hx3, i3, k3, hal⟩
    obtain ⟨hwm, rfl, rfl⟩ := it_of A3 (by omega) hal
    have K3 := K2.trans k3
    have rwd : (wm : Int) + 1 = (wd : Int) := by omega
    have hwmb : wm < 64 := hx3
    clear hal A3 i2 k3 K2 hx3 hwm
    go_wp2_with fail
    refine (itake_any r zs (q + 1 + 6 + 6) wd bad _ i3 (by omega)).mono ?_
    rintro e w4 ⟨x4, q4, b4, rfl, hx4, i4, k4, hal⟩
    obtain ⟨rfl, rfl, rfl⟩ := it_of A4 htl hal
    have K4 := K3.trans k4
    have HF : Hid (II w4 r S zs (q + (turned y).length) bad ∧ Kr r w w4) := hidn ⟨by rw [HLEN.out, show q + (1 + 6 + 6 + wd) = q + 1 + 6 + 6 + wd from by omega]; exact i4, K4⟩
    have hd : decide ((64 : Int) < (x2 : Int) + (wd : Int)) = false := decide_eq_false (by omega)
    have r1 : (64 : Int) - (x2 : Int) - (wd : Int) = (lo : Int) := by omega
    have hlo64 : lo < 64 := by omega
    have HYW : Hid (IntKind.u64.wrap ((x4 : Int) * 2 ^ lo) = (y : Int)) := hidn (by
      have h9 : ((x4 * 2 ^ lo : Nat) : Int) = (x4 : Int) * 2 ^ lo := by push_cast; rfl
      rw [← h9, HY.out]
      exact wrap_u_lt .u64 rfl _ (by show y < 18446744073709551616; exact hy))
    clear hal A4 i3 k4 K3 hx4 i4 K4 htl
    go_wp2_with fail
    exact bodyPost_ret (v := .int .u64 (IntKind.u64.wrap ((x4 : Int) * 2 ^ lo))) (by simp [results, Tryd.results37, go_sem]) rfl ⟨by rw [HYW.out], HF.out⟩
end Go.Proofs.YtljkidbdlhllcaaDoor
