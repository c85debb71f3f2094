/- The document's reader of bits: takeInt, takeXor, where a number was written. -/
import Derived.Test.YtljkidbdlhllcaaDoorCodI3
namespace Go.Proofs.YtljkidbdlhllcaaDoor
open Go.RowKit Go.Joins
set_option linter.unusedVariables false
set_option linter.unusedSimpArgs false

theorem win_one (zs : List Nat) (p : Nat) : numOf (win zs p 1) = (bitAt zs p).toNat := by simp [win, numOf]
theorem cls_rng (n : Int) : (cls n = 0 → n = 0) ∧ (cls n = 1 → -64 ≤ n ∧ n ≤ 63) ∧ (cls n = 2 → -2048 ≤ n ∧ n ≤ 2047) ∧ (cls n = 3 → -2147483648 ≤ n ∧ n ≤ 2147483647) := by
  unfold cls
  refine ⟨fun h => ?_, fun h => ?_, fun h => ?_, fun h => ?_⟩ <;> (split at h <;> first | omega | (split at h <;> first | omega | (split at h <;> first | omega | (split at h <;> omega))))
/-- The marks of a class, as they stand. -/
theorem marks_at {zs : List Nat} {N q K : Nat} (hK : K ≤ 4) (h : At zs N q (lowBits (clsMark K) (clsMarks K))) : (∀ i, i < K → bitAt zs (q + i) = true) ∧ (K < 4 → bitAt zs (q + K) = false) ∧ q + clsMarks K ≤ N := by
  refine ⟨fun i hi => ?_, fun h4 => ?_, by have := h.1; rwa [lowBits_length] at this⟩
  · rcases (show K = 0 ∨ K = 1 ∨ K = 2 ∨ K = 3 ∨ K = 4 by omega) with rfl | rfl | rfl | rfl | rfl
    · omega
    · have := h.2 i (by rw [lowBits_length]; show i < 2; omega); rw [this]
      obtain rfl : i = 0 := by omega
      rfl
    · have := h.2 i (by rw [lowBits_length]; show i < 3; omega); rw [this]
      rcases (show i = 0 ∨ i = 1 by omega) with rfl | rfl <;> rfl
    · have := h.2 i (by rw [lowBits_length]; show i < 4; omega); rw [this]
      rcases (show i = 0 ∨ i = 1 ∨ i = 2 by omega) with rfl | rfl | rfl <;> rfl
    · have := h.2 i (by rw [lowBits_length]; show i < 4; omega); rw [this]
      rcases (show i = 0 ∨ i = 1 ∨ i = 2 ∨ i = 3 by omega) with rfl | rfl | rfl | rfl <;> rfl
  · rcases (show K = 0 ∨ K = 1 ∨ K = 2 ∨ K = 3 by omega) with rfl | rfl | rfl | rfl
    · rw [h.2 0 (by rw [lowBits_length]; show 0 < 1; omega)]; rfl
    · rw [h.2 1 (by rw [lowBits_length]; show 1 < 2; omega)]; rfl
    · rw [h.2 2 (by rw [lowBits_length]; show 2 < 3; omega)]; rfl
    · rw [h.2 3 (by rw [lowBits_length]; show 3 < 4; omega)]; rfl
def IIPost (w w' : World) (r : Nat) (S : Option Addr × Nat) (zs : List Nat) (q : Nat) (bad : Bool) (n : Int) (e : Ending) : Prop :=
  e = .returned (.int .i64 n) ∧ II w' r S zs (q + (intBits n).length) bad ∧ Kr r w w'
set_option maxHeartbeats 4000000 in
set_option maxRecDepth 100000 in
theorem iint_at (r : Nat) {S : Option Addr × Nat} (zs : List Nat) (q : Nat) (bad : Bool) (n : Int) (w : World) (h : II w r S zs q bad) (hn0 : -9223372036854775808 ≤ n) (hn1 : n ≤ 9223372036854775807) (hA : At zs (8 * zs.length) q (intBits n)) :
    Calls Tryd.prog 36 #[.pointer (some ⟨r, 0, none⟩)] w fun e w' => IIPost w w' r S zs q bad n e := by
  have hA' := hA
  unfold intBits at hA'
  obtain ⟨hA1, hA2⟩ := at_app.1 hA'
  rw [lowBits_length] at hA2
  obtain ⟨K, hK⟩ : ∃ K, K = cls n := ⟨_, rfl⟩
  have hK4 : K ≤ 4 := by rw [hK]; exact cls_le n
  have HLEN0 : (intBits n).length = clsMarks K + clsWidth K := by rw [intBits_length, hK]; rfl
  rw [← hK] at hA1 hA2
  obtain ⟨m1, m2, m3⟩ := marks_at hK4 hA1
  have HM := hidn (And.intro m1 m2)
  have HKC := hidn hK
  have HV0 := hidn (at_low hA2)
  have HLEN1 := hidn HLEN0
  clear hK hA' hA1 hA2 m1 m2 HLEN0 hA
  go_enter Tryd.func36, Tryd.ntmps36
  go_wp2_with fail
  go_loopw [3] (fun iv wr => ∃ (k : Nat), k ≤ K ∧ iv = .int .i64 (k : Int) ∧ II wr r S zs (q + k) bad ∧ Kr r w wr) (fun iv _ => 4 - (intOf iv).toNat)
  case atStart => exact ⟨0, by omega, rfl, h, Kr.refl _ _⟩
  case round =>
    obtain ⟨k, hk, rfl, i1, k1⟩ := hrel
    clear h
    rcases (show k = 0 ∨ k = 1 ∨ k = 2 ∨ k = 3 ∨ k = 4 by omega) with rfl | rfl | rfl | rfl | rfl
    · have hroom : q + 0 + 1 ≤ 8 * zs.length := by
        have h9 : 0 + 1 ≤ clsMarks K := by
          rcases (show K = 0 ∨ K = 1 ∨ K = 2 ∨ K = 3 ∨ K = 4 by omega) with rfl | rfl | rfl | rfl | rfl <;> first | omega | (show 0 + 1 ≤ 1; omega) | (show 0 + 1 ≤ 2; omega) | (show 0 + 1 ≤ 3; omega) | (show 0 + 1 ≤ 4; omega)
        omega
      go_wp2_with fail
      refine (itake_any r zs (q + 0) 1 bad _ i1 (by omega)).mono ?_
      rintro e w2 ⟨x, q2, b2, rfl, hx2, i2, k2, hal⟩
      have K2 := k1.trans k2
      obtain ⟨hxe, rfl, rfl⟩ : x = (bitAt zs (q + 0)).toNat ∧ q2 = q + 0 + 1 ∧ bad = b2 := by
        rcases hal with ⟨h1, h2, h3, h4⟩ | ⟨h1, _⟩
        · exact ⟨by rw [h2, win_one], h3, h4.symm⟩
        · omega
      clear i1 k1 k2 hx2 hal
      by_cases hx : 0 < K
      · have hx1 : x = 1 := by rw [hxe, HM.out.1 0 hx]; rfl
        have hz : ((x : Int) == 1) = true := by simp; omega
        have HF := hidn (And.intro i2 K2)
        clear hx1 hxe i2 K2
        go_wp2_with fail
        refine ⟨⟨1, by omega, rfl, HF.out.1, HF.out.2⟩, by simp [intOf]⟩
      · have hx0 : x = 0 := by
          have h9 : K = 0 := by omega
          have h8 := HM.out.2 (by omega)
          rw [h9] at h8
          rw [hxe, h8]; rfl
        have hz : ((x : Int) == 1) = false := by simp; omega
        clear hx0 hxe
        obtain rfl : K = 0 := by omega
        have HV : Hid (q + 0 + 1 + 0 ≤ 8 * zs.length ∧ numOf (win zs (q + 0 + 1) 0) = Go.Proofs.YtljkidbdlhllcaaDoor.u64 n % 2 ^ 0) := HV0
        have HLEN : Hid (q + (intBits n).length = q + 0 + 1 + 0) := hidn (by rw [HLEN1.out]; rfl)
        have iA := i2.below ((Below.refl _ w2).alloc (Nat.le_refl _) (.cells #[.int .i64 0, .int .i64 7, .int .i64 12, .int .i64 32, .int .i64 64] 3))
        have kA := K2.trans (Kr.of_below (r := r) ((Below.refl _ w2).alloc (Nat.le_refl _) (.cells #[.int .i64 0, .int .i64 7, .int .i64 12, .int .i64 32, .int .i64 64] 3)))
        go_wp2_with fail
        refine (itake_any r zs _ 0 _ _ iA (by omega)).mono ?_
        rintro e w5 ⟨x5, q5, b5, rfl, hx5, i5, k5, hal⟩
        have K5 := kA.trans k5
        obtain ⟨hV1, hV2⟩ := HV.out
        have hV3 : q + 0 + 1 + 0 ≤ 8 * zs.length ∧ numOf (win zs (q + 0 + 1) 0) = Go.Proofs.YtljkidbdlhllcaaDoor.u64 n % 2 ^ 0 := ⟨hV1, hV2⟩
        obtain ⟨hx5e, rfl, rfl⟩ : x5 = Go.Proofs.YtljkidbdlhllcaaDoor.u64 n % 2 ^ 0 ∧ q5 = q + 0 + 1 + 0 ∧ bad = b5 := by
          rcases hal with ⟨h1, h2, h3, h4⟩ | ⟨h1, _⟩
          · exact ⟨by rw [h2]; exact hV3.2, h3, h4.symm⟩
          · omega
        have hun := u64_nat n
        clear iA kA k5 hal hV1 hV2 hV3
        have HF : Hid (II w5 r S zs (q + (intBits n).length) bad ∧ Kr r w w5) := hidn ⟨by rw [HLEN.out]; exact i5, K5⟩
        clear i5 K5
        have hx0 : x5 = 0 := by rw [hx5e]; omega
        have hn0 : n = 0 := (cls_rng n).1 HKC.out.symm
        subst hx0
        clear hx5e hun
        go_wp2_with fail
        exact bodyPost_ret (v := .int .i64 0) (by simp [results, Tryd.results36, go_sem]) rfl ⟨by rw [hn0], HF.out⟩
    · have hroom : q + 1 + 1 ≤ 8 * zs.length := by
        have h9 : 1 + 1 ≤ clsMarks K := by
          rcases (show K = 0 ∨ K = 1 ∨ K = 2 ∨ K = 3 ∨ K = 4 by omega) with rfl | rfl | rfl | rfl | rfl <;> first | omega | (show 1 + 1 ≤ 1; omega) | (show 1 + 1 ≤ 2; omega) | (show 1 + 1 ≤ 3; omega) | (show 1 + 1 ≤ 4; omega)
        omega
      go_wp2_with fail
      refine (itake_any r zs (q + 1) 1 bad _ i1 (by omega)).mono ?_
      rintro e w2 ⟨x, q2, b2, rfl, hx2, i2, k2, hal⟩
      have K2 := k1.trans k2
      obtain ⟨hxe, rfl, rfl⟩ : x = (bitAt zs (q + 1)).toNat ∧ q2 = q + 1 + 1 ∧ bad = b2 := by
        rcases hal with ⟨h1, h2, h3, h4⟩ | ⟨h1, _⟩
        · exact ⟨by rw [h2, win_one], h3, h4.symm⟩
        · omega
      clear i1 k1 k2 hx2 hal
      by_cases hx : 1 < K
      · have hx1 : x = 1 := by rw [hxe, HM.out.1 1 hx]; rfl
        have hz : ((x : Int) == 1) = true := by simp; omega
        have HF := hidn (And.intro i2 K2)
        clear hx1 hxe i2 K2
        go_wp2_with fail
        refine ⟨⟨2, by omega, rfl, HF.out.1, HF.out.2⟩, by simp [intOf]⟩
      · have hx0 : x = 0 := by
          have h9 : K = 1 := by omega
          have h8 := HM.out.2 (by omega)
          rw [h9] at h8
          rw [hxe, h8]; rfl
        have hz : ((x : Int) == 1) = false := by simp; omega
        clear hx0 hxe
        obtain rfl : K = 1 := by omega
        have HV : Hid (q + 1 + 1 + 7 ≤ 8 * zs.length ∧ numOf (win zs (q + 1 + 1) 7) = Go.Proofs.YtljkidbdlhllcaaDoor.u64 n % 2 ^ 7) := HV0
        have HLEN : Hid (q + (intBits n).length = q + 1 + 1 + 7) := hidn (by rw [HLEN1.out]; rfl)
        have iA := i2.below ((Below.refl _ w2).alloc (Nat.le_refl _) (.cells #[.int .i64 0, .int .i64 7, .int .i64 12, .int .i64 32, .int .i64 64] 3))
        have kA := K2.trans (Kr.of_below (r := r) ((Below.refl _ w2).alloc (Nat.le_refl _) (.cells #[.int .i64 0, .int .i64 7, .int .i64 12, .int .i64 32, .int .i64 64] 3)))
        go_wp2_with fail
        refine (itake_any r zs _ 7 _ _ iA (by omega)).mono ?_
        rintro e w5 ⟨x5, q5, b5, rfl, hx5, i5, k5, hal⟩
        have K5 := kA.trans k5
        obtain ⟨hV1, hV2⟩ := HV.out
        have hV3 : q + 1 + 1 + 7 ≤ 8 * zs.length ∧ numOf (win zs (q + 1 + 1) 7) = Go.Proofs.YtljkidbdlhllcaaDoor.u64 n % 2 ^ 7 := ⟨hV1, hV2⟩
        obtain ⟨hx5e, rfl, rfl⟩ : x5 = Go.Proofs.YtljkidbdlhllcaaDoor.u64 n % 2 ^ 7 ∧ q5 = q + 1 + 1 + 7 ∧ bad = b5 := by
          rcases hal with ⟨h1, h2, h3, h4⟩ | ⟨h1, _⟩
          · exact ⟨by rw [h2]; exact hV3.2, h3, h4.symm⟩
          · omega
        have hun := u64_nat n
        clear iA kA k5 hal hV1 hV2 hV3
        have HF : Hid (II w5 r S zs (q + (intBits n).length) bad ∧ Kr r w w5) := hidn ⟨by rw [HLEN.out]; exact i5, K5⟩
        clear i5 K5
        have hrg := (cls_rng n).2.1 HKC.out.symm
        have hxs : x5 < 128 := hx5
        have hc : IntKind.i64.wrap (x5 : Int) = (x5 : Int) := i64_nat _ (by omega)
        have HR : Hid (((64 : Int) ≤ (x5 : Int) → (x5 : Int) - 128 = n) ∧ (¬ (64 : Int) ≤ (x5 : Int) → (x5 : Int) = n)) := hidn ⟨fun h => by omega, fun h => by omega⟩
        clear hx5e hun hx5 hrg
        by_cases hh : (64 : Int) ≤ (x5 : Int)
        · have hd : decide ((64 : Int) ≤ (x5 : Int)) = true := decide_eq_true hh
          have hn2 := hidn (HR.out.1 hh)
          go_wp2_with fail
          exact bodyPost_ret (v := .int .i64 ((x5 : Int) - 128)) (by simp [results, Tryd.results36, go_sem]) rfl ⟨by rw [hn2.out], HF.out⟩
        · have hd : decide ((64 : Int) ≤ (x5 : Int)) = false := decide_eq_false hh
          have hn2 := hidn (HR.out.2 hh)
          go_wp2_with fail
          exact bodyPost_ret (v := .int .i64 (x5 : Int)) (by simp [results, Tryd.results36, go_sem]) rfl ⟨by rw [hn2.out], HF.out⟩
    · have hroom : q + 2 + 1 ≤ 8 * zs.length := by
        have h9 : 2 + 1 ≤ clsMarks K := by
          rcases (show K = 0 ∨ K = 1 ∨ K = 2 ∨ K = 3 ∨ K = 4 by omega) with rfl | rfl | rfl | rfl | rfl <;> first | omega | (show 2 + 1 ≤ 1; omega) | (show 2 + 1 ≤ 2; omega) | (show 2 + 1 ≤ 3; omega) | (show 2 + 1 ≤ 4; omega)
        omega
      go_wp2_with fail
      refine (itake_any r zs (q + 2) 1 bad _ i1 (by omega)).mono ?_
      rintro e w2 ⟨x, q2, b2, rfl, hx2, i2, k2, hal⟩
      have K2 := k1.trans k2
      obtain ⟨hxe, rfl, rfl⟩ : x = (bitAt zs (q + 2)).toNat ∧ q2 = q + 2 + 1 ∧ bad = b2 := by
        rcases hal with ⟨h1, h2, h3, h4⟩ | ⟨h1, _⟩
        · exact ⟨by rw [h2, win_one], h3, h4.symm⟩
        · omega
      clear i1 k1 k2 hx2 hal
      by_cases hx : 2 < K
      · have hx1 : x = 1 := by rw [hxe, HM.out.1 2 hx]; rfl
        have hz : ((x : Int) == 1) = true := by simp; omega
        have HF := hidn (And.intro i2 K2)
        clear hx1 hxe i2 K2
        go_wp2_with fail
        refine ⟨⟨3, by omega, rfl, HF.out.1, HF.out.2⟩, by simp [intOf]⟩
      · have hx0 : x = 0 := by
          have h9 : K = 2 := by omega
          have h8 := HM.out.2 (by omega)
          rw [h9] at h8
          rw [hxe, h8]; rfl
        have hz : ((x : Int) == 1) = false := by simp; omega
        clear hx0 hxe
        obtain rfl : K = 2 := by omega
        have HV : Hid (q + 2 + 1 + 12 ≤ 8 * zs.length ∧ numOf (win zs (q + 2 + 1) 12) = Go.Proofs.YtljkidbdlhllcaaDoor.u64 n % 2 ^ 12) := HV0
        have HLEN : Hid (q + (intBits n).length = q + 2 + 1 + 12) := hidn (by rw [HLEN1.out]; rfl)
        have iA := i2.below ((Below.refl _ w2).alloc (Nat.le_refl _) (.cells #[.int .i64 0, .int .i64 7, .int .i64 12, .int .i64 32, .int .i64 64] 3))
        have kA := K2.trans (Kr.of_below (r := r) ((Below.refl _ w2).alloc (Nat.le_refl _) (.cells #[.int .i64 0, .int .i64 7, .int .i64 12, .int .i64 32, .int .i64 64] 3)))
        go_wp2_with fail
        refine (itake_any r zs _ 12 _ _ iA (by omega)).mono ?_
        rintro e w5 ⟨x5, q5, b5, rfl, hx5, i5, k5, hal⟩
        have K5 := kA.trans k5
        obtain ⟨hV1, hV2⟩ := HV.out
        have hV3 : q + 2 + 1 + 12 ≤ 8 * zs.length ∧ numOf (win zs (q + 2 + 1) 12) = Go.Proofs.YtljkidbdlhllcaaDoor.u64 n % 2 ^ 12 := ⟨hV1, hV2⟩
        obtain ⟨hx5e, rfl, rfl⟩ : x5 = Go.Proofs.YtljkidbdlhllcaaDoor.u64 n % 2 ^ 12 ∧ q5 = q + 2 + 1 + 12 ∧ bad = b5 := by
          rcases hal with ⟨h1, h2, h3, h4⟩ | ⟨h1, _⟩
          · exact ⟨by rw [h2]; exact hV3.2, h3, h4.symm⟩
          · omega
        have hun := u64_nat n
        clear iA kA k5 hal hV1 hV2 hV3
        have HF : Hid (II w5 r S zs (q + (intBits n).length) bad ∧ Kr r w w5) := hidn ⟨by rw [HLEN.out]; exact i5, K5⟩
        clear i5 K5
        have hrg := (cls_rng n).2.2.1 HKC.out.symm
        have hxs : x5 < 4096 := hx5
        have hc : IntKind.i64.wrap (x5 : Int) = (x5 : Int) := i64_nat _ (by omega)
        have HR : Hid (((2048 : Int) ≤ (x5 : Int) → (x5 : Int) - 4096 = n) ∧ (¬ (2048 : Int) ≤ (x5 : Int) → (x5 : Int) = n)) := hidn ⟨fun h => by omega, fun h => by omega⟩
        clear hx5e hun hx5 hrg
        by_cases hh : (2048 : Int) ≤ (x5 : Int)
        · have hd : decide ((2048 : Int) ≤ (x5 : Int)) = true := decide_eq_true hh
          have hn2 := hidn (HR.out.1 hh)
          go_wp2_with fail
          exact bodyPost_ret (v := .int .i64 ((x5 : Int) - 4096)) (by simp [results, Tryd.results36, go_sem]) rfl ⟨by rw [hn2.out], HF.out⟩
        · have hd : decide ((2048 : Int) ≤ (x5 : Int)) = false := decide_eq_false hh
          have hn2 := hidn (HR.out.2 hh)
          go_wp2_with fail
          exact bodyPost_ret (v := .int .i64 (x5 : Int)) (by simp [results, Tryd.results36, go_sem]) rfl ⟨by rw [hn2.out], HF.out⟩
    · have hroom : q + 3 + 1 ≤ 8 * zs.length := by
        have h9 : 3 + 1 ≤ clsMarks K := by
          rcases (show K = 0 ∨ K = 1 ∨ K = 2 ∨ K = 3 ∨ K = 4 by omega) with rfl | rfl | rfl | rfl | rfl <;> first | omega | (show 3 + 1 ≤ 1; omega) | (show 3 + 1 ≤ 2; omega) | (show 3 + 1 ≤ 3; omega) | (show 3 + 1 ≤ 4; omega)
        omega
      go_wp2_with fail
      refine (itake_any r zs (q + 3) 1 bad _ i1 (by omega)).mono ?_
      rintro e w2 ⟨x, q2, b2, rfl, hx2, i2, k2, hal⟩
      have K2 := k1.trans k2
      obtain ⟨hxe, rfl, rfl⟩ : x = (bitAt zs (q + 3)).toNat ∧ q2 = q + 3 + 1 ∧ bad = b2 := by
        rcases hal with ⟨h1, h2, h3, h4⟩ | ⟨h1, _⟩
        · exact ⟨by rw [h2, win_one], h3, h4.symm⟩
        · omega
      clear i1 k1 k2 hx2 hal
      by_cases hx : 3 < K
      · have hx1 : x = 1 := by rw [hxe, HM.out.1 3 hx]; rfl
        have hz : ((x : Int) == 1) = true := by simp; omega
        have HF := hidn (And.intro i2 K2)
        clear hx1 hxe i2 K2
        go_wp2_with fail
        refine ⟨⟨4, by omega, rfl, HF.out.1, HF.out.2⟩, by simp [intOf]⟩
      · have hx0 : x = 0 := by
          have h9 : K = 3 := by omega
          have h8 := HM.out.2 (by omega)
          rw [h9] at h8
          rw [hxe, h8]; rfl
        have hz : ((x : Int) == 1) = false := by simp; omega
        clear hx0 hxe
        obtain rfl : K = 3 := by omega
        have HV : Hid (q + 3 + 1 + 32 ≤ 8 * zs.length ∧ numOf (win zs (q + 3 + 1) 32) = Go.Proofs.YtljkidbdlhllcaaDoor.u64 n % 2 ^ 32) := HV0
        have HLEN : Hid (q + (intBits n).length = q + 3 + 1 + 32) := hidn (by rw [HLEN1.out]; rfl)
        have iA := i2.below ((Below.refl _ w2).alloc (Nat.le_refl _) (.cells #[.int .i64 0, .int .i64 7, .int .i64 12, .int .i64 32, .int .i64 64] 3))
        have kA := K2.trans (Kr.of_below (r := r) ((Below.refl _ w2).alloc (Nat.le_refl _) (.cells #[.int .i64 0, .int .i64 7, .int .i64 12, .int .i64 32, .int .i64 64] 3)))
        go_wp2_with fail
        refine (itake_any r zs _ 32 _ _ iA (by omega)).mono ?_
        rintro e w5 ⟨x5, q5, b5, rfl, hx5, i5, k5, hal⟩
        have K5 := kA.trans k5
        obtain ⟨hV1, hV2⟩ := HV.out
        have hV3 : q + 3 + 1 + 32 ≤ 8 * zs.length ∧ numOf (win zs (q + 3 + 1) 32) = Go.Proofs.YtljkidbdlhllcaaDoor.u64 n % 2 ^ 32 := ⟨hV1, hV2⟩
        obtain ⟨hx5e, rfl, rfl⟩ : x5 = Go.Proofs.YtljkidbdlhllcaaDoor.u64 n % 2 ^ 32 ∧ q5 = q + 3 + 1 + 32 ∧ bad = b5 := by
          rcases hal with ⟨h1, h2, h3, h4⟩ | ⟨h1, _⟩
          · exact ⟨by rw [h2]; exact hV3.2, h3, h4.symm⟩
          · omega
        have hun := u64_nat n
        clear iA kA k5 hal hV1 hV2 hV3
        have HF : Hid (II w5 r S zs (q + (intBits n).length) bad ∧ Kr r w w5) := hidn ⟨by rw [HLEN.out]; exact i5, K5⟩
        clear i5 K5
        have hrg := (cls_rng n).2.2.2 HKC.out.symm
        have hxs : x5 < 4294967296 := hx5
        have hc : IntKind.i64.wrap (x5 : Int) = (x5 : Int) := i64_nat _ (by omega)
        have HR : Hid (((2147483648 : Int) ≤ (x5 : Int) → (x5 : Int) - 4294967296 = n) ∧ (¬ (2147483648 : Int) ≤ (x5 : Int) → (x5 : Int) = n)) := hidn ⟨fun h => by omega, fun h => by omega⟩
        clear hx5e hun hx5 hrg
        by_cases hh : (2147483648 : Int) ≤ (x5 : Int)
        · have hd : decide ((2147483648 : Int) ≤ (x5 : Int)) = true := decide_eq_true hh
          have hn2 := hidn (HR.out.1 hh)
          go_wp2_with fail
          exact bodyPost_ret (v := .int .i64 ((x5 : Int) - 4294967296)) (by simp [results, Tryd.results36, go_sem]) rfl ⟨by rw [hn2.out], HF.out⟩
        · have hd : decide ((2147483648 : Int) ≤ (x5 : Int)) = false := decide_eq_false hh
          have hn2 := hidn (HR.out.2 hh)
          go_wp2_with fail
          exact bodyPost_ret (v := .int .i64 (x5 : Int)) (by simp [results, Tryd.results36, go_sem]) rfl ⟨by rw [hn2.out], HF.out⟩
    · obtain rfl : K = 4 := by omega
      have HV : Hid (q + 4 + 64 ≤ 8 * zs.length ∧ numOf (win zs (q + 4) 64) = Go.Proofs.YtljkidbdlhllcaaDoor.u64 n % 2 ^ 64) := HV0
      have HLEN : Hid (q + (intBits n).length = q + 4 + 64) := hidn (by rw [HLEN1.out]; rfl)
      have iA := i1.below ((Below.refl _ wr).alloc (Nat.le_refl _) (.cells #[.int .i64 0, .int .i64 7, .int .i64 12, .int .i64 32, .int .i64 64] 3))
      have kA := k1.trans (Kr.of_below (r := r) ((Below.refl _ wr).alloc (Nat.le_refl _) (.cells #[.int .i64 0, .int .i64 7, .int .i64 12, .int .i64 32, .int .i64 64] 3)))
      go_wp2_with fail
      refine (itake_any r zs _ 64 _ _ iA (by omega)).mono ?_
      rintro e w5 ⟨x5, q5, b5, rfl, hx5, i5, k5, hal⟩
      have K5 := kA.trans k5
      obtain ⟨hV1, hV2⟩ := HV.out
      have hV3 : q + 4 + 64 ≤ 8 * zs.length ∧ numOf (win zs (q + 4) 64) = Go.Proofs.YtljkidbdlhllcaaDoor.u64 n % 2 ^ 64 := ⟨hV1, hV2⟩
      obtain ⟨hx5e, rfl, rfl⟩ : x5 = Go.Proofs.YtljkidbdlhllcaaDoor.u64 n % 2 ^ 64 ∧ q5 = q + 4 + 64 ∧ bad = b5 := by
        rcases hal with ⟨h1, h2, h3, h4⟩ | ⟨h1, _⟩
        · exact ⟨by rw [h2]; exact hV3.2, h3, h4.symm⟩
        · omega
      have hun := u64_nat n
      clear iA kA k5 hal hV1 hV2 hV3
      have HF : Hid (II w5 r S zs (q + (intBits n).length) bad ∧ Kr r w w5) := hidn ⟨by rw [HLEN.out]; exact i5, K5⟩
      clear i5 K5
      have hc : IntKind.i64.wrap (x5 : Int) = n := by rw [i64_w64]; unfold wrap64; omega
      have hc2 : wrap64 (x5 : Int) = n := by unfold wrap64; omega
      clear hx5e hun hx5
      go_wp2_with fail
      exact bodyPost_ret (v := .int .i64 n) (by simp [results, Tryd.results36, go_sem]) rfl ⟨rfl, HF.out⟩
end Go.Proofs.YtljkidbdlhllcaaDoor
