/- plan.Floor, and the document's. -/
import Derived.Test.YtpbicnpaldfamaaLabDrawn
namespace Go.Proofs.Ytpbicnpaldfamaa
open Go.RowKit
set_option linter.unusedVariables false

/-- The floor behind a time. -/
def floorS (f n k : Int) : Int := if k ≤ 0 ∨ n < -9223372036854775808 + k then f else max f (n - k)

theorem floorS_low {f n k : Int} (h : k ≤ 0 ∨ n < -9223372036854775808 + k) : floorS f n k = f := if_pos h

theorem floorS_high {f n k : Int} (h1 : 0 < k) (h2 : -9223372036854775808 + k ≤ n) : floorS f n k = max f (n - k) := if_neg (by omega)

theorem floorS_ge (f n k : Int) : f ≤ floorS f n k := by unfold floorS; split <;> omega

theorem floorS_idem (f n k : Int) : floorS (floorS f n k) n k = floorS f n k := by
  unfold floorS
  by_cases h : k ≤ 0 ∨ n < -9223372036854775808 + k
  · simp [h]
  · simp only [if_neg h]; omega

set_option maxHeartbeats 2000000 in
theorem floor_any (f n k : Int) (w : World) (hn : -9223372036854775808 ≤ n ∧ n ≤ 9223372036854775807) (hk : -9223372036854775808 ≤ k ∧ k ≤ 9223372036854775807) :
    Calls Try.prog 17 #[.int .i64 f, .int .i64 n, .int .i64 k] w fun e w' => e = .returned (.int .i64 (floorS f n k)) ∧ w' = w := by
  obtain ⟨Z, hZ⟩ : ∃ Z, Z = floorS f n k := ⟨_, rfl⟩
  rw [← hZ]
  have HZ := hidn hZ
  clear hZ
  by_cases h1 : k ≤ 0
  · have hz : Hid (Z = f) := hidn (by rw [HZ.out, floorS_low (.inl h1)])
    go_enter Try.func17, Try.ntmps17
    go_wp2_with fail
    exact bodyPost_ret (v := .int .i64 f) (by simp [results, Try.results17, go_sem]) rfl ⟨by rw [hz.out], rfl⟩
  · by_cases h2 : n < -9223372036854775808 + k
    · have hz : Hid (Z = f) := hidn (by rw [HZ.out, floorS_low (.inr (by omega))])
      go_enter Try.func17, Try.ntmps17
      go_wp2_with fail
      exact bodyPost_ret (v := .int .i64 f) (by simp [results, Try.results17, go_sem]) rfl ⟨by rw [hz.out], rfl⟩
    · by_cases h3 : f < n - k
      · have hz : Hid (Z = n - k) := hidn (by rw [HZ.out, floorS_high (by omega) (by omega)]; omega)
        go_enter Try.func17, Try.ntmps17
        go_wp2_with fail
        exact bodyPost_ret (v := .int .i64 (n - k)) (by simp [results, Try.results17, go_sem]) rfl ⟨by rw [hz.out], rfl⟩
      · have hz : Hid (Z = f) := hidn (by rw [HZ.out, floorS_high (by omega) (by omega)]; omega)
        go_enter Try.func17, Try.ntmps17
        go_wp2_with fail
        exact bodyPost_ret (v := .int .i64 f) (by simp [results, Try.results17, go_sem]) rfl ⟨by rw [hz.out], rfl⟩

theorem awake16 (w : World) : Calls Try.prog 8 #[] w fun e w' => e = .returned (.bool true) ∧ w' = w := by
  have H := hidn (floor_any 0 100 30 w (by omega) (by omega))
  rw [show floorS 0 100 30 = 70 from by decide] at H
  go_enter Try.func8, Try.ntmps8
  go_wp2_with fail
  refine H.out.mono ?_
  rintro e w1 ⟨rfl, rfl⟩
  go_wp2_with fail
  exact bodyPost_ret (v := .bool true) (by simp [results, Try.results8, go_sem]) rfl ⟨rfl, rfl⟩

end Go.Proofs.Ytpbicnpaldfamaa
