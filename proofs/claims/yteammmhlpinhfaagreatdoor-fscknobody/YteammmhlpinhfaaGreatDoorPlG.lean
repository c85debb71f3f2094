/- plan.canStand, isNumber, and the document's number. -/
import Derived.Test.YteammmhlpinhfaaGreatDoorPlC
import Derived.Deep.RegionWith
namespace Go.Proofs.YteammmhlpinhfaaGreatDoor
open Go.RowKit Go.Joins
set_option linter.unusedVariables false

def numB (n : Int) : Bool := decide (1 ≤ n) && decide (n ≤ 4611686018427387904)

def standF (f : Fo) : Bool := numB f.nu && numB f.rk && numB f.ge && decide (1 ≤ f.lv) && decide (f.lv ≤ 3) && decide (0 ≤ f.bt) && decide (f.bt ≤ 2147483647) && decide (f.mn ≤ f.mx)

theorem isNumber_any (n : Int) (w : World) : Calls Tryz.prog 123 #[.int .i64 n] w fun e w' => e = .returned (.bool (numB n)) ∧ w' = w := by
  obtain ⟨Z, hZ⟩ : ∃ Z, Z = numB n := ⟨_, rfl⟩
  rw [← hZ]
  have HZ := hidn hZ
  clear hZ
  by_cases h1 : 1 ≤ n
  · by_cases h2 : n ≤ 4611686018427387904
    · have hz : Hid (Z = true) := hidn (by rw [HZ.out]; simp [numB, h1, h2])
      go_enter Tryz.func123, Tryz.ntmps123
      go_wp2_with fail
      exact bodyPost_ret (v := .bool true) (by simp [results, Tryz.results123, go_sem]) rfl ⟨by rw [hz.out], rfl⟩
    · have hz : Hid (Z = false) := hidn (by rw [HZ.out]; simp [numB, h2])
      go_enter Tryz.func123, Tryz.ntmps123
      go_wp2_with fail
      exact bodyPost_ret (v := .bool false) (by simp [results, Tryz.results123, go_sem]) rfl ⟨by rw [hz.out], rfl⟩
  · have hz : Hid (Z = false) := hidn (by rw [HZ.out]; simp [numB, h1])
    go_enter Tryz.func123, Tryz.ntmps123
    go_wp2_with fail
    exact bodyPost_ret (v := .bool false) (by simp [results, Tryz.results123, go_sem]) rfl ⟨by rw [hz.out], rfl⟩

set_option maxHeartbeats 2000000 in
set_option maxRecDepth 100000 in
theorem canStand_any (f : Fo) (w : World) : Calls Tryz.prog 81 #[f.agg] w fun e w' => e = .returned (.bool (standF f)) ∧ Below w.heap.size w w' := by
  obtain ⟨Z, hZ⟩ : ∃ Z, Z = standF f := ⟨_, rfl⟩
  rw [← hZ]
  have HZ := hidn hZ
  clear hZ
  obtain ⟨nu, ge, lv, rk, mn, mx, bt, pa, pl, pc, ps⟩ := f
  simp only [standF, Fo.agg] at HZ ⊢
  have bA : Below w.heap.size w (w.alloc (.cells #[.int .i64 nu, .int .i64 ge, .int .i64 lv, .int .i64 rk, .int .i64 mn, .int .i64 mx, .int .i64 bt, .slice pa pl pc] 40)) := (Below.refl _ w).alloc (Nat.le_refl _) _
  cases h0 : numB nu with
  | false =>
    have hz : Hid (Z = false) := hidn (by rw [HZ.out]; simp [h0])
    go_enter Tryz.func81, Tryz.ntmps81
    go_wp2_with (go_at_call 123; refine (isNumber_any _ _).mono ?_; rintro e w' ⟨rfl, rfl⟩)
    exact bodyPost_ret (v := .bool false) (by simp [results, Tryz.results81, go_sem]) rfl ⟨by rw [hz.out], bA⟩
  | true =>
    cases h1 : numB rk with
    | false =>
      have hz : Hid (Z = false) := hidn (by rw [HZ.out]; simp [h1])
      go_enter Tryz.func81, Tryz.ntmps81
      go_wp2_with (go_at_call 123; refine (isNumber_any _ _).mono ?_; rintro e w' ⟨rfl, rfl⟩)
      exact bodyPost_ret (v := .bool false) (by simp [results, Tryz.results81, go_sem]) rfl ⟨by rw [hz.out], bA⟩
    | true =>
      cases h2 : numB ge with
      | false =>
        have hz : Hid (Z = false) := hidn (by rw [HZ.out]; simp [h2])
        go_enter Tryz.func81, Tryz.ntmps81
        go_wp2_with (go_at_call 123; refine (isNumber_any _ _).mono ?_; rintro e w' ⟨rfl, rfl⟩)
        exact bodyPost_ret (v := .bool false) (by simp [results, Tryz.results81, go_sem]) rfl ⟨by rw [hz.out], bA⟩
      | true =>
        by_cases h3 : 1 ≤ lv
        · by_cases h4 : lv ≤ 3
          · by_cases h5 : 0 ≤ bt
            · by_cases h6 : bt ≤ 2147483647
              · by_cases h7 : mn ≤ mx
                · have hz : Hid (Z = true) := hidn (by rw [HZ.out]; simp [h0, h1, h2, h3, h4, h5, h6, h7])
                  go_enter Tryz.func81, Tryz.ntmps81
                  go_wp2_with (go_at_call 123; refine (isNumber_any _ _).mono ?_; rintro e w' ⟨rfl, rfl⟩)
                  exact bodyPost_ret (v := .bool true) (by simp [results, Tryz.results81, go_sem]) rfl ⟨by rw [hz.out], bA⟩
                · have hz : Hid (Z = false) := hidn (by rw [HZ.out]; simp [h7])
                  go_enter Tryz.func81, Tryz.ntmps81
                  go_wp2_with (go_at_call 123; refine (isNumber_any _ _).mono ?_; rintro e w' ⟨rfl, rfl⟩)
                  exact bodyPost_ret (v := .bool false) (by simp [results, Tryz.results81, go_sem]; omega) rfl ⟨by rw [hz.out], bA⟩
              · have hz : Hid (Z = false) := hidn (by rw [HZ.out]; simp [h6])
                go_enter Tryz.func81, Tryz.ntmps81
                go_wp2_with (go_at_call 123; refine (isNumber_any _ _).mono ?_; rintro e w' ⟨rfl, rfl⟩)
                exact bodyPost_ret (v := .bool false) (by simp [results, Tryz.results81, go_sem]) rfl ⟨by rw [hz.out], bA⟩
            · have hz : Hid (Z = false) := hidn (by rw [HZ.out]; simp [h5])
              go_enter Tryz.func81, Tryz.ntmps81
              go_wp2_with (go_at_call 123; refine (isNumber_any _ _).mono ?_; rintro e w' ⟨rfl, rfl⟩)
              exact bodyPost_ret (v := .bool false) (by simp [results, Tryz.results81, go_sem]) rfl ⟨by rw [hz.out], bA⟩
          · have hz : Hid (Z = false) := hidn (by rw [HZ.out]; simp [h4])
            go_enter Tryz.func81, Tryz.ntmps81
            go_wp2_with (go_at_call 123; refine (isNumber_any _ _).mono ?_; rintro e w' ⟨rfl, rfl⟩)
            exact bodyPost_ret (v := .bool false) (by simp [results, Tryz.results81, go_sem]) rfl ⟨by rw [hz.out], bA⟩
        · have hz : Hid (Z = false) := hidn (by rw [HZ.out]; simp [h3])
          go_enter Tryz.func81, Tryz.ntmps81
          go_wp2_with (go_at_call 123; refine (isNumber_any _ _).mono ?_; rintro e w' ⟨rfl, rfl⟩)
          exact bodyPost_ret (v := .bool false) (by simp [results, Tryz.results81, go_sem]) rfl ⟨by rw [hz.out], bA⟩

end Go.Proofs.YteammmhlpinhfaaGreatDoor
