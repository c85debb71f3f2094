/- slices.Equal of numbers, dryrotlaw16.cut. -/
import Derived.Test.YteammmhlpinhfaaPlC
import Derived.Deep.RegionWith
namespace Go.Proofs.Yteammmhlpinhfaa
open Go.RowKit Go.Joins
set_option linter.unusedVariables false

set_option maxHeartbeats 2000000 in
set_option maxRecDepth 100000 in
theorem equal_same (a a' : Option Addr) (len cap cap' : Nat) (l : List Int) (w : World) (h : Ils w a len l) (h' : Ils w a' len l) :
    Calls Try.prog 30 #[.slice a len cap, .slice a' len cap'] w fun e w' => e = .returned (.bool true) ∧ Below w.heap.size w w' := by
  have hlen := hidn h.1
  have hlm := h.2.1
  unfold maxLen at hlm
  have hn : ((len : Int) != (len : Int)) = false := by simp
  go_enter Try.func30, Try.ntmps30
  go_wp2_with fail
  go_loopw [13] (fun iv wr => ∃ (k : Nat), k ≤ len ∧ iv = .int .i64 (k : Int) ∧ Below w.heap.size w wr) (fun iv _ => len - (intOf iv).toNat)
  case atStart => exact ⟨0, Nat.zero_le _, rfl, Below.refl _ _⟩
  case round =>
    obtain ⟨k, hk, rfl, hb⟩ := hrel
    by_cases hlt : k < len
    · have hlt2 : (k : Int) < (len : Int) := by omega
      obtain ⟨d, hd⟩ : ∃ d, l[k]? = some d := ⟨_, List.getElem?_eq_getElem (by rw [hlen.out]; exact hlt)⟩
      obtain ⟨b, off, rfl, c0⟩ := (h.below hb).at hd
      obtain ⟨b', off', rfl, c1⟩ := (h'.below hb).at hd
      have hdd : (d != d) = false := by simp
      have bd : Below w.heap.size w wr.drew := hb.drew
      clear hd
      go_wp2_with fail
      go_region
      go_wp2_with fail
      exact ⟨⟨k + 1, by omega, by simp, bd⟩, by simp [intOf]; omega⟩
    · have hlt2 : ¬ (k : Int) < (len : Int) := by omega
      go_wp2_with fail
      exact bodyPost_ret (v := .bool true) (by simp [results, Try.results30, go_sem]) rfl ⟨rfl, hb⟩

theorem cut_min (len : Nat) : ∃ n : Nat, n ≤ len ∧ n ≤ 14 ∧ min (len : Int) 14 = (n : Int) ∧ (if (14 : Int) < (len : Int) then (14 : Int) else (len : Int)) = (n : Int) := by
  refine ⟨min len 14, by omega, by omega, by omega, ?_⟩
  split <;> omega

end Go.Proofs.Yteammmhlpinhfaa
