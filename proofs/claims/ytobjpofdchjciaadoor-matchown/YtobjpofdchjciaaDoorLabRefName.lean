/- dryrotref07.Name: contract at every text. -/
import Derived.Test.YtobjpofdchjciaaDoorChecked
import Derived.WalkKit
import Derived.WalkLawsBesides
import Derived.KernelRfl
import Derived.BigCall
import Derived.Lib.OthersKept
import Derived.Test.YtobjpofdchjciaaDoorLabName
namespace Go.Proofs.YtobjpofdchjciaaDoor
open Go.RowKit
set_option linter.unusedVariables false

set_option maxHeartbeats 4000000 in
set_option maxRecDepth 100000 in
theorem refName_any (s : ByteArray) (w : World) (hs : s.size ≤ maxLen) :
    Calls Tryd.prog 18 #[.string s] w fun e w' => e = .returned (.bool (nameOK s)) ∧ w' = w := by
  unfold maxLen at hs
  have e : ∀ b, nameOK s = b → (Ending.returned (.bool b) = Ending.returned (.bool (nameOK s))) := fun b h => by rw [h]
  go_enter Tryd.func18, Tryd.ntmps18
  go_wp2
  go_loop [3] (fun i => ∃ k : Nat, k ≤ s.size ∧ i = .int .i64 k ∧ Hid (nameTo s k = true)) (fun i => s.size - (intOf i).toNat)
  case atStart => exact ⟨0, Nat.zero_le _, rfl, rfl⟩
  case round =>
    obtain ⟨k, hk, rfl, hn⟩ := hrel
    by_cases hlt : k < s.size
    · have hb := byteAt_get s k hlt
      have hgo : nameAt k (byteAt s k) = true → nameTo s (k + 1) = true := fun h => by rw [nameTo_succ, hn, h]; rfl
      have hstop : nameAt k (byteAt s k) = false → nameOK s = false := nameOK_false s k hlt
      rw [hb] at hgo hstop
      have HB : Hid (_ = _) := hb
      clear hb hn
      unfold nameAt letZ digZ at hgo hstop
      simp only [Bool.or_eq_true, Bool.and_eq_true, decide_eq_true_eq, Bool.or_eq_false_iff, Bool.and_eq_false_iff, decide_eq_false_iff_not, ne_eq, Decidable.not_not] at hgo hstop
      clear HB
      have hr : (((s[k]'hlt).toNat : Int) < 48) ∨ (48 ≤ ((s[k]'hlt).toNat : Int) ∧ ((s[k]'hlt).toNat : Int) ≤ 57) ∨ (58 ≤ ((s[k]'hlt).toNat : Int) ∧ ((s[k]'hlt).toNat : Int) ≤ 64) ∨ (65 ≤ ((s[k]'hlt).toNat : Int) ∧ ((s[k]'hlt).toNat : Int) ≤ 90) ∨ (91 ≤ ((s[k]'hlt).toNat : Int) ∧ ((s[k]'hlt).toNat : Int) ≤ 94) ∨ (95 ≤ ((s[k]'hlt).toNat : Int) ∧ ((s[k]'hlt).toNat : Int) ≤ 95) ∨ (96 ≤ ((s[k]'hlt).toNat : Int) ∧ ((s[k]'hlt).toNat : Int) ≤ 96) ∨ (97 ≤ ((s[k]'hlt).toNat : Int) ∧ ((s[k]'hlt).toNat : Int) ≤ 122) ∨ (123 ≤ ((s[k]'hlt).toNat : Int)) := by omega
      have hend : nameTo s (k + 1) = true → (∃ j : Nat, j ≤ s.size ∧ Value.int IntKind.i64 ((k : Int) + 1) = Value.int IntKind.i64 (j : Int) ∧ Hid (nameTo s j = true)) ∧ s.size - (intOf (Value.int IntKind.i64 ((k : Int) + 1))).toNat < s.size - (intOf (Value.int IntKind.i64 (k : Int))).toNat := by
        intro h
        exact ⟨⟨k + 1, by omega, by go_num, h⟩, by simp [intOf]; omega⟩
      have HE := hidn hend
      have HG := hidn hgo
      have HS := hidn hstop
      clear hend hgo hstop
      by_cases hz : k = 0
      all_goals rcases hr with h1 | ⟨h1, h2⟩ | ⟨h1, h2⟩ | ⟨h1, h2⟩ | ⟨h1, h2⟩ | ⟨h1, h2⟩ | ⟨h1, h2⟩ | ⟨h1, h2⟩ | h1
      all_goals
        have d1 : (((s[k]'hlt).toNat : Int) == 95) = decide (((s[k]'hlt).toNat : Int) = 95) := rfl
        first
          | (have d2 : (((s[k]'hlt).toNat : Int) == 95) = false := beq_eq_false_iff_ne.2 (by omega))
          | (have d2 : (((s[k]'hlt).toNat : Int) == 95) = true := beq_iff_eq.2 (by omega))
        clear d1
        first
          | (have d3 : ((k : Int) == 0) = false := beq_eq_false_iff_ne.2 (by omega))
          | (have d3 : ((k : Int) == 0) = true := beq_iff_eq.2 (by omega))
        have hz' : Hid (k = 0 ∨ ¬ k = 0) := Decidable.em _
        first
          | (have hz2 : Hid (k = 0) := by assumption
             clear hz)
          | (have hz2 : Hid (¬ k = 0) := by assumption
             clear hz)
        go_wp2
        all_goals first
          | exact HE (HG (by unfold Hid at hz2; omega))
          | (go_ret; exact ⟨e _ (HS (by unfold Hid at hz2; omega)), rfl⟩)
          | (exfalso; unfold Hid at *; simp_all; done)
          | (exfalso; unfold Hid at *; simp_all; omega)
    · have h3 : ¬ ((k : Int) < (s.size : Int)) := by omega
      obtain rfl : k = s.size := by omega
      by_cases h0 : s.size = 0
      · have g0 : decide (1 ≤ (s.size : Int)) = false := by simp; omega
        go_wp2
        go_ret
        exact ⟨e _ (nameOK_size s (.inl h0)), rfl⟩
      have g0 : decide (1 ≤ (s.size : Int)) = true := by simp; omega
      by_cases h24 : 24 < s.size
      · have g1 : decide ((s.size : Int) ≤ 24) = false := by simp; omega
        go_wp2
        go_ret
        exact ⟨e _ (nameOK_size s (.inr h24)), rfl⟩
      have g1 : decide ((s.size : Int) ≤ 24) = true := by simp; omega
      go_wp2
      go_ret
      exact ⟨e _ (nameOK_true s (by omega) (by omega) hn), rfl⟩
end Go.Proofs.YtobjpofdchjciaaDoor
