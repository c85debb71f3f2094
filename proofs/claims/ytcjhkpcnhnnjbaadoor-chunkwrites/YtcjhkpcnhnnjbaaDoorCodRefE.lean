/- dryrotref11.Can and the samples' bits of dryrotref11.Encode: contracts at every list of samples. -/
import Derived.Test.YtcjhkpcnhnnjbaaDoorMj
namespace Go.Proofs.YtcjhkpcnhnnjbaaDoor.Cd
open Go.RowKit Go.Joins
set_option linter.unusedVariables false
set_option linter.unusedSimpArgs false

set_option maxHeartbeats 4000000 in
set_option maxRecDepth 100000 in
theorem rcan_any (a : Option Addr) (len cap : Nat) (l : List Sam) (w : World) (h : Sm w a len l) :
    Calls Tryd.prog 37 #[.slice a len cap] w fun e w' => e = .returned (.bool (canS l)) ∧ Below w.heap.size w w' := by
  have hm := h.2.1
  unfold maxLen at hm
  go_enter Tryd.func37, Tryd.ntmps37
  go_wp2_with fail
  go_loopw [6] (fun iv wr => ∃ k : Nat, k ≤ len ∧ iv = .int .i64 (k : Int) ∧ Hid (∀ i, i + 1 < k → (samD l i).t < (samD l (i + 1)).t) ∧ Below w.heap.size w wr) (fun iv _ => len - (intOf iv).toNat)
  case atStart => exact ⟨0, by omega, rfl, hidn (fun i hi => by omega), Below.refl _ _⟩
  case round =>
    obtain ⟨k, hk, rfl, HK, hbw⟩ := hrel
    by_cases hlt : k < len
    · obtain ⟨b, off, rfl, hb, hcl⟩ := h.pos (by omega)
      by_cases hk0 : k = 0
      · subst hk0
        have hl0 : (0 : Int) < (len : Int) := by omega
        clear hcl
        go_wp2_with fail
        go_quiet (fail)
        go_wp2_with fail
        go_roundw
        case rel => exact ⟨1, by omega, by go_num, hidn (fun i hi => by omega), below_drewN hbw _⟩
        case measure => simp [intOf]; omega
      · obtain ⟨j, hj⟩ : ∃ j, k = j + 1 := ⟨k - 1, by omega⟩
        have hji : (k : Int) - 1 = (j : Int) := by omega
        have hk0i : decide (0 < k) = true := decide_eq_true (by omega)
        have hjl : j < len := by omega
        have hjli : (j : Int) < (len : Int) := by omega
        have hkli : (k : Int) < (len : Int) := by omega
        have c1 : wr.cell? ⟨b, off + j * 2, none⟩ = some (.int .i64 (samD l j).t) := (hbw.cell (p := ⟨b, off + j * 2, none⟩) hb).trans (hcl j hjl).1
        have c2 : wr.cell? ⟨b, off + k * 2, none⟩ = some (.int .i64 (samD l k).t) := (hbw.cell (p := ⟨b, off + k * 2, none⟩) hb).trans (hcl k hlt).1
        have HJ := hidn hj
        have HT : Hid ((samD l k).t ≤ (samD l j).t → canS l = false) := hidn (by
          intro hh
          rw [Bool.eq_false_iff]
          intro hc
          have := ((canS_iff l).1 hc).2 j (by rw [h.1]; omega)
          rw [← hj] at this
          omega)
        have HN : Hid ((samD l j).t < (samD l k).t → ∀ i, i + 1 < k + 1 → (samD l i).t < (samD l (i + 1)).t) := hidn (by
          intro hh i hi
          by_cases hij : i = j
          · subst hij; rw [← hj]; exact hh
          · exact HK.out i (by omega))
        clear hcl hj hk0
        generalize (samD l j).t = tj at *
        generalize (samD l k).t = tk at *
        by_cases hle : tk ≤ tj
        · have hd : decide (tk ≤ tj) = true := decide_eq_true hle
          have HC := hidn (HT.out hle)
          clear hle HT HN
          go_wp2_with fail
          go_quiet (fail)
          go_wp2_with fail
          go_ret
          rw [HC.out]
          exact ⟨rfl, below_drewN hbw _⟩
        · have hd : decide (tk ≤ tj) = false := decide_eq_false hle
          have HN2 := hidn (HN.out (by omega))
          clear hle HT HN
          go_wp2_with fail
          go_quiet (fail)
          go_wp2_with fail
          go_roundw
          case rel => exact ⟨k + 1, by omega, by go_num, HN2, below_drewN hbw _⟩
          case measure => simp [intOf]; omega
    · have HC : Hid (canS l = decide ((len : Int) ≤ 65535)) := hidn (by
        have hr : riseS l := fun i hi => HK.out i (by rw [h.1] at hi; omega)
        by_cases h6 : len ≤ 65535
        · rw [decide_eq_true (by omega)]; exact (canS_iff l).2 ⟨by rw [h.1]; exact h6, hr⟩
        · rw [decide_eq_false (by omega), Bool.eq_false_iff]
          intro hc
          have := ((canS_iff l).1 hc).1
          rw [h.1] at this
          omega)
      go_wp2_with fail
      go_ret
      rw [HC.out]
      exact ⟨rfl, hbw⟩
end Go.Proofs.YtcjhkpcnhnnjbaaDoor.Cd
