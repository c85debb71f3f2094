/- dryrotref07.Word at any text. -/
import Derived.Test.YtkcmaneibfambaaLabPjMath
import Derived.Test.YtkcmaneibfambaaLabRefName
import Derived.Test.YtkcmaneibfambaaLabRefUnq
namespace Go.Proofs.Ytkcmaneibfambaa
open Go.RowKit Go.Joins
set_option linter.unusedVariables false

theorem name_two (c : UInt8) : nameOK ((⟨#[97]⟩ : ByteArray) ++ ⟨#[c]⟩) = wordB c := by
  have e : ((⟨#[97]⟩ : ByteArray) ++ ⟨#[c]⟩) = ⟨#[97, c]⟩ := rfl
  rw [e]
  show (decide (0 < 2) && decide (2 ≤ 24) && nameTo ⟨#[97, c]⟩ (0 + 1 + 1)) = _
  rw [nameTo_succ, nameTo_succ]
  have h0 : byteAt ⟨#[97, c]⟩ 0 = 97 := rfl
  have h1 : byteAt ⟨#[97, c]⟩ (0 + 1) = c.toNat := rfl
  rw [h0, h1, nameTo_zero]
  have h2 : nameAt 0 97 = true := by decide
  rw [h2]
  unfold nameAt wordB
  simp
theorem ext_bA (s : ByteArray) (k : Nat) (c : UInt8) (h : s.data.toList[k]? = some c) : s.extract k (k + 1) = ⟨#[c]⟩ := bytes_eq (extract_one s k c h)

set_option maxHeartbeats 2000000 in
set_option maxRecDepth 100000 in
theorem word_any (s : ByteArray) (w : World) (hs : s.size ≤ 1099511627776) :
    Calls Try.prog 47 #[.string s] w fun e w' => e = .returned (.tuple #[.string (s.extract 0 (wordN s.data.toList)), .string (s.extract (wordN s.data.toList) s.size)]) ∧ Below w.heap.size w w' := by
  have hsl : Hid (s.data.toList.length = s.size) := hidn (Lib.size_eq s).symm
  obtain ⟨N, hN⟩ : ∃ N, wordN s.data.toList = N := ⟨_, rfl⟩
  have HN := hidn hN
  have hNs : N ≤ s.size := by rw [← hN, Lib.size_eq]; exact wordN_le _
  rw [hN]
  clear hN
  go_enter Try.func47, Try.ntmps47
  go_wp2
  go_loopw [4] (fun i wr => ∃ k : Nat, k ≤ N ∧ i = .int .i64 k ∧ Below w.heap.size w wr) (fun i wr => s.size - (intOf i).toNat)
  case atStart => exact ⟨0, Nat.zero_le _, rfl, Below.refl _ _⟩
  case round =>
    obtain ⟨k, hk, rfl, hbl⟩ := hrel
    by_cases hlt : k < s.size
    · obtain ⟨c, hc, hbc⟩ := byteAt_some s k hlt
      obtain ⟨q, hq⟩ : ∃ q, q = k + 1 := ⟨_, rfl⟩
      have HQQ := hidn hq
      have hkq : (k : Int) + 1 = (q : Int) := by omega
      have hq1 : k ≤ q := by omega
      have hq2 : q ≤ s.size := by omega
      have hq3 : (0 : Int) ≤ (q : Int) := by omega
      have HX : Hid (s.extract k q = ⟨#[c]⟩) := hidn (by rw [hq]; exact ext_bA s k c hc)
      have hst := wordN_step s.data.toList k c (by rw [HN.out]; exact hk) hc
      rw [HN.out] at hst
      have HST := hidn hst
      clear hq hc hbc hst
      go_wp2_with fail
      rw [HX.out]
      refine (refName_any _ _ (by show 2 ≤ maxLen; decide)).mono ?_
      rintro e w1 ⟨rfl, rfl⟩
      rw [name_two]
      cases hw : wordB c with
      | true =>
        have hle := HST.out.1 hw
        go_wp2
        exact ⟨⟨q, by rw [HQQ.out]; exact hle, rfl, hbl⟩, by simp [intOf]; have := HQQ.out; omega⟩
      | false =>
        have HKN := hidn (HST.out.2 hw)
        go_wp2
        go_quiet (fail)
        go_wp2
        exact bodyPost_ret (v := .tuple #[.string (s.extract 0 k), .string (s.extract k s.size)]) (by simp [results, Try.results47, go_sem]) rfl ⟨by rw [HKN.out], below_drewN hbl _⟩
    · have hkN : k = N := by omega
      have HKN := hidn hkN
      have hks : k ≤ s.size := by omega
      have hnl : ¬ (k : Int) < (s.size : Int) := by omega
      clear hkN
      go_wp2
      go_quiet (fail)
      go_wp2
      exact bodyPost_ret (v := .tuple #[.string (s.extract 0 k), .string (s.extract k s.size)]) (by simp [results, Try.results47, go_sem]) rfl ⟨by rw [HKN.out], below_drewN hbl _⟩
end Go.Proofs.Ytkcmaneibfambaa
