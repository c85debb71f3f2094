/- dryrotref07.Quote, Unquote: contracts at every text. -/
import Derived.Test.YtkcmaneibfambaaLabName
import Derived.Test.YtkcmaneibfambaaLabUnqMath
import Derived.BigQuiet
import Derived.Deep.QuietTactic
namespace Go.Proofs.Ytkcmaneibfambaa
open Go.RowKit
set_option linter.unusedVariables false

theorem append_list (a b : ByteArray) : (a ++ b).data.toList = a.data.toList ++ b.data.toList := by
  cases a; cases b; simp [ByteArray.data_append]
theorem bytes_eq {a : ByteArray} {l : List UInt8} (h : a.data.toList = l) : a = ⟨l.toArray⟩ := by
  cases a; simp at h; subst h; simp
theorem extract_one (s : ByteArray) (k : Nat) (c : UInt8) (h : s.data.toList[k]? = some c) : (s.extract k (k + 1)).data.toList = [c] := by
  rw [Lib.extract_data]; exact take_one h
theorem quote_take (L : List UInt8) (k : Nat) (c : UInt8) (h : L[k]? = some c) : quoteL (L.take (k + 1)) = quoteL (L.take k) ++ (if markB c then [92, c] else [c]) := by
  rw [take_part L k (k + 1) (by omega), take_one h, quoteL_append]
  simp only [quoteL]

set_option maxHeartbeats 2000000 in
theorem refQuote_any (s : ByteArray) (w : World) (hs : s.size ≤ 1099511627776) :
    Calls Try.prog 23 #[.string s] w fun e w' => e = .returned (.string ⟨(quoted s).toArray⟩) ∧ w' = w := by
  have hsl : Hid (s.data.toList.length = s.size) := hidn (Lib.size_eq s).symm
  go_enter Try.func23, Try.ntmps23
  go_wp2
  go_loop [3, 4] (fun o i => ∃ (k : Nat) (out : ByteArray), k ≤ s.size ∧ i = .int .i64 k ∧ o = .string out ∧ out.size ≤ 1 + 2 * k ∧ Hid (out.data.toList = 34 :: quoteL (s.data.toList.take k))) (fun _ i => s.size - (intOf i).toNat)
  case atStart => exact ⟨0, ⟨#[34]⟩, Nat.zero_le _, rfl, rfl, by decide, rfl⟩
  case round =>
    obtain ⟨k, out, hk, rfl, rfl, ho, hout⟩ := hrel
    by_cases hlt : k < s.size
    · obtain ⟨c, hc, hbc⟩ := byteAt_some s k hlt
      rw [byteAt_get s k hlt] at hbc
      obtain ⟨q, hq⟩ : ∃ q, q = k + 1 := ⟨_, rfl⟩
      have HQQ := hidn hq
      have hkq : (k : Int) + 1 = (q : Int) := by omega
      have hq1 : k ≤ q := by omega
      have hq2 : q ≤ s.size := by omega
      have HBC := hidn hbc
      have HQ := hidn (quote_take _ _ _ hc)
      have HX : Hid ((s.extract k q).data.toList = [c]) := hidn (by rw [hq]; exact extract_one s k c hc)
      have hxs : (s.extract k q).size = 1 := by rw [Lib.size_eq, HX.out]; rfl
      rw [← hq] at HQ
      clear hbc hc hq
      have hcc : (((s[k]'hlt).toNat : Int) = 34) ∨ (((s[k]'hlt).toNat : Int) = 92) ∨ (((s[k]'hlt).toNat : Int) ≠ 34 ∧ ((s[k]'hlt).toNat : Int) ≠ 92) := by omega
      have hmk : Hid (markB c = markZ ((s[k]'hlt).toNat : Int)) := hidn (by rw [markB_nat, HBC.out])
      have hone : Hid (∀ W : ByteArray, (W ++ ⟨#[92]⟩).data.toList = W.data.toList ++ [92]) := hidn (fun W => append_list W _)
      rcases hcc with h1 | h1 | ⟨h1, h2⟩
      · have d1 : (((s[k]'hlt).toNat : Int) == 34) = true := beq_iff_eq.2 h1
        have HM : Hid (markB c = true) := hidn (by rw [hmk.out, h1]; rfl)
        clear h1 hmk
        go_wp2
        exact ⟨⟨q, _, hq2, rfl, rfl, by simp only [ByteArray.size_append', hxs]; show out.size + 1 + 1 ≤ _; have := HQQ.out; omega, by
          show (_ : List UInt8) = _
          rw [append_list, append_list, hout.out, HX.out, HQ.out, HM.out]; simp⟩, by simp [intOf]; have := HQQ.out; omega⟩
      · have d1 : (((s[k]'hlt).toNat : Int) == 34) = false := beq_eq_false_iff_ne.2 (by omega)
        have d2 : (((s[k]'hlt).toNat : Int) == 92) = true := beq_iff_eq.2 h1
        have HM : Hid (markB c = true) := hidn (by rw [hmk.out, h1]; rfl)
        clear h1 hmk
        go_wp2
        exact ⟨⟨q, _, hq2, rfl, rfl, by simp only [ByteArray.size_append', hxs]; show out.size + 1 + 1 ≤ _; have := HQQ.out; omega, by
          show (_ : List UInt8) = _
          rw [append_list, append_list, hout.out, HX.out, HQ.out, HM.out]; simp⟩, by simp [intOf]; have := HQQ.out; omega⟩
      · have d1 : (((s[k]'hlt).toNat : Int) == 34) = false := beq_eq_false_iff_ne.2 h1
        have d2 : (((s[k]'hlt).toNat : Int) == 92) = false := beq_eq_false_iff_ne.2 h2
        have HM : Hid (markB c = false) := hidn (by rw [hmk.out]; unfold markZ; simp [h1, h2])
        clear h1 h2 hmk
        go_wp2
        exact ⟨⟨q, _, hq2, rfl, rfl, by simp only [ByteArray.size_append', hxs]; have := HQQ.out; omega, by
          show (_ : List UInt8) = _
          rw [append_list, hout.out, HX.out, HQ.out, HM.out]; simp⟩, by simp [intOf]; have := HQQ.out; omega⟩
    · obtain rfl : k = s.size := by omega
      have HF : Hid (out ++ ⟨#[34]⟩ = ⟨(quoted s).toArray⟩) := hidn (bytes_eq (by
        rw [append_list, hout.out, List.take_of_length_le (by rw [hsl.out]; omega)]; rfl))
      clear hout
      go_wp2
      go_ret
      exact ⟨by rw [← HF.out]; rfl, rfl⟩
end Go.Proofs.Ytkcmaneibfambaa
