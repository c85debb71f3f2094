/- A text, each code point behind a backslash: its size, its signs, its literal. -/
import Derived.Test.YtpabojmmfobbcaaRxChain
import Derived.Test.YtpabojmmfobbcaaRxLit
namespace Go.Proofs.Ytpabojmmfobbcaa
open Go.RowKit Go.Joins
set_option linter.unusedVariables false
theorem encB_le (c : Nat) : (encB c).length ≤ 4 := by
  rw [← encB_def, ← size_list]
  exact enc_size _
theorem enc_fffd : (encB 65533).length = 3 := by
  rw [← encB_def]
  rw [enc3 239 191 189 65533 (by decide) (by decide) (by decide) (by decide) (by decide) (by decide)]
  rfl
theorem quoB_len (s : ByteArray) (f : Nat) : ∀ pos, pos ≤ s.size + 3 → (quoB (runesL s f pos)).length ≤ 4 * (s.size - pos) := by
  induction f with
  | zero => intro pos _; exact Nat.zero_le _
  | succ f ih =>
    intro pos hpos
    unfold runesL
    split
    · next hp =>
      have hw := width_pos s pos hp
      rw [quoB_cons, List.length_cons, List.length_append]
      by_cases he : (Utf8.decode s pos).1 = 65533
      · rw [he, enc_fffd]
        by_cases hle : pos + (Utf8.decode s pos).2 ≤ s.size + 3
        · have := ih (pos + (Utf8.decode s pos).2) hle
          omega
        · have h4 : (Utf8.decode s pos).2 ≤ 4 := by
            unfold Utf8.decode
            simp only [Utf8.runeError]
            repeat' split
            all_goals simp
          omega
      · have hd := (utf_split s pos hp he).1
        rw [encB_def] at hd
        have hl := congrArg List.length hd
        rw [List.length_drop, List.length_append, List.length_drop, ← size_list] at hl
        have hpp := encB_pos (Utf8.decode s pos).1
        have h4 : (Utf8.decode s pos).2 ≤ 4 := by
          unfold Utf8.decode
          simp only [Utf8.runeError]
          repeat' split
          all_goals simp
        have := ih (pos + (Utf8.decode s pos).2) (by omega)
        omega
    · exact Nat.zero_le _
/-- The signs of a text whose code points stand behind backslashes. -/
def sigs (rs : List Nat) : List Sg := rs.map fun r : Nat => (⟨(r : Int), true⟩ : Sg)
theorem quoteS_size (s : ByteArray) (hs : s.size ≤ 15) : (quoteS s).size ≤ 60 := by
  rw [size_list, quoteS_bytes]
  have := quoB_len s (s.size + 1) 0 (Nat.zero_le _)
  omega
theorem scanS_quote (s : ByteArray) (hs : s.size ≤ 15) : scanS (quoteS s) = if 65533 ∈ runesL s (s.size + 1) 0 then none else some (sigs (runesL s (s.size + 1) 0)) := by
  have h60 := quoteS_size s hs
  have hq := scan_quo (quoteS s) (runesL s (s.size + 1) 0) ((quoteS s).size + 1) 0 [] (Nat.zero_le _) (runes_valid s _ _) (by rw [List.drop_zero]; exact quoteS_bytes s) (by omega)
  unfold scanS
  rw [if_neg (by omega), hq]
  by_cases hm : 65533 ∈ runesL s (s.size + 1) 0
  · rw [if_pos hm, if_pos hm]
  · rw [if_neg hm, if_neg hm]
    simp only [List.nil_append, Bool.false_eq_true, if_false]
    rfl
theorem has_quote (s : ByteArray) (h : 65533 ∈ runesL s (s.size + 1) 0) : hasRn (quoteS s) 65533 ((quoteS s).size + 1) 0 = true :=
  has_quo (quoteS s) (runesL s (s.size + 1) 0) _ 0 (runes_valid s _ _) (by rw [List.drop_zero]; exact quoteS_bytes s) (by omega) h
theorem enc_lib (c : Nat) (hv : Utf8.valid (c : Int) = true) : Lib.encodeRune (c : Int) = encB c := by
  have hv' : (c < 55296) ∨ (57344 ≤ c ∧ c ≤ 1114111) := by
    have hv2 := hv
    unfold Utf8.valid at hv2
    simp only [Bool.or_eq_true, Bool.and_eq_true, decide_eq_true_eq] at hv2
    omega
  rw [← encB_def, Utf8.encode]
  simp only [hv, if_true, Int.toNat_natCast]
  unfold Lib.encodeRune
  by_cases c1 : c < 128
  · rw [Lib.encodeRuneZ_one (by omega) (by omega), if_pos c1]
    show [Nat.toUInt8 (c : Int).toNat] = [UInt8.ofNat c]
    rw [Int.toNat_natCast]
  · by_cases c2 : c < 2048
    · rw [Lib.encodeRuneZ_two (by omega) (by omega), if_neg c1, if_pos c2]
      show [Nat.toUInt8 (192 + (c : Int) / 64).toNat, Nat.toUInt8 (128 + (c : Int) % 64).toNat] = [UInt8.ofNat (192 + c / 64), UInt8.ofNat (128 + c % 64)]
      rw [show (192 + (c : Int) / 64).toNat = 192 + c / 64 by omega, show (128 + (c : Int) % 64).toNat = 128 + c % 64 by omega]
    · by_cases c3 : c < 65536
      · rw [Lib.encodeRuneZ_three (by omega), if_neg c1, if_neg c2, if_pos c3]
        show [Nat.toUInt8 (224 + (c : Int) / 4096).toNat, Nat.toUInt8 (128 + (c : Int) / 64 % 64).toNat, Nat.toUInt8 (128 + (c : Int) % 64).toNat] = [UInt8.ofNat (224 + c / 4096), UInt8.ofNat (128 + c / 64 % 64), UInt8.ofNat (128 + c % 64)]
        rw [show (224 + (c : Int) / 4096).toNat = 224 + c / 4096 by omega, show (128 + (c : Int) / 64 % 64).toNat = 128 + c / 64 % 64 by omega, show (128 + (c : Int) % 64).toNat = 128 + c % 64 by omega]
      · rw [Lib.encodeRuneZ_four (by omega) (by omega), if_neg c1, if_neg c2, if_neg c3]
        show [Nat.toUInt8 (240 + (c : Int) / 262144).toNat, Nat.toUInt8 (128 + (c : Int) / 4096 % 64).toNat, Nat.toUInt8 (128 + (c : Int) / 64 % 64).toNat, Nat.toUInt8 (128 + (c : Int) % 64).toNat] = [UInt8.ofNat (240 + c / 262144), UInt8.ofNat (128 + c / 4096 % 64), UInt8.ofNat (128 + c / 64 % 64), UInt8.ofNat (128 + c % 64)]
        rw [show (240 + (c : Int) / 262144).toNat = 240 + c / 262144 by omega, show (128 + (c : Int) / 4096 % 64).toNat = 128 + c / 4096 % 64 by omega, show (128 + (c : Int) / 64 % 64).toNat = 128 + c / 64 % 64 by omega, show (128 + (c : Int) % 64).toNat = 128 + c % 64 by omega]
theorem lit_sigs (rs : List Nat) (hv : ∀ r ∈ rs, Utf8.valid (r : Int) = true) : litL (sigs rs) = rs.flatMap encB := by
  induction rs with
  | nil => rfl
  | cons r rs ih =>
    have h1 := ih (fun x hx => hv x (List.mem_cons_of_mem _ hx))
    unfold litL sigs at h1 ⊢
    rw [List.map_cons, List.flatMap_cons, h1, List.flatMap_cons, enc_lib r (hv r List.mem_cons_self)]
/-- Of a text without a fault, what the quoted text's literal is. -/
theorem lit_quote (s : ByteArray) (h : 65533 ∉ runesL s (s.size + 1) 0) : (⟨(litL (sigs (runesL s (s.size + 1) 0))).toArray⟩ : ByteArray) = s := by
  have h1 := runes_bytes s (s.size + 1) 0 (by omega) h
  rw [lit_sigs _ (runes_valid s _ _), ← h1, List.drop_zero]
/-- Texts of the same code points are the same, if none is a fault. -/
theorem runes_same (s t : ByteArray) (h : 65533 ∉ runesL s (s.size + 1) 0) (he : runesL t (t.size + 1) 0 = runesL s (s.size + 1) 0) : t = s := by
  have h1 := runes_bytes s (s.size + 1) 0 (by omega) h
  have h2 := runes_bytes t (t.size + 1) 0 (by omega) (by rw [he]; exact h)
  rw [List.drop_zero] at h1 h2
  rw [he, ← h1] at h2
  have h3 := Array.toList_inj.1 h2
  cases s
  cases t
  simp only at h3
  rw [h3]
end Go.Proofs.Ytpabojmmfobbcaa
