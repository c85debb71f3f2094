/- UTF-8: what was read at a place is the code point's bytes; the bytes of a code point are read as it. -/
import Derived.Test.YtpabojmmfobbcaaLabMath
namespace Go.Proofs.Ytpabojmmfobbcaa
open Go.RowKit
set_option linter.unusedVariables false
theorem size_list (b : ByteArray) : b.size = b.data.toList.length := rfl
theorem get_list (s : ByteArray) (i : Nat) (h : i < s.size) : s.data.toList[i]? = some (s.get! i) := by
  have h' : i < s.data.size := h
  rw [Array.getElem?_toList, Array.getElem?_eq_getElem h']
  show some _ = some (s.data[i]!)
  rw [getElem!_pos s.data i h']
theorem u8_of (b : UInt8) (n : Nat) (h : n = b.toNat) : UInt8.ofNat n = b := by
  rw [h]; exact UInt8.ofNat_toNat
theorem drop_get (s : ByteArray) (i : Nat) (h : i < s.size) : s.data.toList.drop i = s.get! i :: s.data.toList.drop (i + 1) := by
  have h1 := get_list s i h
  obtain ⟨h2, h3⟩ := List.getElem?_eq_some_iff.1 h1
  rw [List.drop_eq_getElem_cons h2, h3]
theorem enc1 (b0 : UInt8) (c : Nat) (hc : c = b0.toNat) (h : c < 128) : (Utf8.encode (c : Int)).data.toList = [b0] ∧ Utf8.valid (c : Int) = true := by
  have hv : Utf8.valid (c : Int) = true := by simp [Utf8.valid]; omega
  refine ⟨?_, hv⟩
  unfold Utf8.encode
  simp only [hv, if_true, Int.toNat_natCast]
  rw [if_pos (by omega)]
  show [UInt8.ofNat c] = [b0]
  rw [u8_of b0 c hc]
theorem enc2 (b0 b1 : UInt8) (c : Nat) (h0 : b0.toNat / 32 = 6) (h1 : b1.toNat / 64 = 2) (hc : c = b0.toNat % 32 * 64 + b1.toNat % 64) (h : 128 ≤ c) : (Utf8.encode (c : Int)).data.toList = [b0, b1] ∧ Utf8.valid (c : Int) = true := by
  have e0 := b0.toNat_lt
  have e1 := b1.toNat_lt
  have hv : Utf8.valid (c : Int) = true := by simp [Utf8.valid]; omega
  refine ⟨?_, hv⟩
  unfold Utf8.encode
  simp only [hv, if_true, Int.toNat_natCast]
  rw [if_neg (by omega), if_pos (by omega)]
  show [UInt8.ofNat (192 + c / 64), UInt8.ofNat (128 + c % 64)] = [b0, b1]
  rw [u8_of b0 _ (by omega), u8_of b1 _ (by omega)]
theorem enc3 (b0 b1 b2 : UInt8) (c : Nat) (h0 : b0.toNat / 16 = 14) (h1 : b1.toNat / 64 = 2) (h2 : b2.toNat / 64 = 2) (hc : c = b0.toNat % 16 * 4096 + b1.toNat % 64 * 64 + b2.toNat % 64) (h : 2048 ≤ c) (hv : Utf8.valid (c : Int) = true) : (Utf8.encode (c : Int)).data.toList = [b0, b1, b2] := by
  have e0 := b0.toNat_lt
  have e1 := b1.toNat_lt
  have e2 := b2.toNat_lt
  unfold Utf8.encode
  simp only [hv, if_true, Int.toNat_natCast]
  rw [if_neg (by omega), if_neg (by omega), if_pos (by omega)]
  show [UInt8.ofNat (224 + c / 4096), UInt8.ofNat (128 + c / 64 % 64), UInt8.ofNat (128 + c % 64)] = [b0, b1, b2]
  rw [u8_of b0 _ (by omega), u8_of b1 _ (by omega), u8_of b2 _ (by omega)]
theorem enc4 (b0 b1 b2 b3 : UInt8) (c : Nat) (h0 : b0.toNat / 8 = 30) (h1 : b1.toNat / 64 = 2) (h2 : b2.toNat / 64 = 2) (h3 : b3.toNat / 64 = 2) (hc : c = b0.toNat % 8 * 262144 + b1.toNat % 64 * 4096 + b2.toNat % 64 * 64 + b3.toNat % 64) (h : 65536 ≤ c) (hv : Utf8.valid (c : Int) = true) : (Utf8.encode (c : Int)).data.toList = [b0, b1, b2, b3] := by
  have e0 := b0.toNat_lt
  have e1 := b1.toNat_lt
  have e2 := b2.toNat_lt
  have e3 := b3.toNat_lt
  unfold Utf8.encode
  simp only [hv, if_true, Int.toNat_natCast]
  rw [if_neg (by omega), if_neg (by omega), if_neg (by omega)]
  show [UInt8.ofNat (240 + c / 262144), UInt8.ofNat (128 + c / 4096 % 64), UInt8.ofNat (128 + c / 64 % 64), UInt8.ofNat (128 + c % 64)] = [b0, b1, b2, b3]
  rw [u8_of b0 _ (by omega), u8_of b1 _ (by omega), u8_of b2 _ (by omega), u8_of b3 _ (by omega)]
/-- What was read, if it is no fault, is the code point's bytes. -/
theorem utf_split (s : ByteArray) (pos : Nat) (hp : pos < s.size) (hr : (Utf8.decode s pos).1 ≠ 65533) :
    s.data.toList.drop pos = (Utf8.encode ((Utf8.decode s pos).1 : Int)).data.toList ++ s.data.toList.drop (pos + (Utf8.decode s pos).2) ∧ Utf8.valid ((Utf8.decode s pos).1 : Int) = true := by
  unfold Utf8.decode at hr ⊢
  simp only [Utf8.runeError, Nat.add_zero] at hr ⊢
  split at hr
  · next h1 =>
    rw [if_pos h1]
    obtain ⟨e, hv⟩ := enc1 (s.get! pos) _ rfl h1
    exact ⟨by rw [e, drop_get s pos hp]; rfl, hv⟩
  · next h1 =>
    rw [if_neg h1]
    split at hr
    · next h2 =>
      rw [if_pos h2]
      simp only [Bool.and_eq_true, beq_iff_eq, decide_eq_true_eq] at h2
      split at hr
      · next h3 =>
        rw [if_pos h3]
        obtain ⟨e, hv⟩ := enc2 (s.get! pos) (s.get! (pos + 1)) _ h2.1 h2.2.2 rfl h3
        exact ⟨by rw [e, drop_get s pos hp, drop_get s (pos + 1) h2.2.1]; rfl, hv⟩
      · exact absurd rfl hr
    · next h2 =>
      rw [if_neg h2]
      split at hr
      · next h3 =>
        rw [if_pos h3]
        simp only [Bool.and_eq_true, beq_iff_eq, decide_eq_true_eq] at h3
        split at hr
        · next h4 =>
          rw [if_pos h4]
          simp only [Bool.and_eq_true, decide_eq_true_eq] at h4
          have e := enc3 (s.get! pos) (s.get! (pos + 1)) (s.get! (pos + 2)) _ h3.1.1 h3.1.2.2 h3.2.2 rfl h4.1 h4.2
          exact ⟨by rw [e, drop_get s pos hp, drop_get s (pos + 1) h3.1.2.1, drop_get s (pos + 1 + 1) h3.2.1]; rfl, h4.2⟩
        · exact absurd rfl hr
      · next h3 =>
        rw [if_neg h3]
        split at hr
        · next h4 =>
          rw [if_pos h4]
          simp only [Bool.and_eq_true, beq_iff_eq, decide_eq_true_eq] at h4
          split at hr
          · next h5 =>
            rw [if_pos h5]
            simp only [Bool.and_eq_true, decide_eq_true_eq] at h5
            have e := enc4 (s.get! pos) (s.get! (pos + 1)) (s.get! (pos + 2)) (s.get! (pos + 3)) _ h4.1.1.1 h4.1.1.2.2 h4.1.2.2 h4.2.2 rfl h5.1 h5.2
            exact ⟨by rw [e, drop_get s pos hp, drop_get s (pos + 1) h4.1.1.2.1, drop_get s (pos + 1 + 1) h4.1.2.1, drop_get s (pos + 1 + 1 + 1) h4.2.1]; rfl, h5.2⟩
          · exact absurd rfl hr
        · exact absurd rfl hr
/-- The bytes of a code point are read as it. -/
theorem utf_read (t : ByteArray) (p : Nat) (c : Nat) (hv : Utf8.valid (c : Int) = true) (r : List UInt8) (h : t.data.toList.drop p = (Utf8.encode (c : Int)).data.toList ++ r) : Utf8.decode t p = (c, (Utf8.encode (c : Int)).size) := by
  have hsz := size_list (Utf8.encode (c : Int))
  have hat : ∀ k b, ((Utf8.encode (c : Int)).data.toList ++ r)[k]? = some b → p + k < t.size ∧ t.get! (p + k) = b := by
    intro k b hk
    rw [← h, List.getElem?_drop] at hk
    have hlt : p + k < t.size := (List.getElem?_eq_some_iff.1 hk).1
    rw [get_list t _ hlt] at hk
    exact ⟨hlt, Option.some.inj hk⟩
  rw [hsz]
  have hv' : (c < 55296) ∨ (57344 ≤ c ∧ c ≤ 1114111) := by
    have hv2 := hv
    unfold Utf8.valid at hv2
    simp only [Bool.or_eq_true, Bool.and_eq_true, decide_eq_true_eq] at hv2
    omega
  revert hat
  unfold Utf8.encode
  simp only [hv, if_true, Int.toNat_natCast]
  split
  · next h1 =>
    intro hat
    obtain ⟨l0, g0⟩ := hat 0 _ rfl
    have n0 : (t.get! p).toNat = c := by rw [Nat.add_zero] at g0; rw [g0]; exact UInt8.toNat_ofNat_of_lt' (by simp [UInt8.size]; omega)
    unfold Utf8.decode
    simp only [Nat.add_zero, n0]
    rw [if_pos h1]
    rfl
  · next h1 =>
    split
    · next h2 =>
      intro hat
      obtain ⟨l0, g0⟩ := hat 0 _ rfl
      obtain ⟨l1, g1⟩ := hat 1 _ rfl
      have n0 : (t.get! p).toNat = 192 + c / 64 := by rw [Nat.add_zero] at g0; rw [g0]; exact UInt8.toNat_ofNat_of_lt' (by simp [UInt8.size]; omega)
      have n1 : (t.get! (p + 1)).toNat = 128 + c % 64 := by rw [g1]; exact UInt8.toNat_ofNat_of_lt' (by simp [UInt8.size]; omega)
      unfold Utf8.decode
      simp only [Nat.add_zero, n0, n1]
      rw [if_neg (by omega), if_pos (by simp; omega), if_pos (by omega)]
      refine Prod.ext ?_ rfl
      show (192 + c / 64) % 32 * 64 + (128 + c % 64) % 64 = c
      omega
    · next h2 =>
      split
      · next h3 =>
        intro hat
        obtain ⟨l0, g0⟩ := hat 0 _ rfl
        obtain ⟨l1, g1⟩ := hat 1 _ rfl
        obtain ⟨l2, g2⟩ := hat 2 _ rfl
        have n0 : (t.get! p).toNat = 224 + c / 4096 := by rw [Nat.add_zero] at g0; rw [g0]; exact UInt8.toNat_ofNat_of_lt' (by simp [UInt8.size]; omega)
        have n1 : (t.get! (p + 1)).toNat = 128 + c / 64 % 64 := by rw [g1]; exact UInt8.toNat_ofNat_of_lt' (by simp [UInt8.size]; omega)
        have n2 : (t.get! (p + 2)).toNat = 128 + c % 64 := by rw [g2]; exact UInt8.toNat_ofNat_of_lt' (by simp [UInt8.size]; omega)
        have hcc : (224 + c / 4096) % 16 * 4096 + (128 + c / 64 % 64) % 64 * 64 + (128 + c % 64) % 64 = c := by omega
        unfold Utf8.decode
        simp only [Nat.add_zero, n0, n1, n2, hcc]
        rw [if_neg (by omega), if_neg (by simp; omega), if_pos (by simp; omega), if_pos (by rw [hv]; simp; omega)]
        rfl
      · next h3 =>
        intro hat
        obtain ⟨l0, g0⟩ := hat 0 _ rfl
        obtain ⟨l1, g1⟩ := hat 1 _ rfl
        obtain ⟨l2, g2⟩ := hat 2 _ rfl
        obtain ⟨l3, g3⟩ := hat 3 _ rfl
        have n0 : (t.get! p).toNat = 240 + c / 262144 := by rw [Nat.add_zero] at g0; rw [g0]; exact UInt8.toNat_ofNat_of_lt' (by simp [UInt8.size]; omega)
        have n1 : (t.get! (p + 1)).toNat = 128 + c / 4096 % 64 := by rw [g1]; exact UInt8.toNat_ofNat_of_lt' (by simp [UInt8.size]; omega)
        have n2 : (t.get! (p + 2)).toNat = 128 + c / 64 % 64 := by rw [g2]; exact UInt8.toNat_ofNat_of_lt' (by simp [UInt8.size]; omega)
        have n3 : (t.get! (p + 3)).toNat = 128 + c % 64 := by rw [g3]; exact UInt8.toNat_ofNat_of_lt' (by simp [UInt8.size]; omega)
        have hcc : (240 + c / 262144) % 8 * 262144 + (128 + c / 4096 % 64) % 64 * 4096 + (128 + c / 64 % 64) % 64 * 64 + (128 + c % 64) % 64 = c := by omega
        unfold Utf8.decode
        simp only [Nat.add_zero, n0, n1, n2, n3, hcc]
        rw [if_neg (by omega), if_neg (by simp; omega), if_neg (by simp; omega), if_pos (by simp; omega), if_pos (by rw [hv]; simp; omega)]
        rfl
end Go.Proofs.Ytpabojmmfobbcaa
