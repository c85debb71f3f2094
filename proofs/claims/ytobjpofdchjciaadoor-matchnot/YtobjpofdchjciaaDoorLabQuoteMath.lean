/- Quoted texts, plainly. -/
import Derived.Test.YtobjpofdchjciaaDoorLabMath
import Derived.Lib.DecodeN
namespace Go.Proofs.YtobjpofdchjciaaDoor
open Go.RowKit
set_option linter.unusedVariables false

def markB (c : UInt8) : Bool := c == 34 || c == 92
def quoteL : List UInt8 → List UInt8
  | [] => []
  | c :: t => if markB c then 92 :: c :: quoteL t else c :: quoteL t
def quoted (s : ByteArray) : List UInt8 := 34 :: quoteL s.data.toList ++ [34]
theorem quoteL_append (a b : List UInt8) : quoteL (a ++ b) = quoteL a ++ quoteL b := by
  induction a with
  | nil => rfl
  | cons c t ih => simp only [List.cons_append, quoteL]; split <;> simp [ih]
theorem quoteL_plain (l : List UInt8) (h : ∀ c ∈ l, markB c = false) : quoteL l = l := by
  induction l with
  | nil => rfl
  | cons c t ih =>
    have := h c (by simp)
    simp only [quoteL, this]
    rw [ih (fun x hx => h x (by simp [hx]))]
    rfl
theorem quoteL_len (l : List UInt8) : l.length ≤ (quoteL l).length ∧ (quoteL l).length ≤ 2 * l.length := by
  induction l with
  | nil => exact ⟨Nat.le_refl _, Nat.le_refl _⟩
  | cons c t ih => simp only [quoteL]; split <;> simp <;> omega
theorem take_part (L : List UInt8) (p q : Nat) (h : p ≤ q) : L.take q = L.take p ++ (L.drop p).take (q - p) := by
  obtain ⟨d, rfl⟩ : ∃ d, q = p + d := ⟨q - p, by omega⟩
  rw [List.take_add, show p + d - p = d from by omega]
theorem drop_part (L : List UInt8) (f p q : Nat) (hf : f ≤ p) (h : p ≤ q) : (L.drop f).take (q - f) = (L.drop f).take (p - f) ++ (L.drop p).take (q - p) := by
  rw [take_part (L.drop f) (p - f) (q - f) (by omega), List.drop_drop, show f + (p - f) = p from by omega, show q - f - (p - f) = q - p from by omega]
theorem q_skip (L acc : List UInt8) (f p q : Nat) (hf : f ≤ p) (hq : p ≤ q) (hn : ∀ c ∈ (L.drop p).take (q - p), markB c = false)
    (h : acc ++ (L.drop f).take (p - f) = 34 :: quoteL (L.take p)) : acc ++ (L.drop f).take (q - f) = 34 :: quoteL (L.take q) := by
  rw [drop_part L f p q hf hq, take_part L p q hq, quoteL_append, quoteL_plain _ hn, ← List.append_assoc, h]
  rfl
theorem q_mark (L acc : List UInt8) (f p : Nat) (c : UInt8) (hf : f ≤ p) (hc : L[p]? = some c) (hm : markB c = true)
    (h : acc ++ (L.drop f).take (p - f) = 34 :: quoteL (L.take p)) : (acc ++ (L.drop f).take (p - f) ++ [92]) ++ (L.drop p).take (p + 1 - p) = 34 :: quoteL (L.take (p + 1)) := by
  have hlt : p < L.length := (List.getElem?_eq_some_iff.1 hc).1
  have hcp : L[p] = c := (List.getElem?_eq_some_iff.1 hc).2
  have e1 : (L.drop p).take (p + 1 - p) = [c] := by
    rw [show p + 1 - p = 1 from by omega, List.drop_eq_getElem_cons hlt, hcp]; rfl
  rw [h, take_part L p (p + 1) (by omega), e1, quoteL_append]
  simp [quoteL, hm]
theorem q_end (L acc : List UInt8) (f : Nat) (hf : f ≤ L.length) (h : acc ++ (L.drop f).take (L.length - f) = 34 :: quoteL (L.take L.length)) : acc ++ L.drop f = 34 :: quoteL L := by
  rw [List.take_of_length_le (by simp), List.take_length] at h; exact h
theorem q_len (L acc : List UInt8) (f p : Nat) (h : acc ++ (L.drop f).take (p - f) = 34 :: quoteL (L.take p)) : acc.length ≤ 1 + 2 * p := by
  have h1 := congrArg List.length h
  have h2 := (quoteL_len (L.take p)).2
  simp at h1 h2
  omega
theorem byteAt_of (s : ByteArray) (i : Nat) (c : UInt8) (h : s.data.toList[i]? = some c) : byteAt s i = c.toNat := by
  unfold byteAt; rw [List.getD_eq_getElem?_getD, h]; rfl
theorem byteAt_some (s : ByteArray) (i : Nat) (h : i < s.size) : ∃ c, s.data.toList[i]? = some c ∧ byteAt s i = c.toNat := by
  have h' : i < s.data.toList.length := by rw [← Lib.size_eq]; exact h
  exact ⟨_, List.getElem?_eq_getElem h', byteAt_of s i _ (List.getElem?_eq_getElem h')⟩
theorem byteAt_bang (s : ByteArray) (i : Nat) : byteAt s i = (s.get! i).toNat := by
  unfold byteAt
  cases s with
  | mk d =>
    show (d.toList.getD i 0).toNat = (d[i]!).toNat
    rw [List.getD_eq_getElem?_getD]
    simp [getElem!_def]
    cases d[i]? <;> rfl
theorem markB_nat (c : UInt8) : markB c = markZ (c.toNat : Int) := by
  unfold markB markZ
  rw [Bool.eq_iff_iff]
  simp [← UInt8.toNat_inj]
  omega
theorem markB_high (c : UInt8) (h : 128 ≤ c.toNat) : markB c = false := by
  rw [markB_nat]; exact markZ_high _ (by omega)

set_option maxHeartbeats 1000000 in
/-- The bytes of a code point that is no byte below 128 are none below 128, and lie within the text. -/
theorem decode_skip (s : ByteArray) (pos : Nat) (h : pos < s.size) (hb : 128 ≤ byteAt s pos) : pos + (Utf8.decode s pos).2 ≤ s.size ∧ ∀ j, pos ≤ j → j < pos + (Utf8.decode s pos).2 → 128 ≤ byteAt s j := by
  have hd := Lib.decode_at s pos
  rw [← byteAt_bang, ← byteAt_bang, ← byteAt_bang, ← byteAt_bang] at hd
  have key : ∀ n b0 b1 b2 b3 : Nat, 1 ≤ n → 128 ≤ b0 → (Lib.decodeN n b0 b1 b2 b3).2 ≤ n ∧ (1 < (Lib.decodeN n b0 b1 b2 b3).2 → 128 ≤ b1) ∧ (2 < (Lib.decodeN n b0 b1 b2 b3).2 → 128 ≤ b2) ∧ (3 < (Lib.decodeN n b0 b1 b2 b3).2 → 128 ≤ b3) ∧ (Lib.decodeN n b0 b1 b2 b3).2 ≤ 4 := by
    intro n b0 b1 b2 b3 hn h0
    unfold Lib.decodeN
    repeat' split
    all_goals (simp only; omega)
  have k := key (s.size - pos) (byteAt s pos) (byteAt s (pos + 1)) (byteAt s (pos + 2)) (byteAt s (pos + 3)) (by omega) hb
  rw [← hd] at k
  obtain ⟨k0, k1, k2, k3, k4⟩ := k
  refine ⟨by omega, fun j hj1 hj2 => ?_⟩
  rcases Nat.lt_or_ge j (pos + 1) with a | a
  · rw [show j = pos from by omega]; exact hb
  · rcases Nat.lt_or_ge j (pos + 2) with b | b
    · rw [show j = pos + 1 from by omega]; exact k1 (by omega)
    · rcases Nat.lt_or_ge j (pos + 3) with c | c
      · rw [show j = pos + 2 from by omega]; exact k2 (by omega)
      · rw [show j = pos + 3 from by omega]; exact k3 (by omega)
/-- What one step of a range over a text does, with an eye to the marks. -/
theorem step_mark (s : ByteArray) (pos : Nat) (h : pos < s.size) :
    (markZ ((Utf8.decode s pos).1 : Int) = true ∧ (Utf8.decode s pos).2 = 1 ∧ ∃ c, s.data.toList[pos]? = some c ∧ markB c = true ∧ (Utf8.decode s pos).1 = c.toNat) ∨
    (markZ ((Utf8.decode s pos).1 : Int) = false ∧ pos + (Utf8.decode s pos).2 ≤ s.size ∧ ∀ c ∈ (s.data.toList.drop pos).take (pos + (Utf8.decode s pos).2 - pos), markB c = false) := by
  obtain ⟨c, hc, hbc⟩ := byteAt_some s pos h
  have hlt : pos < s.data.toList.length := (List.getElem?_eq_some_iff.1 hc).1
  have hcp : s.data.toList[pos] = c := (List.getElem?_eq_some_iff.1 hc).2
  rcases rune_low s pos h with ⟨h1, h2, h3⟩ | ⟨h1, h2, h3⟩
  · by_cases hm : markB c = true
    · left
      refine ⟨by rw [h1, hbc, ← markB_nat]; exact hm, h2, c, hc, hm, by rw [h1, hbc]⟩
    · right
      refine ⟨by rw [h1, hbc, ← markB_nat]; simpa using hm, by omega, fun x hx => ?_⟩
      rw [h2, show pos + 1 - pos = 1 from by omega, List.drop_eq_getElem_cons hlt, hcp] at hx
      simp at hx
      subst hx
      simpa using hm
  · right
    obtain ⟨k1, k2⟩ := decode_skip s pos h h3
    refine ⟨markZ_high _ (by omega), k1, fun x hx => ?_⟩
    obtain ⟨i, hi⟩ := List.mem_iff_getElem?.1 hx
    rw [List.getElem?_take] at hi
    split at hi
    · rw [List.getElem?_drop] at hi
      have := k2 (pos + i) (by omega) (by omega)
      rw [byteAt_of s (pos + i) x hi] at this
      exact markB_high x this
    · cases hi
end Go.Proofs.YtobjpofdchjciaaDoor
