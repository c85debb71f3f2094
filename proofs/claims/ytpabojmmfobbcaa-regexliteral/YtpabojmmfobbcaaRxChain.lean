/- A text, each code point behind a backslash: its bytes, its signs. -/
import Derived.Test.YtpabojmmfobbcaaRxUtf
import Derived.Test.YtpabojmmfobbcaaRxRef
namespace Go.Proofs.Ytpabojmmfobbcaa
open Go.RowKit Go.Joins
set_option linter.unusedVariables false
/-- A text's code points. -/
def runesL (s : ByteArray) : Nat → Nat → List Nat
  | 0, _ => []
  | f + 1, pos => if pos < s.size then (Utf8.decode s pos).1 :: runesL s f (pos + (Utf8.decode s pos).2) else []
def encB (c : Nat) : List UInt8 := (Utf8.encode (c : Int)).data.toList
def quoB (rs : List Nat) : List UInt8 := rs.flatMap fun r => 92 :: encB r
theorem encB_def (c : Nat) : (Utf8.encode (c : Int)).data.toList = encB c := by rw [encB]
theorem q92 : (⟨#[92]⟩ : ByteArray).data.toList = [92] := rfl
theorem encB_pos (c : Nat) : 1 ≤ (encB c).length := by
  rw [← encB_def, ← size_list]
  have key : ∀ c : Nat, 1 ≤ (if c < 0x80 then (⟨#[UInt8.ofNat c]⟩ : ByteArray) else if c < 0x800 then ⟨#[UInt8.ofNat (0xC0 + c / 64), UInt8.ofNat (0x80 + c % 64)]⟩ else if c < 0x10000 then ⟨#[UInt8.ofNat (0xE0 + c / 4096), UInt8.ofNat (0x80 + c / 64 % 64), UInt8.ofNat (0x80 + c % 64)]⟩ else ⟨#[UInt8.ofNat (0xF0 + c / 262144), UInt8.ofNat (0x80 + c / 4096 % 64), UInt8.ofNat (0x80 + c / 64 % 64), UInt8.ofNat (0x80 + c % 64)]⟩).size := by
    intro c
    repeat' split
    all_goals exact Nat.succ_le_succ (Nat.zero_le _)
  rw [Utf8.encode]
  exact key _
theorem enc92 : encB 92 = [92] := by
  rw [← encB_def]
  exact (enc1 92 92 rfl (by decide)).1
attribute [irreducible] encB
theorem flat_cons (f : Nat → List UInt8) (r : Nat) (rs : List Nat) : ((r :: rs).flatMap fun r => 92 :: f r) = 92 :: (f r ++ rs.flatMap fun r => 92 :: f r) := by simp
theorem quoB_cons (r : Nat) (rs : List Nat) : quoB (r :: rs) = 92 :: (encB r ++ quoB rs) := by
  unfold quoB
  exact flat_cons encB r rs
theorem quoteL_bytes (s : ByteArray) (f : Nat) : ∀ (pos : Nat) (acc : ByteArray), (quoteL s f pos acc).data.toList = acc.data.toList ++ quoB (runesL s f pos) := by
  induction f with
  | zero => intro pos acc; simp only [quoteL, runesL, quoB, List.flatMap_nil, List.append_nil]
  | succ f ih =>
    intro pos acc
    unfold quoteL runesL
    split
    · rw [ih, ByteArray.data_append, Array.toList_append, ByteArray.data_append, Array.toList_append]
      rw [encB_def, quoB_cons, List.append_assoc, List.append_assoc]
      generalize encB _ ++ quoB _ = zz
      rfl
    · simp only [quoB, List.flatMap_nil, List.append_nil]
theorem quoteS_bytes (s : ByteArray) : (quoteS s).data.toList = quoB (runesL s (s.size + 1) 0) := by
  unfold quoteS
  rw [quoteL_bytes]
  rfl
theorem runes_valid (s : ByteArray) (f : Nat) : ∀ pos, ∀ r ∈ runesL s f pos, Utf8.valid (r : Int) = true := by
  induction f with
  | zero => intro pos r h; simp [runesL] at h
  | succ f ih =>
    intro pos r h
    unfold runesL at h
    split at h
    · next hp =>
      rw [List.mem_cons] at h
      rcases h with rfl | h
      · by_cases he : (Utf8.decode s pos).1 = 65533
        · rw [he]; decide
        · exact (utf_split s pos hp he).2
      · exact ih _ r h
    · simp at h
/-- The code points' own bytes are the text, if none is a fault. -/
theorem runes_bytes (s : ByteArray) (f : Nat) : ∀ pos, s.size < pos + f → 65533 ∉ runesL s f pos → s.data.toList.drop pos = (runesL s f pos).flatMap encB := by
  induction f with
  | zero => intro pos h _; exact List.drop_of_length_le (by rw [← size_list]; omega)
  | succ f ih =>
    intro pos h hn
    unfold runesL at hn ⊢
    split
    · next hp =>
      rw [if_pos hp] at hn
      rw [List.mem_cons, not_or] at hn
      have hd := (utf_split s pos hp (fun e => hn.1 e.symm)).1
      have hw := width_pos s pos hp
      rw [List.flatMap_cons, hd, ih _ (by omega) hn.2, encB_def]
    · next hp =>
      exact List.drop_of_length_le (by rw [← size_list]; omega)
theorem drop_len {t : ByteArray} {p : Nat} {a r : List UInt8} (h : t.data.toList.drop p = a ++ r) : t.data.toList.drop (p + a.length) = r := by
  rw [← List.drop_drop, h, List.drop_left]
theorem drop_lt {t : ByteArray} {p : Nat} {a : UInt8} {r : List UInt8} (h : t.data.toList.drop p = a :: r) : p < t.size := by
  have h1 := congrArg List.length h
  rw [List.length_drop, List.length_cons, ← size_list] at h1
  omega
theorem utf_read92 {t : ByteArray} {p : Nat} {r : List UInt8} (h : t.data.toList.drop p = 92 :: r) : Utf8.decode t p = (92, 1) := by
  have h1 := utf_read t p 92 (by decide) r (by rw [encB_def, enc92]; exact h)
  rw [h1, size_list, encB_def, enc92]
  rfl
theorem dec92 {t : ByteArray} {p : Nat} {r : List UInt8} (h : t.data.toList.drop p = 92 :: r) : Utf8.decode t p = (92, 1) :=
  utf_read92 h
theorem decB {t : ByteArray} {p c : Nat} {r : List UInt8} (hv : Utf8.valid (c : Int) = true) (h : t.data.toList.drop p = encB c ++ r) : Utf8.decode t p = (c, (encB c).length) := by
  have h1 := utf_read t p c hv r (by rw [encB_def]; exact h)
  rw [h1, size_list, encB_def]
theorem dropB_lt {t : ByteArray} {p c : Nat} {r : List UInt8} (h : t.data.toList.drop p = encB c ++ r) : p < t.size := by
  have h1 := congrArg List.length h
  have h2 := encB_pos c
  rw [List.length_drop, List.length_append, ← size_list] at h1
  omega
theorem scan_quo (t : ByteArray) (rs : List Nat) : ∀ (f p : Nat) (acc : List Sg), p ≤ t.size → (∀ r ∈ rs, Utf8.valid (r : Int) = true) → t.data.toList.drop p = quoB rs → t.size < p + f → scanL t f p false acc = if 65533 ∈ rs then none else some (acc ++ rs.map (fun r : Nat => (⟨(r : Int), true⟩ : Sg)), false) := by
  induction rs with
  | nil =>
    intro f p acc hpt _ h hf
    have hp : ¬ p < t.size := by
      have h1 := congrArg List.length h
      rw [List.length_drop, ← size_list, show quoB [] = [] from rfl, List.length_nil] at h1
      omega
    cases f with
    | zero => omega
    | succ f => rw [scanL, if_neg hp, if_neg (by simp)]; simp
  | cons r rs ih =>
    intro f p acc hpt hv h hf
    have h1 : t.data.toList.drop p = 92 :: (encB r ++ quoB rs) := by rw [h, quoB_cons]
    have hp1 := drop_lt h1
    have h2 : t.data.toList.drop (p + 1) = encB r ++ quoB rs := drop_len (a := [92]) h1
    have hp2 := dropB_lt h2
    have h3 := drop_len h2
    have hl := encB_pos r
    obtain ⟨f, rfl⟩ : ∃ g, f = g + 2 := ⟨f - 2, by omega⟩
    have hr := hv r (List.mem_cons_self)
    rw [scanL, if_pos hp1, dec92 h1]
    rw [if_neg (by decide), if_pos ⟨rfl, rfl⟩]
    rw [scanL, if_pos hp2, decB hr h2]
    by_cases he : r = 65533
    · rw [if_pos he, if_pos (by rw [he]; exact List.mem_cons_self)]
    · rw [if_neg he, if_neg (fun hh => by cases hh.2), ih f _ _ (by have h4 := congrArg List.length h2; rw [List.length_drop, List.length_append, ← size_list] at h4; omega) (fun x hx => hv x (List.mem_cons_of_mem _ hx)) h3 (by omega)]
      have e : (65533 ∈ r :: rs) = (65533 ∈ rs) := by
        rw [List.mem_cons]
        exact propext ⟨fun h => h.resolve_left (fun e => he e.symm), .inr⟩
      simp only [e, List.map_cons, List.append_assoc, List.singleton_append]
theorem has_quo (t : ByteArray) (rs : List Nat) : ∀ (f p : Nat), (∀ r ∈ rs, Utf8.valid (r : Int) = true) → t.data.toList.drop p = quoB rs → t.size < p + f → 65533 ∈ rs → hasRn t 65533 f p = true := by
  induction rs with
  | nil => intro f p _ _ _ h; cases h
  | cons r rs ih =>
    intro f p hv h hf hm
    have h1 : t.data.toList.drop p = 92 :: (encB r ++ quoB rs) := by rw [h, quoB_cons]
    have hp1 := drop_lt h1
    have h2 : t.data.toList.drop (p + 1) = encB r ++ quoB rs := drop_len (a := [92]) h1
    have hp2 := dropB_lt h2
    have h3 := drop_len h2
    have hl := encB_pos r
    obtain ⟨f, rfl⟩ : ∃ g, f = g + 2 := ⟨f - 2, by omega⟩
    have hr := hv r (List.mem_cons_self)
    rw [hasRn, if_pos hp1, dec92 h1]
    rw [if_neg (by decide)]
    rw [hasRn, if_pos hp2, decB hr h2]
    by_cases he : r = 65533
    · rw [if_pos (by rw [he]; rfl)]
    · rw [if_neg (by omega)]
      rw [List.mem_cons] at hm
      exact ih f _ (fun x hx => hv x (List.mem_cons_of_mem _ hx)) h3 (by omega) (hm.resolve_left (fun e => he e.symm))
end Go.Proofs.Ytpabojmmfobbcaa
