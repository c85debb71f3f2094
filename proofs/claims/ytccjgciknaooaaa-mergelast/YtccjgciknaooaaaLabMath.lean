/- Labels, plainly: which names, values and lists may be; their order. -/
import Derived.WalkKit
import Derived.Laws.RangeString
import Derived.Laws.RangeAny
import Derived.Lib.Strings
namespace Go.Proofs.Ytccjgciknaooaaa
open Go.RowKit
set_option linter.unusedVariables false

theorem hidn {p : Prop} (h : p) : Hid p := h

abbrev Lab := ByteArray × ByteArray

/-- A number in Go's int32 is a letter's, a digit's. -/
def letZ (r : Int) : Bool := decide (97 ≤ r ∧ r ≤ 122 ∨ 65 ≤ r ∧ r ≤ 90 ∨ r = 95)
def digZ (r : Int) : Bool := decide (48 ≤ r ∧ r ≤ 57)
def markZ (r : Int) : Bool := decide (r = 34 ∨ r = 92)
def byteAt (s : ByteArray) (i : Nat) : Nat := (s.data.toList.getD i 0).toNat
def nameAt (i c : Nat) : Bool := letZ c || (decide (i ≠ 0) && digZ c)
def nameTo (s : ByteArray) (k : Nat) : Bool := (List.range k).all fun i => nameAt i (byteAt s i)
def nameOK (s : ByteArray) : Bool := decide (0 < s.size) && decide (s.size ≤ 24) && nameTo s s.size

theorem byteAt_get (s : ByteArray) (i : Nat) (h : i < s.size) : byteAt s i = (s[i]'h).toNat := by
  unfold byteAt
  have h' : i < s.data.toList.length := by rw [← Lib.size_eq]; exact h
  rw [List.getD_eq_getElem?_getD, List.getElem?_eq_getElem h']
  rfl
theorem byteAt_lt (s : ByteArray) (i : Nat) : byteAt s i < 256 := by
  unfold byteAt; exact UInt8.toNat_lt _
theorem nameTo_zero (s : ByteArray) : nameTo s 0 = true := rfl
theorem nameTo_succ (s : ByteArray) (k : Nat) : nameTo s (k + 1) = (nameTo s k && nameAt k (byteAt s k)) := by
  unfold nameTo; rw [List.range_succ, List.all_append]; simp
theorem nameTo_le (s : ByteArray) {k m : Nat} (h : k ≤ m) (hm : nameTo s m = true) : nameTo s k = true := by
  unfold nameTo at *
  rw [List.all_eq_true] at *
  intro i hi
  exact hm i (by rw [List.mem_range] at *; omega)
theorem nameOK_false (s : ByteArray) (k : Nat) (hk : k < s.size) (h : nameAt k (byteAt s k) = false) : nameOK s = false := by
  unfold nameOK
  have : nameTo s s.size = false := by
    rw [Bool.eq_false_iff]; intro h1
    have h2 := nameTo_le s (show k + 1 ≤ s.size by omega) h1
    rw [nameTo_succ, h] at h2; simp at h2
  simp [this]
theorem nameOK_true (s : ByteArray) (h0 : 0 < s.size) (h1 : s.size ≤ 24) (h : nameTo s s.size = true) : nameOK s = true := by
  unfold nameOK; simp [h0, h1, h]
theorem nameOK_size (s : ByteArray) (h : s.size = 0 ∨ 24 < s.size) : nameOK s = false := by
  unfold nameOK; rcases h with h | h <;> simp [h]
  omega

/-- What stands at a place of a text, as a number of a code point, is a byte below 128 just where the byte is. -/
theorem rune_low (s : ByteArray) (pos : Nat) (h : pos < s.size) : ((Utf8.decode s pos).1 = byteAt s pos ∧ (Utf8.decode s pos).2 = 1 ∧ byteAt s pos < 128) ∨ (128 ≤ (Utf8.decode s pos).1 ∧ 1 ≤ (Utf8.decode s pos).2 ∧ 128 ≤ byteAt s pos) := by
  rw [byteAt_get s pos h]
  by_cases ha : (s[pos]'h).toNat < 128
  · left; rw [decode_ascii s pos h ha]; exact ⟨rfl, rfl, ha⟩
  · right; have := decode_high s pos h (by omega); exact ⟨this.1, this.2, by omega⟩
theorem width_pos (s : ByteArray) (pos : Nat) (h : pos < s.size) : 1 ≤ (Utf8.decode s pos).2 := by
  rcases rune_low s pos h with h | h <;> omega
theorem letZ_high (r : Int) (h : 128 ≤ r) : letZ r = false := by unfold letZ; simp; omega
theorem digZ_high (r : Int) (h : 128 ≤ r) : digZ r = false := by unfold digZ; simp; omega
theorem markZ_high (r : Int) (h : 128 ≤ r) : markZ r = false := by unfold markZ; simp; omega
theorem nameAt_high (i c : Nat) (h : 128 ≤ c) : nameAt i c = false := by
  unfold nameAt; rw [letZ_high _ (by omega), digZ_high _ (by omega)]; simp

/-- Values. -/
def plainZ (r : Nat) : Bool := decide (¬ (r < 32) ∧ r ≠ 127 ∧ r ≠ 65533)
def plainFrom (s : ByteArray) : Nat → Nat → Bool
  | 0, _ => true
  | fuel + 1, pos => if pos < s.size then plainZ (Utf8.decode s pos).1 && plainFrom s fuel (pos + (Utf8.decode s pos).2) else true
def plainS (s : ByteArray) : Bool := plainFrom s s.size 0
def valueOK (s : ByteArray) : Bool := decide (0 < s.size) && decide (s.size ≤ 40) && plainS s
theorem plainFrom_end (s : ByteArray) (fuel pos : Nat) (h : ¬ pos < s.size) : plainFrom s fuel pos = true := by
  cases fuel <;> simp [plainFrom, h]
theorem plainFrom_step (s : ByteArray) (fuel pos : Nat) (h : pos < s.size) : plainFrom s (fuel + 1) pos = (plainZ (Utf8.decode s pos).1 && plainFrom s fuel (pos + (Utf8.decode s pos).2)) := by
  simp [plainFrom, h]
theorem valueOK_size (s : ByteArray) (h : s.size = 0 ∨ 40 < s.size) : valueOK s = false := by
  unfold valueOK; rcases h with h | h <;> simp [h]
  omega
theorem valueOK_plain (s : ByteArray) (h0 : 0 < s.size) (h1 : s.size ≤ 40) : valueOK s = plainS s := by
  unfold valueOK; simp [h0, h1]

/-- Lists of labels that may be. -/
def labD (ls : List Lab) (i : Nat) : Lab := ls.getD i (ByteArray.empty, ByteArray.empty)
def lessS (a b : ByteArray) : Bool := Op.bytesLess a.toList b.toList
def canAt (ls : List Lab) (i : Nat) : Bool := nameOK (labD ls i).1 && valueOK (labD ls i).2 && (decide (i = 0) || lessS (labD ls (i - 1)).1 (labD ls i).1)
def canTo (ls : List Lab) (k : Nat) : Bool := (List.range k).all fun i => canAt ls i
def canOK (ls : List Lab) : Bool := decide (0 < ls.length) && decide (ls.length ≤ 8) && canTo ls ls.length
theorem canTo_zero (ls : List Lab) : canTo ls 0 = true := rfl
theorem canTo_succ (ls : List Lab) (k : Nat) : canTo ls (k + 1) = (canTo ls k && canAt ls k) := by
  unfold canTo; rw [List.range_succ, List.all_append]; simp
theorem canTo_le (ls : List Lab) {k m : Nat} (h : k ≤ m) (hm : canTo ls m = true) : canTo ls k = true := by
  unfold canTo at *
  rw [List.all_eq_true] at *
  intro i hi
  exact hm i (by rw [List.mem_range] at *; omega)
theorem canOK_false (ls : List Lab) (k : Nat) (hk : k < ls.length) (h : canAt ls k = false) : canOK ls = false := by
  unfold canOK
  have : canTo ls ls.length = false := by
    rw [Bool.eq_false_iff]; intro h1
    have h2 := canTo_le ls (show k + 1 ≤ ls.length by omega) h1
    rw [canTo_succ, h] at h2; simp at h2
  simp [this]
theorem canOK_true (ls : List Lab) (h0 : 0 < ls.length) (h1 : ls.length ≤ 8) (h : canTo ls ls.length = true) : canOK ls = true := by
  unfold canOK; simp [h0, h1, h]
theorem canOK_size (ls : List Lab) (h : ls.length = 0 ∨ 8 < ls.length) : canOK ls = false := by
  unfold canOK; rcases h with h | h <;> simp [h]
  omega
theorem canOK_iff (ls : List Lab) : canOK ls = true ↔ 0 < ls.length ∧ ls.length ≤ 8 ∧ ∀ i, i < ls.length → canAt ls i = true := by
  unfold canOK canTo
  simp [List.all_eq_true]
  constructor
  · rintro ⟨⟨a, b⟩, c⟩; exact ⟨a, b, c⟩
  · rintro ⟨a, b, c⟩; exact ⟨⟨a, b⟩, c⟩

/-- The order of texts. -/
theorem less_irrefl (l : List UInt8) : Op.bytesLess l l = false := by
  induction l with
  | nil => rfl
  | cons a t ih => simp [Op.bytesLess, ih]
theorem less_total (x : List UInt8) : ∀ y, Op.bytesLess x y = false → Op.bytesLess y x = false → x = y := by
  induction x with
  | nil => intro y; cases y <;> simp [Op.bytesLess]
  | cons a t ih =>
    intro y h1 h2
    cases y with
    | nil => simp [Op.bytesLess] at h2
    | cons b u =>
      simp only [Op.bytesLess, Bool.or_eq_false_iff, Bool.and_eq_false_iff, decide_eq_false_iff_not, beq_eq_false_iff_ne] at h1 h2
      have hab : a = b := by
        have := UInt8.le_antisymm (UInt8.not_lt.1 h1.1) (UInt8.not_lt.1 h2.1)
        exact this.symm
      subst hab
      rw [ih u (by rcases h1.2 with h | h; exact absurd rfl h; exact h) (by rcases h2.2 with h | h; exact absurd rfl h; exact h)]
theorem less_trans (x : List UInt8) : ∀ y z, Op.bytesLess x y = true → Op.bytesLess y z = true → Op.bytesLess x z = true := by
  induction x with
  | nil => intro y z h1 h2; cases z <;> cases y <;> simp_all [Op.bytesLess]
  | cons a t ih =>
    intro y z h1 h2
    cases y with
    | nil => simp [Op.bytesLess] at h1
    | cons b u =>
      cases z with
      | nil => simp [Op.bytesLess] at h2
      | cons c v =>
        simp only [Op.bytesLess, Bool.or_eq_true, Bool.and_eq_true, decide_eq_true_eq, beq_iff_eq] at h1 h2 ⊢
        rcases h1 with h1 | ⟨rfl, h1⟩
        · rcases h2 with h2 | ⟨rfl, h2⟩
          · exact .inl (UInt8.lt_trans h1 h2)
          · exact .inl h1
        · rcases h2 with h2 | ⟨rfl, h2⟩
          · exact .inl h2
          · exact .inr ⟨rfl, ih u v h1 h2⟩
theorem less_asymm (x y : List UInt8) (h : Op.bytesLess x y = true) : Op.bytesLess y x = false := by
  rw [Bool.eq_false_iff]; intro h2
  have := less_trans x y x h h2
  rw [less_irrefl] at this; cases this

/-- Texts held against each other, and labels. -/
def cmpB (x y : List UInt8) : Int := if Op.bytesLess x y then -1 else if Op.bytesLess y x then 1 else 0
def cmpS (a b : ByteArray) : Int := cmpB a.toList b.toList
theorem cmpB_self (x : List UInt8) : cmpB x x = 0 := by unfold cmpB; simp [less_irrefl]
theorem cmpB_swap (x y : List UInt8) : cmpB y x = - cmpB x y := by
  unfold cmpB
  by_cases h1 : Op.bytesLess x y = true
  · have := less_asymm x y h1; simp [h1, this]
  · by_cases h2 : Op.bytesLess y x = true <;> simp [h1, h2]
theorem cmpB_zero (x y : List UInt8) (h : cmpB x y = 0) : x = y := by
  unfold cmpB at h
  by_cases h1 : Op.bytesLess x y = true
  · simp [h1] at h
  · by_cases h2 : Op.bytesLess y x = true
    · simp [h1, h2] at h
    · exact less_total x y (by simpa using h1) (by simpa using h2)
theorem cmpB_neg (x y : List UInt8) : cmpB x y < 0 ↔ Op.bytesLess x y = true := by
  unfold cmpB
  by_cases h1 : Op.bytesLess x y = true
  · simp [h1]
  · by_cases h2 : Op.bytesLess y x = true <;> simp [h1, h2]
theorem cmpB_trans (x y z : List UInt8) (h1 : cmpB x y < 0) (h2 : cmpB y z < 0) : cmpB x z < 0 := by
  rw [cmpB_neg] at *; exact less_trans x y z h1 h2
theorem cmpB_range (x y : List UInt8) : -1 ≤ cmpB x y ∧ cmpB x y ≤ 1 := by
  unfold cmpB; split <;> (try split) <;> omega
theorem toList_inj {a b : ByteArray} (h : a.toList = b.toList) : a = b := by
  rw [Lib.toList_data, Lib.toList_data] at h
  cases a; cases b; simp at h; rw [h]
def cmpOne (a b : Lab) : Int := if cmpS a.1 b.1 = 0 then cmpS a.2 b.2 else cmpS a.1 b.1
theorem cmpOne_self (a : Lab) : cmpOne a a = 0 := by unfold cmpOne cmpS; simp [cmpB_self]
theorem cmpOne_swap (a b : Lab) : cmpOne b a = - cmpOne a b := by
  unfold cmpOne cmpS
  rw [cmpB_swap a.1.toList b.1.toList, cmpB_swap a.2.toList b.2.toList]
  by_cases h : cmpB a.1.toList b.1.toList = 0
  · simp [h]
  · simp [h]
theorem cmpOne_zero (a b : Lab) (h : cmpOne a b = 0) : a = b := by
  unfold cmpOne cmpS at h
  by_cases h1 : cmpB a.1.toList b.1.toList = 0
  · rw [if_pos h1] at h
    exact Prod.ext (toList_inj (cmpB_zero _ _ h1)) (toList_inj (cmpB_zero _ _ h))
  · rw [if_neg h1] at h; exact absurd h h1
theorem cmpOne_trans (a b c : Lab) (h1 : cmpOne a b < 0) (h2 : cmpOne b c < 0) : cmpOne a c < 0 := by
  unfold cmpOne cmpS at *
  by_cases e1 : cmpB a.1.toList b.1.toList = 0
  · rw [if_pos e1] at h1
    have e := cmpB_zero _ _ e1
    rw [e]
    by_cases e2 : cmpB b.1.toList c.1.toList = 0
    · rw [if_pos e2] at h2 ⊢; exact cmpB_trans _ _ _ h1 h2
    · rw [if_neg e2] at h2 ⊢; exact h2
  · rw [if_neg e1] at h1
    by_cases e2 : cmpB b.1.toList c.1.toList = 0
    · rw [if_pos e2] at h2
      rw [← cmpB_zero _ _ e2, if_neg e1]; exact h1
    · rw [if_neg e2] at h2
      have h3 := cmpB_trans _ _ _ h1 h2
      rw [if_neg (by omega)]; exact h3
theorem cmpOne_range (a b : Lab) : -1 ≤ cmpOne a b ∧ cmpOne a b ≤ 1 := by
  unfold cmpOne cmpS; split <;> exact cmpB_range _ _
def cmpL : List Lab → List Lab → Int
  | [], [] => 0
  | [], _ :: _ => -1
  | _ :: _, [] => 1
  | a :: as, b :: bs => if cmpOne a b = 0 then cmpL as bs else cmpOne a b
theorem cmpL_self (a : List Lab) : cmpL a a = 0 := by
  induction a with
  | nil => rfl
  | cons x t ih => simp [cmpL, cmpOne_self, ih]
theorem cmpL_swap (a : List Lab) : ∀ b, cmpL b a = - cmpL a b := by
  induction a with
  | nil => intro b; cases b <;> simp [cmpL]
  | cons x t ih =>
    intro b
    cases b with
    | nil => simp [cmpL]
    | cons y u =>
      simp only [cmpL]
      rw [cmpOne_swap x y]
      by_cases h : cmpOne x y = 0
      · simp [h, ih u]
      · simp [h]
theorem cmpL_zero (a : List Lab) : ∀ b, cmpL a b = 0 → a = b := by
  induction a with
  | nil => intro b; cases b <;> simp [cmpL]
  | cons x t ih =>
    intro b h
    cases b with
    | nil => simp [cmpL] at h
    | cons y u =>
      simp only [cmpL] at h
      by_cases h1 : cmpOne x y = 0
      · rw [if_pos h1] at h; rw [cmpOne_zero x y h1, ih u h]
      · rw [if_neg h1] at h; exact absurd h h1
theorem cmpL_trans (a : List Lab) : ∀ b c, cmpL a b < 0 → cmpL b c < 0 → cmpL a c < 0 := by
  induction a with
  | nil => intro b c h1 h2; cases c <;> cases b <;> simp_all [cmpL]
  | cons x t ih =>
    intro b c h1 h2
    cases b with
    | nil => simp [cmpL] at h1
    | cons y u =>
      cases c with
      | nil => simp [cmpL] at h2
      | cons z v =>
        simp only [cmpL] at *
        by_cases e1 : cmpOne x y = 0
        · rw [if_pos e1] at h1
          rw [cmpOne_zero _ _ e1]
          by_cases e2 : cmpOne y z = 0
          · rw [if_pos e2] at h2 ⊢; exact ih _ _ h1 h2
          · rw [if_neg e2] at h2 ⊢; exact h2
        · rw [if_neg e1] at h1
          by_cases e2 : cmpOne y z = 0
          · rw [← cmpOne_zero _ _ e2, if_neg e1]; exact h1
          · rw [if_neg e2] at h2
            have h3 := cmpOne_trans _ _ _ h1 h2
            rw [if_neg (by omega)]; exact h3
theorem cmpL_range (a : List Lab) : ∀ b, -1 ≤ cmpL a b ∧ cmpL a b ≤ 1 := by
  induction a with
  | nil => intro b; cases b <;> simp [cmpL]
  | cons x t ih =>
    intro b
    cases b with
    | nil => simp [cmpL]
    | cons y u =>
      simp only [cmpL]; split
      · exact ih u
      · exact cmpOne_range x y
theorem cmpL_le_trans (a b c : List Lab) (h1 : cmpL a b ≤ 0) (h2 : cmpL b c ≤ 0) : cmpL a c ≤ 0 := by
  by_cases e1 : cmpL a b = 0
  · rw [cmpL_zero _ _ e1]; exact h2
  · by_cases e2 : cmpL b c = 0
    · rw [← cmpL_zero _ _ e2]; exact h1
    · have := cmpL_trans a b c (by omega) (by omega); omega
end Go.Proofs.Ytccjgciknaooaaa
