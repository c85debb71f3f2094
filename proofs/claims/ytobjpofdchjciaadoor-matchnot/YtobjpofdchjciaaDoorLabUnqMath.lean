/- What a quoted text says, plainly. -/
import Derived.Test.YtobjpofdchjciaaDoorLabQuoteMath
namespace Go.Proofs.YtobjpofdchjciaaDoor
open Go.RowKit
set_option linter.unusedVariables false

def addP (l : List UInt8) (p : List UInt8 × List UInt8) : List UInt8 × List UInt8 := (l ++ p.1, p.2)
def unqS : Bool → List UInt8 → Option (List UInt8 × List UInt8)
  | _, [] => none
  | true, c :: t => if markB c then (unqS false t).map (addP [c]) else none
  | false, c :: t => if c = 34 then some ([], t) else if c = 92 then unqS true t else (unqS false t).map (addP [c])
def uqO (s : ByteArray) : Option (List UInt8 × List UInt8) := match s.data.toList with
  | [] => none
  | c :: t => if c = 34 then unqS false t else none
def uqT (s : ByteArray) : ByteArray := match uqO s with
  | some p => ⟨p.1.toArray⟩
  | none => ⟨#[]⟩
def uqR (s : ByteArray) : ByteArray := match uqO s with
  | some p => ⟨p.2.toArray⟩
  | none => ⟨#[]⟩
def uqE (s : ByteArray) : Int := match uqO s with
  | some p => 0
  | none => 5
theorem addP_nil : addP [] = id := by funext p; rfl
theorem addP_addP (a b : List UInt8) (p : List UInt8 × List UInt8) : addP a (addP b p) = addP (a ++ b) p := by simp [addP]
theorem map_addP (a b : List UInt8) (o : Option (List UInt8 × List UInt8)) : (o.map (addP b)).map (addP a) = o.map (addP (a ++ b)) := by
  cases o <;> simp [addP_addP]
theorem unqS_skip (l t : List UInt8) (h : ∀ c ∈ l, markB c = false) : unqS false (l ++ t) = (unqS false t).map (addP l) := by
  induction l with
  | nil => simp [addP_nil]
  | cons c r ih =>
    have hc := h c (by simp)
    unfold markB at hc
    simp at hc
    simp only [List.cons_append, unqS, if_neg hc.1, if_neg hc.2]
    rw [ih (fun x hx => h x (by simp [hx])), map_addP]
    rfl
theorem unqS_quote (l t : List UInt8) : unqS false (quoteL l ++ 34 :: t) = some (l, t) := by
  induction l with
  | nil => rfl
  | cons c r ih =>
    by_cases hm : markB c = true
    · simp only [quoteL, hm, if_true, List.cons_append]
      simp [unqS, hm, ih, addP]
    · have hm' := hm
      unfold markB at hm'
      simp at hm'
      have e : quoteL (c :: r) = c :: quoteL r := by simp [quoteL, hm]
      rw [e]
      simp [unqS, hm'.1, hm'.2, ih, addP]
/-- The state of a reading: what is read, from where, up to where. -/
def unqAt (L acc : List UInt8) (f p : Nat) (esc : Bool) : Option (List UInt8 × List UInt8) := (unqS esc (L.drop p)).map (addP (acc ++ (L.drop f).take (p - f)))
theorem unqAt_start (L : List UInt8) : unqS false L = unqAt L [] 0 0 false := by simp [unqAt, addP_nil]
theorem unqAt_skip (L acc : List UInt8) (f p q : Nat) (hf : f ≤ p) (hq : p ≤ q) (hn : ∀ c ∈ (L.drop p).take (q - p), markB c = false) : unqAt L acc f p false = unqAt L acc f q false := by
  unfold unqAt
  have e : L.drop p = (L.drop p).take (q - p) ++ L.drop q := by
    have := (List.take_append_drop (q - p) (L.drop p)).symm
    rw [List.drop_drop, show p + (q - p) = q from by omega] at this
    exact this
  rw [e, unqS_skip _ _ hn, map_addP, List.append_assoc, ← drop_part L f p q hf hq]
theorem drop_cons {L : List UInt8} {p : Nat} {c : UInt8} (hc : L[p]? = some c) : L.drop p = c :: L.drop (p + 1) := by
  have hlt : p < L.length := (List.getElem?_eq_some_iff.1 hc).1
  rw [List.drop_eq_getElem_cons hlt, (List.getElem?_eq_some_iff.1 hc).2]
theorem take_one {L : List UInt8} {p : Nat} {c : UInt8} (hc : L[p]? = some c) : (L.drop p).take (p + 1 - p) = [c] := by
  rw [drop_cons hc, show p + 1 - p = 1 from by omega]; rfl
/-- A mark behind a backslash. -/
theorem unqAt_mark (L acc : List UInt8) (p : Nat) (c : UInt8) (hc : L[p]? = some c) (hm : markB c = true) : unqAt L acc p p true = unqAt L acc p (p + 1) false := by
  unfold unqAt
  rw [drop_part L p p (p + 1) (Nat.le_refl _) (by omega), take_one hc, drop_cons hc]
  simp only [unqS, hm, if_true, Nat.sub_self, List.take_zero, List.append_nil, List.nil_append, map_addP]
theorem unqAt_none (L acc : List UInt8) (f p : Nat) (c : UInt8) (hc : L[p]? = some c) (hm : markB c = false) : unqAt L acc f p true = none := by
  unfold unqAt
  rw [drop_cons hc]
  simp [unqS, hm]
/-- A backslash. -/
theorem unqAt_back (L acc : List UInt8) (f p : Nat) (hc : L[p]? = some 92) : unqAt L acc f p false = unqAt L (acc ++ (L.drop f).take (p - f)) (p + 1) (p + 1) true := by
  unfold unqAt
  rw [drop_cons hc]
  simp only [unqS, Nat.sub_self, List.take_zero, List.append_nil]
  rw [if_neg (by decide), if_pos trivial]
theorem unqAt_end (L acc : List UInt8) (f p : Nat) (hc : L[p]? = some 34) : unqAt L acc f p false = some (acc ++ (L.drop f).take (p - f), L.drop (p + 1)) := by
  unfold unqAt
  rw [drop_cons hc]
  simp [unqS, addP]
theorem unqAt_over (L acc : List UInt8) (f p : Nat) (esc : Bool) (h : L.length ≤ p) : unqAt L acc f p esc = none := by
  unfold unqAt
  rw [List.drop_of_length_le h]
  cases esc <;> rfl
theorem uq_some {s : ByteArray} {x r : List UInt8} (h : uqO s = some (x, r)) : uqT s = ⟨x.toArray⟩ ∧ uqR s = ⟨r.toArray⟩ ∧ uqE s = 0 := by
  unfold uqT uqR uqE; rw [h]; exact ⟨rfl, rfl, rfl⟩
theorem uq_none {s : ByteArray} (h : uqO s = none) : uqT s = ⟨#[]⟩ ∧ uqR s = ⟨#[]⟩ ∧ uqE s = 5 := by
  unfold uqT uqR uqE; rw [h]; exact ⟨rfl, rfl, rfl⟩
theorem uqO_cons {s : ByteArray} {t : List UInt8} (h : s.data.toList = 34 :: t) : uqO s = unqS false t := by
  unfold uqO; rw [h]; rfl
theorem uqO_other {s : ByteArray} (h : ∀ t, s.data.toList ≠ 34 :: t) : uqO s = none := by
  unfold uqO
  split
  · rfl
  · rename_i c t e
    split
    · rename_i hc; subst hc; exact absurd e (h t)
    · rfl
end Go.Proofs.YtobjpofdchjciaaDoor
