/- Labels out of bytes, plainly. -/
import Derived.Test.YtcjhkpcnhnnjbaaDoorLabEnc
namespace Go.Proofs.YtcjhkpcnhnnjbaaDoor
open Go.RowKit
set_option linter.unusedVariables false

def pieceN : List Nat → Option (List Nat × List Nat)
  | [] => none
  | n :: t => if t.length < n then none else some (t.take n, t.drop n)
def addL (d : List Lab) (q : List Lab × List Nat) : List Lab × List Nat := (d ++ q.1, q.2)
def decN : Nat → List Nat → Option (List Lab × List Nat)
  | 0, b => some ([], b)
  | k + 1, b => match pieceN b with
    | none => none
    | some (n, b1) => match pieceN b1 with
      | none => none
      | some (v, b2) => (decN k b2).map (addL [(strB n, strB v)])
def decP : List Nat → Option (List Lab × List Nat)
  | [] => none
  | n :: t => decN n t
theorem addL_nil : addL [] = id := by funext p; rfl
theorem map_addL (a b : List Lab) (o : Option (List Lab × List Nat)) : (o.map (addL b)).map (addL a) = o.map (addL (a ++ b)) := by
  cases o <;> simp [addL]
theorem pieceN_ext {b x r : List Nat} (h : pieceN b = some (x, r)) (y : List Nat) : pieceN (b ++ y) = some (x, r ++ y) := by
  cases b with
  | nil => cases h
  | cons n t =>
    simp only [pieceN] at h
    by_cases hl : t.length < n
    · rw [if_pos hl] at h; cases h
    · rw [if_neg hl] at h
      cases h
      simp only [List.cons_append, pieceN, List.length_append]
      rw [if_neg (by omega), List.take_append_of_le_length (by omega), List.drop_append_of_le_length (by omega)]
theorem decN_ext (k : Nat) : ∀ (b : List Nat) (ls : List Lab) (r : List Nat), decN k b = some (ls, r) → ∀ y, decN k (b ++ y) = some (ls, r ++ y) := by
  induction k with
  | zero => intro b ls r h y; simp only [decN] at h ⊢; cases h; rfl
  | succ k ih =>
    intro b ls r h y
    simp only [decN] at h ⊢
    cases hp : pieceN b with
    | none => rw [hp] at h; cases h
    | some p =>
      obtain ⟨n, b1⟩ := p
      rw [hp] at h
      rw [pieceN_ext hp y]
      simp only at h ⊢
      cases hq : pieceN b1 with
      | none => rw [hq] at h; cases h
      | some q =>
        obtain ⟨v, b2⟩ := q
        rw [hq] at h
        rw [pieceN_ext hq y]
        simp only at h ⊢
        cases hd : decN k b2 with
        | none => rw [hd] at h; cases h
        | some d =>
          obtain ⟨ls', r'⟩ := d
          rw [hd] at h
          rw [ih b2 ls' r' hd y]
          simp only [Option.map_some, addL, Option.some.injEq, Prod.mk.injEq] at h ⊢
          exact ⟨h.1, by rw [← h.2]⟩
theorem strB_sN (s : ByteArray) : strB (sN s) = s := by
  unfold strB sN
  cases s with
  | mk d =>
    simp only [List.map_map]
    have : (UInt8.ofNat ∘ UInt8.toNat) = id := by funext c; simp
    rw [this]
    simp
theorem pieceN_enc (s : ByteArray) (t : List Nat) : pieceN ([s.size] ++ sN s ++ t) = some (sN s, t) := by
  simp only [List.cons_append, List.nil_append, pieceN, List.length_append, sN_len]
  rw [if_neg (by omega), ← sN_len s, List.take_left, List.drop_left]
theorem decN_enc (ls : List Lab) : ∀ t : List Nat, decN ls.length (ls.flatMap encOne ++ t) = some (ls, t) := by
  induction ls with
  | nil => intro t; rfl
  | cons x r ih =>
    intro t
    have e : (x :: r).flatMap encOne ++ t = [x.1.size] ++ sN x.1 ++ ([x.2.size] ++ sN x.2 ++ (r.flatMap encOne ++ t)) := by
      simp [List.flatMap_cons, encOne]
    rw [e, List.length_cons]
    simp only [decN]
    rw [pieceN_enc]
    simp only
    rw [pieceN_enc]
    simp only
    rw [ih t, strB_sN, strB_sN]
    rfl
theorem encTo_flat (ls : List Lab) : ∀ k, k ≤ ls.length → encTo ls k = [ls.length] ++ (ls.take k).flatMap encOne := by
  intro k
  induction k with
  | zero => intro _; simp [encTo]
  | succ k ih =>
    intro hk
    rw [encTo, ih (by omega), List.take_succ_eq_append_getElem (by omega), List.flatMap_append, List.append_assoc]
    congr 2
    unfold labD
    rw [List.getD_eq_getElem?_getD, List.getElem?_eq_getElem (by omega)]
    simp
theorem encN_flat (ls : List Lab) : encN ls = ls.length :: ls.flatMap encOne := by
  unfold encN; rw [encTo_flat ls _ (Nat.le_refl _), List.take_length]; rfl
theorem decP_enc (ls : List Lab) (t : List Nat) : decP (encN ls ++ t) = some (ls, t) := by
  rw [encN_flat]; exact decN_enc ls t
/-- Bytes of labels that end too early. -/
theorem decP_cut (ls : List Lab) (m : Nat) (h : m < (encN ls).length) : decP ((encN ls).take m) = none := by
  have hx : (encN ls).take m ++ (encN ls).drop m = encN ls := List.take_append_drop m _
  have hn : (encN ls).drop m ≠ [] := by
    intro e
    have := congrArg List.length e
    simp at this; omega
  rw [encN_flat] at hx hn h ⊢
  cases m with
  | zero => rfl
  | succ m =>
    simp only [List.take_succ_cons, List.drop_succ_cons, List.cons_append, List.cons.injEq, true_and] at hx hn ⊢
    simp only [decP]
    cases hd : decN ls.length ((ls.flatMap encOne).take m) with
    | none => rfl
    | some p =>
      obtain ⟨l', r'⟩ := p
      have h1 := decN_ext _ _ _ _ hd ((ls.flatMap encOne).drop m)
      rw [List.take_append_drop] at h1
      have h2 := decN_enc ls []
      rw [List.append_nil] at h2
      rw [h2] at h1
      simp only [Option.some.injEq, Prod.mk.injEq] at h1
      have := List.append_eq_nil_iff.1 h1.2.symm
      exact absurd this.2 hn
/-- The state of a reading. -/
def decAt (d : List Lab) (k : Nat) (b : List Nat) : Option (List Lab × List Nat) := (decN k b).map (addL d)
theorem decAt_start (n : Nat) (t : List Nat) : decP (n :: t) = decAt [] n t := by simp [decP, decAt, addL_nil]
theorem decAt_end (d : List Lab) (b : List Nat) : decAt d 0 b = some (d, b) := by simp [decAt, decN, addL]
theorem decAt_none1 {d : List Lab} {k : Nat} {b : List Nat} (h : pieceN b = none) : decAt d (k + 1) b = none := by
  unfold decAt; simp only [decN]; rw [h]; rfl
theorem decAt_none2 {d : List Lab} {k : Nat} {b b1 n : List Nat} (h : pieceN b = some (n, b1)) (h' : pieceN b1 = none) : decAt d (k + 1) b = none := by
  unfold decAt; simp only [decN]; rw [h]; simp only; rw [h']; rfl
theorem decAt_step {d : List Lab} {k : Nat} {b b1 b2 n v : List Nat} (h : pieceN b = some (n, b1)) (h' : pieceN b1 = some (v, b2)) : decAt d (k + 1) b = decAt (d ++ [(strB n, strB v)]) k b2 := by
  unfold decAt; simp only [decN]; rw [h]; simp only; rw [h']; simp only; rw [map_addL]
theorem pieceN_lt {b x r : List Nat} (h : pieceN b = some (x, r)) (hb : ∀ y ∈ b, y < 256) : (∀ y ∈ x, y < 256) ∧ (∀ y ∈ r, y < 256) ∧ x.length ≤ b.length ∧ r.length ≤ b.length := by
  cases b with
  | nil => cases h
  | cons n t =>
    simp only [pieceN] at h
    by_cases hl : t.length < n
    · rw [if_pos hl] at h; cases h
    · rw [if_neg hl] at h
      cases h
      refine ⟨fun y hy => hb y (by simp [List.mem_of_mem_take hy]), fun y hy => hb y (by simp [List.mem_of_mem_drop hy]), ?_, ?_⟩
      · simp; omega
      · simp; omega
end Go.Proofs.YtcjhkpcnhnnjbaaDoor
