/- What a text of labels says, plainly. -/
import Derived.Test.YtkcmaneibfambaaLabUnqMath
import Derived.Test.YtkcmaneibfambaaLabParse2
namespace Go.Proofs.Ytkcmaneibfambaa
open Go.RowKit
set_option linter.unusedVariables false

def wordB (c : UInt8) : Bool := letZ (c.toNat : Int) || digZ (c.toNat : Int)
def cutE : List UInt8 → Option (List UInt8 × List UInt8)
  | [] => none
  | c :: t => if c = 61 then some ([], t) else (cutE t).map (fun p => (c :: p.1, p.2))
def wordN : List UInt8 → Nat
  | [] => 0
  | c :: t => if wordB c then wordN t + 1 else 0
def bA (l : List UInt8) : ByteArray := ⟨l.toArray⟩
def endP (d : List Lab) (r : List UInt8) : Option (List Lab) := if r = [125] ∧ canOK d = true then some d else none
def pj : Nat → List Lab → List UInt8 → Option (List Lab)
  | 0, _, _ => none
  | f + 1, d, s => match cutE s with
    | none => none
    | some (n, b) => match uqO (bA b) with
      | none => none
      | some (v, r) => match r with
        | [] => none
        | c :: t => if c = 44 then pj f (d ++ [(bA n, bA v)]) t else endP (d ++ [(bA n, bA v)]) (c :: t)
def parseP (s : ByteArray) : Option (List Lab) := match s.data.toList with
  | [] => none
  | c :: t => if c = 123 then pj (t.length + 1) [] t else none

theorem bA_list (l : List UInt8) : (bA l).data.toList = l := rfl
theorem bA_size (l : List UInt8) : (bA l).size = l.length := by rw [Lib.size_eq]; rfl
theorem endP_nil (r : List UInt8) : endP [] r = none := by
  unfold endP; rw [if_neg]; intro h; have := h.2; rw [canOK_size [] (.inl rfl)] at this; cases this
theorem endP_empty (d : List Lab) : endP d [] = none := by unfold endP; simp
theorem endP_no (d : List Lab) (r : List UInt8) (h : canOK d = false) : endP d r = none := by unfold endP; simp [h]
theorem endP_other (d : List Lab) (r : List UInt8) (h : r ≠ [125]) : endP d r = none := by unfold endP; simp [h]
theorem endP_yes (d : List Lab) (h : canOK d = true) : endP d [125] = some d := by unfold endP; simp [h]
theorem pj_nocut {f : Nat} {d : List Lab} {s : List UInt8} (h : cutE s = none) : pj (f + 1) d s = none := by simp only [pj, h]
theorem pj_nouq {f : Nat} {d : List Lab} {s n b : List UInt8} (h : cutE s = some (n, b)) (h2 : uqO (bA b) = none) : pj (f + 1) d s = none := by simp only [pj, h, h2]
theorem pj_more {f : Nat} {d : List Lab} {s n b v t : List UInt8} (h : cutE s = some (n, b)) (h2 : uqO (bA b) = some (v, 44 :: t)) : pj (f + 1) d s = pj f (d ++ [(bA n, bA v)]) t := by simp only [pj, h, h2, if_true]
theorem pj_last {f : Nat} {d : List Lab} {s n b v r : List UInt8} (h : cutE s = some (n, b)) (h2 : uqO (bA b) = some (v, r)) (hr : ∀ t, r ≠ 44 :: t) : pj (f + 1) d s = endP (d ++ [(bA n, bA v)]) r := by
  cases r with
  | nil => simp only [pj, h, h2, endP_empty]
  | cons c t =>
    have hc : c ≠ 44 := fun hc => hr t (by rw [hc])
    simp only [pj, h, h2, if_neg hc]

theorem cut_of (L : List UInt8) : (∃ k, k < L.length ∧ Lib.indexByte L 61 = (k : Int) ∧ cutE L = some (L.take k, L.drop (k + 1))) ∨ (Lib.indexByte L 61 = -1 ∧ cutE L = none) := by
  induction L with
  | nil => right; exact ⟨rfl, rfl⟩
  | cons c t ih =>
    by_cases hc : c = 61
    · subst hc
      left
      exact ⟨0, by simp, by simp [Lib.indexByte], by simp [cutE]⟩
    · have h2 : (c == 61) = false := beq_eq_false_iff_ne.2 hc
      rcases ih with ⟨k, h1, hi, he⟩ | ⟨hi, he⟩
      · left
        refine ⟨k + 1, by simp; omega, ?_, ?_⟩
        · have h3 : ((k : Int) == -1) = false := beq_eq_false_iff_ne.2 (by omega)
          simp only [Lib.indexByte, hi, h2, h3, Bool.false_eq_true, if_false]
          omega
        · simp only [cutE, if_neg hc, he, Option.map_some, List.take_succ_cons, List.drop_succ_cons]
      · right
        refine ⟨?_, ?_⟩
        · simp only [Lib.indexByte, hi, h2, Bool.false_eq_true, if_false]
          rfl
        · simp only [cutE, if_neg hc, he, Option.map_none]
theorem cutE_eq {s n b : List UInt8} (h : cutE s = some (n, b)) : s = n ++ 61 :: b := by
  induction s generalizing n with
  | nil => cases h
  | cons c t ih =>
    by_cases hc : c = 61
    · subst hc
      simp only [cutE, if_true, Option.some.injEq, Prod.mk.injEq] at h
      obtain ⟨rfl, rfl⟩ := h
      rfl
    · simp only [cutE, if_neg hc] at h
      obtain ⟨p, hp, he⟩ := Option.map_eq_some_iff.1 h
      obtain ⟨p1, p2⟩ := p
      simp only [Prod.mk.injEq] at he
      obtain ⟨rfl, rfl⟩ := he
      rw [ih hp]
      rfl
theorem unqS_len (l : List UInt8) : ∀ e x r, unqS e l = some (x, r) → x.length + r.length < l.length := by
  induction l with
  | nil => intro e x r h; cases e <;> cases h
  | cons c t ih =>
    intro e x r h
    have hm : ∀ y : Unit, (unqS false t).map (addP [c]) = some (x, r) → x.length + r.length < t.length + 1 := by
      intro _ h
      obtain ⟨p, hp, he⟩ := Option.map_eq_some_iff.1 h
      obtain ⟨p1, p2⟩ := p
      simp only [addP, Prod.mk.injEq] at he
      obtain ⟨rfl, rfl⟩ := he
      have := ih false p1 p2 hp
      simp; omega
    simp only [List.length_cons]
    cases e with
    | true =>
      simp only [unqS] at h
      split at h
      · exact hm () h
      · cases h
    | false =>
      simp only [unqS] at h
      split at h
      · simp at h; obtain ⟨rfl, rfl⟩ := h; simp
      · split at h
        · have := ih true x r h; omega
        · exact hm () h
theorem uqO_len {s : ByteArray} {x r : List UInt8} (h : uqO s = some (x, r)) : x.length + r.length < s.size := by
  rw [Lib.size_eq]
  unfold uqO at h
  split at h
  · cases h
  · rename_i c t e
    rw [e]
    split at h
    · have := unqS_len t false x r h; simp; omega
    · cases h
theorem wordN_le (L : List UInt8) : wordN L ≤ L.length := by
  induction L with
  | nil => exact Nat.le_refl _
  | cons c t ih => simp only [wordN, List.length_cons]; split <;> omega
theorem wordN_step (L : List UInt8) : ∀ k c, k ≤ wordN L → L[k]? = some c → (wordB c = true → k + 1 ≤ wordN L) ∧ (wordB c = false → k = wordN L) := by
  induction L with
  | nil => intro k c _ h; simp at h
  | cons a t ih =>
    intro k c hk hc
    cases k with
    | zero =>
      simp at hc
      subst hc
      simp only [wordN]
      constructor <;> intro h <;> simp [h]
    | succ k =>
      simp only [List.getElem?_cons_succ] at hc
      simp only [wordN] at hk ⊢
      split at hk
      · rename_i ha
        have := ih k c (by omega) hc
        rw [if_pos ha]
        exact ⟨fun h => by have := this.1 h; omega, fun h => by have := this.2 h; omega⟩
      · omega
theorem wordN_app (n b : List UInt8) (h : ∀ c ∈ n, wordB c = true) : wordN (n ++ 61 :: b) = n.length := by
  induction n with
  | nil => rfl
  | cons c t ih =>
    have hc := h c (by simp)
    simp only [List.cons_append, wordN, hc, if_true, List.length_cons]
    rw [ih (fun x hx => h x (by simp [hx]))]
theorem word_all (L : List UInt8) : ∀ c ∈ L.take (wordN L), wordB c = true := by
  induction L with
  | nil => intro c h; simp at h
  | cons a t ih =>
    intro c h
    simp only [wordN] at h
    split at h
    · rename_i ha
      simp only [List.take_succ_cons, List.mem_cons] at h
      rcases h with rfl | h
      · exact ha
      · exact ih c h
    · simp at h
theorem cutE_app (n b : List UInt8) (h : ∀ c ∈ n, wordB c = true) : cutE (n ++ 61 :: b) = some (n, b) := by
  induction n with
  | nil => rfl
  | cons c t ih =>
    have hc := h c (by simp)
    have hn : c ≠ 61 := by rintro rfl; exact absurd hc (by decide)
    simp only [List.cons_append, cutE, if_neg hn, ih (fun x hx => h x (by simp [hx])), Option.map_some]
theorem word_cut {L b : List UInt8} (h : L.drop (wordN L) = 61 :: b) : cutE L = some (L.take (wordN L), b) := by
  have e := (List.take_append_drop (wordN L) L).symm
  rw [h] at e
  have := cutE_app (L.take (wordN L)) b (word_all L)
  rw [← e] at this
  exact this
theorem nameOK_word (s : ByteArray) (h : nameOK s = true) : ∀ c ∈ s.data.toList, wordB c = true := by
  intro c hc
  obtain ⟨i, hi⟩ := List.mem_iff_getElem?.1 hc
  have hlt : i < s.size := by rw [Lib.size_eq]; exact (List.getElem?_eq_some_iff.1 hi).1
  have h1 := byteAt_of s i c hi
  cases hw : wordB c with
  | true => rfl
  | false =>
    have h2 : nameAt i (byteAt s i) = false := by
      rw [h1]
      unfold wordB at hw
      unfold nameAt
      simp only [Bool.or_eq_false_iff] at hw
      rw [hw.1, hw.2]
      simp
    rw [nameOK_false s i hlt h2] at h
    cases h
theorem pj_some (f : Nat) : ∀ d s e, pj f d s = some e → canOK e = true ∧ ∃ x t, e = d ++ x :: t ∧ ∃ b, cutE s = some (x.1.data.toList, b) := by
  induction f with
  | zero => intro d s e h; cases h
  | succ f ih =>
    intro d s e h
    cases hc : cutE s with
    | none => rw [pj_nocut hc] at h; cases h
    | some p =>
      obtain ⟨n, b⟩ := p
      cases hu : uqO (bA b) with
      | none => rw [pj_nouq hc hu] at h; cases h
      | some q =>
        obtain ⟨v, r⟩ := q
        by_cases hr : ∃ t, r = 44 :: t
        · obtain ⟨t, rfl⟩ := hr
          rw [pj_more hc hu] at h
          obtain ⟨h1, x, t', h2, _⟩ := ih _ _ _ h
          exact ⟨h1, (bA n, bA v), x :: t', by rw [h2]; simp, b, rfl⟩
        · rw [pj_last hc hu (fun t ht => hr ⟨t, ht⟩)] at h
          unfold endP at h
          split at h
          · rename_i hh
            cases h
            exact ⟨hh.2, (bA n, bA v), [], rfl, b, rfl⟩
          · cases h
theorem pj_long {f : Nat} {d : List Lab} {s : List UInt8} (h : 8 ≤ d.length) : pj f d s = none := by
  cases hp : pj f d s with
  | none => rfl
  | some e =>
    obtain ⟨h1, x, t, h2, _⟩ := pj_some f d s e hp
    have h3 := ((canOK_iff e).1 h1).2.1
    rw [h2] at h3
    simp at h3
    omega
theorem pj_word {f : Nat} {d : List Lab} {s : List UInt8} (h : ∀ b, s.drop (wordN s) ≠ 61 :: b) : pj f d s = none := by
  cases hp : pj f d s with
  | none => rfl
  | some e =>
    obtain ⟨h1, x, t, h2, b, hb⟩ := pj_some f d s e hp
    exfalso
    have hn : nameOK x.1 = true := by
      have := can_name e h1 d.length (by rw [h2]; simp)
      have e2 : labD e d.length = x := by rw [h2]; unfold labD; rw [List.getD_eq_getElem?_getD]; simp
      rw [e2] at this
      exact this
    have hs := cutE_eq hb
    have hw := wordN_app x.1.data.toList b (nameOK_word _ hn)
    rw [← hs] at hw
    refine h b ?_
    rw [hw]
    rw [hs, List.drop_left]
end Go.Proofs.Ytkcmaneibfambaa
