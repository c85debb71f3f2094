/- Patterns as plain data: signs, states, the reader and the machine, with what they keep. -/
import Derived.Test.YtdgkjiiegmnjfaaLabMath
namespace Go.Proofs.Ytdgkjiiegmnjfaa
open Go.RowKit
set_option linter.unusedVariables false

/-- A code point of a pattern, and whether it stands behind a backslash. -/
structure Sg where
  p : Int
  esc : Bool
/-- A state: whether it takes, its set, what is next. -/
structure St where
  takes : Bool
  others : Bool
  spans : List (Int × Int)
  next : List Nat
def St.zero : St := ⟨false, false, [], []⟩
abbrev Rd := List Sg × List St
abbrev Res := Nat × Nat × Rd

def oneOf (pts : List Int) (s : Sg) : Bool := !s.esc && pts.contains s.p
def atR (pts : List Int) : List Sg → Bool
  | [] => false
  | s :: _ => oneOf pts s
def takeR (pts : List Int) (l : List Sg) : Option (List Sg) := if atR pts l = true then some l.tail else none
def pointR (but : List Int) : List Sg → Option (Int × List Sg)
  | [] => none
  | s :: t => if oneOf but s = true then none else some (s.p, t)
def linkR (l : List St) (i j : Nat) : List St := l.modify i fun s => { s with next := s.next ++ [j] }
def markR (l : List St) (i : Nat) (o : Bool) (sp : List (Int × Int)) : List St := l.modify i fun s => { s with takes := true, others := o, spans := sp }
def stepR (l : List St) (o : Bool) (sp : List (Int × Int)) : List St := linkR (markR (l ++ [St.zero] ++ [St.zero]) l.length o sp) l.length (l.length + 1)
def around0 (l : List St) (f t : Nat) : List St := linkR (linkR (l ++ [St.zero] ++ [St.zero]) l.length f) t (l.length + 1)
def around1 (l : List St) (n : Nat) (past : Bool) : List St := if past = true then linkR l n (n + 1) else l
def around2 (l : List St) (f t : Nat) (back : Bool) : List St := if back = true then linkR l t f else l
def aroundR (l : List St) (f t : Nat) (past back : Bool) : List St := around2 (around1 (around0 l f t) l.length past) f t back
def memberR (l : List Sg) : Option ((Int × Int) × List Sg) := match pointR [93, 45] l with
  | none => none
  | some (a, l1) => match takeR [45] l1 with
    | none => some ((a, a), l1)
    | some l2 => match pointR [93, 45] l2 with
      | none => none
      | some (b, l3) => if a ≤ b then some ((a, b), l3) else none
def classL : Nat → List Sg → List (Int × Int) → Option (List (Int × Int) × List Sg)
  | 0, _, _ => none
  | k + 1, l, acc => match takeR [93] l with
    | some l' => some (acc, l')
    | none => match memberR l with
      | none => none
      | some (m, l') => classL k l' (acc ++ [m])
def caretR (l : List Sg) : Bool × List Sg := match takeR [94] l with
  | some l' => (true, l')
  | none => (false, l)
def classR (R : Rd) : Option Res := match classL ((caretR R.1).2.length + 1) (caretR R.1).2 [] with
  | none => none
  | some (sp, l') => if sp.length = 0 then none else some (R.2.length, R.2.length + 1, l', stepR R.2 (caretR R.1).1 sp)
def groupR (P : Option (Rd → Option Res)) (R : Rd) : Option Res := match P with
  | none => none
  | some p => match p R with
    | none => none
    | some (f, t, R') => match takeR [41] R'.1 with
      | none => none
      | some l' => some (f, t, l', R'.2)
def atomR (P : Option (Rd → Option Res)) (R : Rd) : Option Res := match takeR [40] R.1 with
  | some l => groupR P (l, R.2)
  | none => match takeR [91] R.1 with
    | some l => classR (l, R.2)
    | none => match takeR [46] R.1 with
      | some l => some (R.2.length, R.2.length + 1, l, stepR R.2 true [])
      | none => match pointR [42, 43, 63, 124, 40, 41, 91] R.1 with
        | none => none
        | some (a, l) => some (R.2.length, R.2.length + 1, l, stepR R.2 false [(a, a)])
def pieceR (P : Option (Rd → Option Res)) (R : Rd) : Option Res := match atomR P R with
  | none => none
  | some (f, t, R') => match takeR [42] R'.1 with
    | some l => some (R'.2.length, R'.2.length + 1, l, aroundR R'.2 f t true true)
    | none => match takeR [43] R'.1 with
      | some l => some (R'.2.length, R'.2.length + 1, l, aroundR R'.2 f t false true)
      | none => match takeR [63] R'.1 with
        | some l => some (R'.2.length, R'.2.length + 1, l, aroundR R'.2 f t true false)
        | none => some (f, t, R')
def seqL (A : Rd → Option Res) : Nat → Nat → Nat → Rd → Option Res
  | 0, _, _, _ => none
  | k + 1, s, t, R => if R.1.length = 0 ∨ atR [124, 41] R.1 = true then some (s, t, R) else match A R with
    | none => none
    | some (f, t', R') => seqL A k s t' (R'.1, linkR R'.2 t f)
def seqR (A : Rd → Option Res) (R : Rd) : Option Res := seqL A (R.1.length + 1) R.2.length R.2.length (R.1, R.2 ++ [St.zero])
def patL (S : Rd → Option Res) : Nat → Nat → Nat → Rd → Option Res
  | 0, _, _, _ => none
  | k + 1, f, t, R => match S R with
    | none => none
    | some (a, b, R') => match takeR [124] R'.1 with
      | none => some (f, t, R'.1, linkR (linkR R'.2 f a) b t)
      | some l => patL S k f t (l, linkR (linkR R'.2 f a) b t)
def patB (P : Option (Rd → Option Res)) (R : Rd) : Option Res := patL (seqR (pieceR P)) (R.1.length + 1) R.2.length (R.2.length + 1) (R.1, R.2 ++ [St.zero] ++ [St.zero])
/-- A pattern within which brackets may stand in one another k times. -/
def patN : Nat → Rd → Option Res
  | 0 => patB none
  | k + 1 => patB (some (patN k))
def grpN : Nat → Option (Rd → Option Res)
  | 0 => none
  | k + 1 => some (patN k)
theorem patN_eq (k : Nat) : patN k = patB (grpN k) := by cases k <;> rfl

/-! What they keep. -/
def siz : List St → Nat
  | [] => 0
  | s :: l => 1 + s.next.length + siz l
def WF (n : Nat) (l : List St) : Prop := ∀ s ∈ l, ∀ j ∈ s.next, j < n
theorem siz_append (a b : List St) : siz (a ++ b) = siz a + siz b := by
  induction a with
  | nil => simp [siz]
  | cons s t ih => simp [siz, ih]; omega
theorem siz_len (l : List St) : l.length ≤ siz l := by
  induction l with
  | nil => simp [siz]
  | cons s t ih => simp [siz]; omega
theorem siz_next (l : List St) : ∀ s ∈ l, s.next.length + 1 ≤ siz l := by
  induction l with
  | nil => simp
  | cons s t ih =>
    intro x hx
    simp only [List.mem_cons] at hx
    simp only [siz]
    rcases hx with rfl | hx
    · omega
    · have := ih x hx; omega
theorem linkR_length (l : List St) (i j : Nat) : (linkR l i j).length = l.length := by simp [linkR]
theorem markR_length (l : List St) (i : Nat) (o : Bool) (sp) : (markR l i o sp).length = l.length := by simp [markR]
theorem siz_link (l : List St) : ∀ (i j : Nat), i < l.length → siz (linkR l i j) = siz l + 1 := by
  induction l with
  | nil => intro i j h; simp at h
  | cons s t ih =>
    intro i j h
    cases i with
    | zero => simp [linkR, siz]; omega
    | succ i =>
      have := ih i j (by simpa using h)
      simp only [linkR] at this
      simp only [linkR, List.modify_succ_cons, siz, this]
      omega
theorem siz_mark (l : List St) : ∀ (i : Nat) (o : Bool) (sp), siz (markR l i o sp) = siz l := by
  induction l with
  | nil => intro i o sp; simp [markR, siz]
  | cons s t ih =>
    intro i o sp
    cases i with
    | zero => simp [markR, siz]
    | succ i =>
      have := ih i o sp
      simp only [markR] at this
      simp only [markR, List.modify_succ_cons, siz, this]
theorem WF.mono {n m : Nat} {l : List St} (h : WF n l) (hm : n ≤ m) : WF m l := fun s hs j hj => Nat.lt_of_lt_of_le (h s hs j hj) hm
theorem WF.append {n : Nat} {l : List St} (h : WF n l) : WF n (l ++ [St.zero]) := by
  intro s hs j hj
  simp only [List.mem_append, List.mem_singleton] at hs
  rcases hs with hs | rfl
  · exact h s hs j hj
  · simp [St.zero] at hj
theorem mem_modify' {α : Type} (f : α → α) (l : List α) : ∀ (i : Nat) (x : α), x ∈ l.modify i f → x ∈ l ∨ ∃ y ∈ l, x = f y := by
  induction l with
  | nil => intro i x h; simp at h
  | cons a t ih =>
    intro i x h
    cases i with
    | zero =>
      simp only [List.modify_zero_cons, List.mem_cons] at h
      rcases h with rfl | h
      · exact .inr ⟨a, by simp, rfl⟩
      · exact .inl (by simp [h])
    | succ i =>
      simp only [List.modify_succ_cons, List.mem_cons] at h
      rcases h with rfl | h
      · exact .inl (by simp)
      · rcases ih i x h with h | ⟨y, hy, e⟩
        · exact .inl (by simp [h])
        · exact .inr ⟨y, by simp [hy], e⟩
theorem WF.link {n : Nat} {l : List St} (h : WF n l) (i j : Nat) (hj : j < n) : WF n (linkR l i j) := by
  intro s hs k hk
  rcases mem_modify' _ l i s hs with hs | ⟨y, hy, rfl⟩
  · exact h s hs k hk
  · simp only [List.mem_append, List.mem_singleton] at hk
    rcases hk with hk | rfl
    · exact h y hy k hk
    · exact hj
theorem WF.mark {n : Nat} {l : List St} (h : WF n l) (i : Nat) (o : Bool) (sp) : WF n (markR l i o sp) := by
  intro s hs k hk
  rcases mem_modify' _ l i s hs with hs | ⟨y, hy, rfl⟩
  · exact h s hs k hk
  · exact h y hy k hk

/-- What a part keeps: c is what it may cost over eight a sign. -/
structure Kept (c : Nat) (R : Rd) (r : Res) : Prop where
  f : r.1 < r.2.2.2.length
  t : r.2.1 < r.2.2.2.length
  le : R.2.length ≤ r.2.2.2.length
  wf : WF R.2.length R.2 → WF r.2.2.2.length r.2.2.2
  left : r.2.2.1.length ≤ R.1.length
  cost : siz r.2.2.2 + 8 * r.2.2.1.length ≤ siz R.2 + 8 * R.1.length + c
theorem takeR_some {pts : List Int} {l l' : List Sg} (h : takeR pts l = some l') : ∃ s, l = s :: l' ∧ oneOf pts s = true := by
  unfold takeR at h
  split at h
  · cases l with
    | nil => rename_i h1; simp [atR] at h1
    | cons s t =>
      rename_i h1
      simp only [List.tail_cons, Option.some.injEq] at h
      subst h
      exact ⟨s, rfl, h1⟩
  · cases h
theorem takeR_len {pts : List Int} {l l' : List Sg} (h : takeR pts l = some l') : l'.length + 1 = l.length := by
  obtain ⟨s, rfl, _⟩ := takeR_some h; simp
theorem pointR_len {pts : List Int} {l l' : List Sg} {a : Int} (h : pointR pts l = some (a, l')) : l'.length + 1 = l.length := by
  cases l with
  | nil => simp [pointR] at h
  | cons s t =>
    simp only [pointR] at h
    split at h
    · cases h
    · simp only [Option.some.injEq, Prod.mk.injEq] at h
      simp [h.2]
theorem memberR_len {l l' : List Sg} {m : Int × Int} (h : memberR l = some (m, l')) : l'.length + 1 ≤ l.length := by
  unfold memberR at h
  split at h
  · cases h
  · rename_i a l1 h1
    have e1 := pointR_len h1
    split at h
    · simp only [Option.some.injEq, Prod.mk.injEq] at h
      obtain ⟨_, rfl⟩ := h
      omega
    · rename_i l2 h2
      have e2 := takeR_len h2
      split at h
      · cases h
      · rename_i b l3 h3
        have e3 := pointR_len h3
        split at h
        · simp only [Option.some.injEq, Prod.mk.injEq] at h
          obtain ⟨_, rfl⟩ := h
          omega
        · cases h
theorem classL_len (k : Nat) : ∀ (l l' : List Sg) (acc sp : List (Int × Int)), classL k l acc = some (sp, l') → l'.length + 1 ≤ l.length := by
  induction k with
  | zero => intro l l' acc sp h; cases h
  | succ k ih =>
    intro l l' acc sp h
    simp only [classL] at h
    split at h
    · rename_i l1 h1
      simp only [Option.some.injEq, Prod.mk.injEq] at h
      obtain ⟨_, rfl⟩ := h
      have := takeR_len h1
      omega
    · split at h
      · cases h
      · rename_i m l1 h1
        have := memberR_len h1
        have := ih _ _ _ _ h
        omega
theorem caretR_len (l : List Sg) : (caretR l).2.length ≤ l.length := by
  unfold caretR
  split
  · rename_i l' h
    have := takeR_len h
    simp; omega
  · exact Nat.le_refl _
theorem stepR_length (l : List St) (o : Bool) (sp) : (stepR l o sp).length = l.length + 2 := by simp [stepR, linkR_length, markR_length]
theorem stepR_siz (l : List St) (o : Bool) (sp) : siz (stepR l o sp) = siz l + 3 := by
  unfold stepR
  rw [siz_link _ _ _ (by rw [markR_length]; simp), siz_mark, siz_append, siz_append]
  rfl
theorem stepR_wf {l : List St} (h : WF l.length l) (o : Bool) (sp) : WF (stepR l o sp).length (stepR l o sp) := by
  rw [stepR_length]
  exact WF.link (WF.mark (WF.append (WF.append (h.mono (by omega)))) _ _ _) _ _ (by omega)
theorem stepR_kept {l l0 : List Sg} {L : List St} (o : Bool) (sp) (h : l.length + 1 ≤ l0.length) : Kept 0 (l0, L) (L.length, L.length + 1, l, stepR L o sp) ∧ siz (stepR L o sp) + 8 * l.length + 1 ≤ siz L + 8 * l0.length := by
  refine ⟨⟨by simp [stepR_length], by simp [stepR_length], by simp [stepR_length], fun h => stepR_wf h _ _, by simp; omega, ?_⟩, ?_⟩ <;> (simp only [stepR_siz]; omega)
theorem around0_length (l : List St) (f t : Nat) : (around0 l f t).length = l.length + 2 := by simp [around0, linkR_length]
theorem around1_length (l : List St) (n : Nat) (b : Bool) : (around1 l n b).length = l.length := by unfold around1; split <;> simp [linkR_length]
theorem around2_length (l : List St) (f t : Nat) (b : Bool) : (around2 l f t b).length = l.length := by unfold around2; split <;> simp [linkR_length]
theorem aroundR_length (l : List St) (f t : Nat) (p b : Bool) : (aroundR l f t p b).length = l.length + 2 := by simp [aroundR, around2_length, around1_length, around0_length]
theorem around0_siz (l : List St) (f t : Nat) (hf : f < l.length) (ht : t < l.length) : siz (around0 l f t) = siz l + 4 := by
  unfold around0
  rw [siz_link _ _ _ (by rw [linkR_length]; simp; omega), siz_link _ _ _ (by simp), siz_append, siz_append]
  rfl
theorem around1_siz (l : List St) (n : Nat) (b : Bool) (h : n < l.length) : siz (around1 l n b) ≤ siz l + 1 := by
  unfold around1; split
  · rw [siz_link _ _ _ h]; omega
  · omega
theorem around2_siz (l : List St) (f t : Nat) (b : Bool) (h : t < l.length) : siz (around2 l f t b) ≤ siz l + 1 := by
  unfold around2; split
  · rw [siz_link _ _ _ h]; omega
  · omega
theorem aroundR_siz (l : List St) (f t : Nat) (p b : Bool) (hf : f < l.length) (ht : t < l.length) : siz (aroundR l f t p b) ≤ siz l + 6 := by
  have h1 := around0_siz l f t hf ht
  have h2 := around1_siz (around0 l f t) l.length p (by rw [around0_length]; omega)
  have h3 := around2_siz (around1 (around0 l f t) l.length p) f t b (by rw [around1_length, around0_length]; omega)
  unfold aroundR
  omega
theorem aroundR_wf {l : List St} (h : WF l.length l) (f t : Nat) (p b : Bool) (hf : f < l.length) (ht : t < l.length) : WF (aroundR l f t p b).length (aroundR l f t p b) := by
  rw [aroundR_length]
  have h0 : WF (l.length + 2) (around0 l f t) := WF.link (WF.link (WF.append (WF.append (h.mono (by omega)))) _ _ (by omega)) _ _ (by omega)
  have h1 : WF (l.length + 2) (around1 (around0 l f t) l.length p) := by
    unfold around1; split
    · exact WF.link h0 _ _ (by omega)
    · exact h0
  unfold aroundR around2; split
  · exact WF.link h1 _ _ (by omega)
  · exact h1

def PKept (P : Option (Rd → Option Res)) : Prop := ∀ p, P = some p → ∀ R r, p R = some r → Kept 5 R r
theorem group_kept {P : Option (Rd → Option Res)} (hP : PKept P) {l0 l : List Sg} {L : List St} {r : Res} (hl : l.length + 1 = l0.length) (h : groupR P (l, L) = some r) : Kept 0 (l0, L) r ∧ siz r.2.2.2 + 8 * r.2.2.1.length + 1 ≤ siz L + 8 * l0.length ∧ r.2.2.1.length < l0.length := by
  cases P with
  | none => cases h
  | some p =>
    simp only [groupR] at h
    split at h
    · cases h
    · rename_i f t R' h1
      have K := hP p rfl _ _ h1
      split at h
      · cases h
      · rename_i l' h2
        simp only [Option.some.injEq] at h
        subst h
        have e2 := takeR_len h2
        have c := K.cost
        have lf := K.left
        simp only at e2 c lf
        refine ⟨⟨K.f, K.t, K.le, K.wf, ?_, ?_⟩, ?_, ?_⟩ <;> (simp only; omega)
theorem class_kept {l0 l : List Sg} {L : List St} {r : Res} (hl : l.length + 1 = l0.length) (h : classR (l, L) = some r) : Kept 0 (l0, L) r ∧ siz r.2.2.2 + 8 * r.2.2.1.length + 1 ≤ siz L + 8 * l0.length ∧ r.2.2.1.length < l0.length := by
  unfold classR at h
  split at h
  · cases h
  · rename_i sp l' h1
    split at h
    · cases h
    · simp only [Option.some.injEq] at h
      subst h
      have e1 := classL_len _ _ _ _ _ h1
      have e2 := caretR_len l
      simp only at e1 e2
      have := stepR_kept (l := l') (l0 := l0) (L := L) (caretR l).1 sp (by omega)
      exact ⟨this.1, this.2, by simp only; omega⟩
theorem atom_kept {P : Option (Rd → Option Res)} (hP : PKept P) {R : Rd} {r : Res} (h : atomR P R = some r) : Kept 0 R r ∧ siz r.2.2.2 + 8 * r.2.2.1.length + 1 ≤ siz R.2 + 8 * R.1.length ∧ r.2.2.1.length < R.1.length := by
  obtain ⟨l0, L⟩ := R
  unfold atomR at h
  split at h
  · rename_i l h1
    exact group_kept hP (takeR_len h1) h
  · split at h
    · rename_i l h1
      exact class_kept (takeR_len h1) h
    · split at h
      · rename_i l h1
        have e1 := takeR_len h1
        simp only at e1
        simp only [Option.some.injEq] at h
        subst h
        have := stepR_kept (l := l) (l0 := l0) (L := L) true [] (by omega)
        exact ⟨this.1, this.2, by simp only; omega⟩
      · split at h
        · cases h
        · rename_i a l h1
          have e1 := pointR_len h1
          simp only at e1
          simp only [Option.some.injEq] at h
          subst h
          have := stepR_kept (l := l) (l0 := l0) (L := L) false [(a, a)] (by omega)
          exact ⟨this.1, this.2, by simp only; omega⟩
theorem around_kept {R : Rd} {r : Res} {l : List Sg} (K : Kept 0 R r) (hc : siz r.2.2.2 + 8 * r.2.2.1.length + 1 ≤ siz R.2 + 8 * R.1.length) (hl : l.length + 1 = r.2.2.1.length) (p b : Bool) :
    Kept 0 R (r.2.2.2.length, r.2.2.2.length + 1, l, aroundR r.2.2.2 r.1 r.2.1 p b) ∧ siz (aroundR r.2.2.2 r.1 r.2.1 p b) + 8 * l.length + 1 ≤ siz R.2 + 8 * R.1.length := by
  have h1 := aroundR_siz r.2.2.2 r.1 r.2.1 p b K.f K.t
  have h2 := K.le
  have h3 := K.left
  refine ⟨⟨by simp [aroundR_length], by simp [aroundR_length], by simp only [aroundR_length]; omega, fun h => aroundR_wf (K.wf h) _ _ _ _ K.f K.t, by simp only; omega, ?_⟩, ?_⟩ <;> (try simp only) <;> omega
theorem piece_kept {P : Option (Rd → Option Res)} (hP : PKept P) {R : Rd} {r : Res} (h : pieceR P R = some r) : Kept 0 R r ∧ siz r.2.2.2 + 8 * r.2.2.1.length + 1 ≤ siz R.2 + 8 * R.1.length ∧ r.2.2.1.length < R.1.length := by
  unfold pieceR at h
  split at h
  · cases h
  · rename_i f t R' h0
    obtain ⟨K, c, d⟩ := atom_kept hP h0
    split at h
    · rename_i l h1
      have e1 := takeR_len h1
      simp only [Option.some.injEq] at h
      subst h
      have := around_kept K c e1 true true
      exact ⟨this.1, this.2, by simp only at d ⊢; omega⟩
    · split at h
      · rename_i l h1
        have e1 := takeR_len h1
        simp only [Option.some.injEq] at h
        subst h
        have := around_kept K c e1 false true
        exact ⟨this.1, this.2, by simp only at d ⊢; omega⟩
      · split at h
        · rename_i l h1
          have e1 := takeR_len h1
          simp only [Option.some.injEq] at h
          subst h
          have := around_kept K c e1 true false
          exact ⟨this.1, this.2, by simp only at d ⊢; omega⟩
        · simp only [Option.some.injEq] at h
          subst h
          exact ⟨K, c, d⟩
theorem seqL_kept {P : Option (Rd → Option Res)} (hP : PKept P) (k : Nat) : ∀ (s t : Nat) (R : Rd) (r : Res), s < R.2.length → t < R.2.length → seqL (pieceR P) k s t R = some r → Kept 0 R r := by
  induction k with
  | zero => intro s t R r _ _ h; cases h
  | succ k ih =>
    intro s t R r hs ht h
    simp only [seqL] at h
    split at h
    · simp only [Option.some.injEq] at h
      subst h
      exact ⟨hs, ht, Nat.le_refl _, id, Nat.le_refl _, by simp⟩
    · split at h
      · cases h
      · rename_i f t' R' h1
        obtain ⟨K, c, d⟩ := piece_kept hP h1
        have hle := K.le
        have hf := K.f
        have ht' := K.t
        simp only at hle hf ht' c d
        have := ih s t' (R'.1, linkR R'.2 t f) r (by simp only [linkR_length]; omega) (by simp only [linkR_length]; omega) h
        have c2 := this.cost
        have l2 := this.left
        have e2 := this.le
        simp only [linkR_length, siz_link R'.2 t f (by omega)] at c2 l2 e2
        exact ⟨this.f, this.t, by omega, fun hw => this.wf (by simp only [linkR_length]; exact WF.link (K.wf hw) _ _ hf), by omega, by omega⟩
theorem seq_kept {P : Option (Rd → Option Res)} (hP : PKept P) {R : Rd} {r : Res} (h : seqR (pieceR P) R = some r) : Kept 1 R r := by
  have K := seqL_kept hP _ _ _ _ _ (by simp) (by simp) h
  have c := K.cost
  have l := K.left
  have e := K.le
  simp only [siz_append, List.length_append, List.length_singleton] at c l e
  have hz : siz [St.zero] = 1 := rfl
  exact ⟨K.f, K.t, by omega, fun hw => K.wf (by simp only [List.length_append, List.length_singleton]; exact WF.append (hw.mono (by omega))), l, by omega⟩
theorem patL_kept {P : Option (Rd → Option Res)} (hP : PKept P) (k : Nat) : ∀ (f t : Nat) (R : Rd) (r : Res), f < R.2.length → t < R.2.length → patL (seqR (pieceR P)) k f t R = some r → Kept 3 R r := by
  induction k with
  | zero => intro s t R r _ _ h; cases h
  | succ k ih =>
    intro f t R r hf ht h
    simp only [patL] at h
    split at h
    · cases h
    · rename_i a b R' h1
      have K := seq_kept hP h1
      have c := K.cost
      have l := K.left
      have e := K.le
      have ha := K.f
      have hb := K.t
      simp only at c l e ha hb
      have s1 := siz_link R'.2 f a (by omega)
      have s2 := siz_link (linkR R'.2 f a) b t (by rw [linkR_length]; omega)
      have wf : WF R.2.length R.2 → WF (linkR (linkR R'.2 f a) b t).length (linkR (linkR R'.2 f a) b t) := fun hw => by
        rw [linkR_length, linkR_length]
        exact WF.link (WF.link (K.wf hw) _ _ ha) _ _ (show t < R'.2.length by omega)
      split at h
      · simp only [Option.some.injEq] at h
        subst h
        have z1 : f < (linkR (linkR R'.2 f a) b t).length := by rw [linkR_length, linkR_length]; omega
        have z2 : t < (linkR (linkR R'.2 f a) b t).length := by rw [linkR_length, linkR_length]; omega
        have z3 : R.2.length ≤ (linkR (linkR R'.2 f a) b t).length := by rw [linkR_length, linkR_length]; omega
        exact ⟨z1, z2, z3, wf, l, by simp only; omega⟩
      · rename_i l' h2
        have e2 := takeR_len h2
        have := ih f t (l', linkR (linkR R'.2 f a) b t) r (by simp only [linkR_length]; omega) (by simp only [linkR_length]; omega) h
        have c2 := this.cost
        have l2 := this.left
        have q2 := this.le
        simp only [linkR_length, s1, s2] at c2 l2 q2
        exact ⟨this.f, this.t, by omega, fun hw => this.wf (wf hw), by omega, by omega⟩
theorem patB_kept {P : Option (Rd → Option Res)} (hP : PKept P) {R : Rd} {r : Res} (h : patB P R = some r) : Kept 5 R r := by
  have K := patL_kept hP _ _ _ _ _ (by simp) (by simp) h
  have c := K.cost
  have l := K.left
  have e := K.le
  have hz : siz [St.zero] = 1 := rfl
  simp only [siz_append, List.length_append, List.length_singleton] at c l e
  exact ⟨K.f, K.t, by omega, fun hw => K.wf (by simp only [List.length_append, List.length_singleton]; exact WF.append (WF.append (hw.mono (by omega)))), l, by omega⟩
theorem patN_kept (k : Nat) : ∀ {R : Rd} {r : Res}, patN k R = some r → Kept 5 R r := by
  induction k with
  | zero => intro R r h; exact patB_kept (P := none) (fun p hp => by cases hp) h
  | succ k ih => intro R r h; exact patB_kept (P := some (patN k)) (fun p hp => by cases hp; intro R r h; exact ih h) h
theorem grpN_kept (k : Nat) : PKept (grpN k) := by
  intro p hp R r h
  cases k with
  | zero => cases hp
  | succ k => cases hp; exact patN_kept k h
end Go.Proofs.Ytdgkjiiegmnjfaa
