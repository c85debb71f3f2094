/- The machine, plainly. -/
import Derived.Test.YtdgkjiiegmnjfaaRxRead
namespace Go.Proofs.Ytdgkjiiegmnjfaa
open Go.RowKit Go.Joins
set_option linter.unusedVariables false

def inSp (p : Int) (x : Int × Int) : Bool := decide (x.1 ≤ p) && decide (p ≤ x.2)
def hasR (o : Bool) (sp : List (Int × Int)) (p : Int) : Bool := if sp.any (inSp p) = true then !o else o
abbrev rx_Fr := List Nat × List Nat
def reachF (L : List St) (rd : Nat) : Nat → Nat → rx_Fr → rx_Fr
  | 0, _, x => x
  | k + 1, n, x => if x.1[n]? = some rd then x else match L[n]? with
    | none => x
    | some s => if s.takes = true then (x.1.set n rd, x.2 ++ [n]) else s.next.foldl (fun x m => reachF L rd k m x) (x.1.set n rd, x.2)
def goOnF (L : List St) (rd k n : Nat) (x : rx_Fr) : rx_Fr := match L[n]? with
  | none => x
  | some s => s.next.foldl (fun x m => reachF L rd k m x) x
def passOne (L : List St) (rd k : Nat) (p : Int) (x : rx_Fr) (n : Nat) : rx_Fr := match L[n]? with
  | none => x
  | some s => if hasR s.others s.spans p = true then goOnF L rd k n x else x
def passF (L : List St) (rd k : Nat) (p : Int) (old : List Nat) (x : rx_Fr) : rx_Fr := old.foldl (passOne L rd k p) x
/-- How many states this round has not seen. -/
def unseen (rd : Nat) (l : List Nat) : Nat := (l.filter fun x => x != rd).length
theorem unseen_le (rd : Nat) (l : List Nat) : unseen rd l ≤ l.length := List.length_filter_le _ _
theorem unseen_set (rd : Nat) (l : List Nat) : ∀ (n x : Nat), l[n]? = some x → x ≠ rd → unseen rd (l.set n rd) + 1 = unseen rd l := by
  induction l with
  | nil => intro n x h; simp at h
  | cons a t ih =>
    intro n x h hx
    cases n with
    | zero =>
      simp at h
      subst h
      simp [unseen, hx]
    | succ n =>
      have := ih n x (by simpa using h) hx
      simp only [unseen] at this ⊢
      simp only [List.set_cons_succ, List.filter_cons]
      split
      · simp only [List.length_cons]; omega
      · exact this
/-- What a step of a round keeps. -/
structure FK (n B rd : Nat) (x y : rx_Fr) : Prop where
  len : x.1.length = n → y.1.length = n
  cnt : unseen rd y.1 ≤ unseen rd x.1
  tk : y.2.length + unseen rd y.1 ≤ x.2.length + unseen rd x.1
  lt : (∀ a ∈ x.2, a < n) → ∀ a ∈ y.2, a < n
  le : (∀ a ∈ x.1, a ≤ rd) → ∀ a ∈ y.1, a ≤ rd
theorem FK.refl (n B rd : Nat) (x : rx_Fr) : FK n B rd x x := ⟨id, Nat.le_refl _, Nat.le_refl _, id, id⟩
theorem FK.trans {n B rd : Nat} {x y z : rx_Fr} (h : FK n B rd x y) (k : FK n B rd y z) : FK n B rd x z := ⟨fun e => k.len (h.len e), Nat.le_trans k.cnt h.cnt, Nat.le_trans k.tk h.tk, fun e => k.lt (h.lt e), fun e => k.le (h.le e)⟩
theorem fold_FK {n B rd : Nat} (f : rx_Fr → Nat → rx_Fr) (hf : ∀ x m, x.1.length = n → FK n B rd x (f x m)) (l : List Nat) : ∀ x : rx_Fr, x.1.length = n → FK n B rd x (l.foldl f x) := by
  induction l with
  | nil => intro x _; exact FK.refl _ _ _ _
  | cons a t ih => intro x hx; exact (hf x a hx).trans (ih _ ((hf x a hx).len hx))
theorem reach_FK (L : List St) (rd k : Nat) : ∀ (n : Nat) (x : rx_Fr), x.1.length = L.length → FK L.length 0 rd x (reachF L rd k n x) := by
  induction k with
  | zero => intro n x _; exact FK.refl _ _ _ _
  | succ k ih =>
    intro n x hx
    simp only [reachF]
    split
    · exact FK.refl _ _ _ _
    · rename_i hne
      split
      · exact FK.refl _ _ _ _
      · rename_i s hs
        have hn : n < L.length := (List.getElem?_eq_some_iff.1 hs).1
        obtain ⟨v, hv⟩ : ∃ v, x.1[n]? = some v := ⟨_, List.getElem?_eq_getElem (by omega)⟩
        have hvr : v ≠ rd := by rintro rfl; exact hne hv
        have hc := unseen_set rd x.1 n v hv hvr
        have hset : ∀ a ∈ x.1.set n rd, a ∈ x.1 ∨ a = rd := fun a ha => List.mem_or_eq_of_mem_set ha
        have base : FK L.length 0 rd x (x.1.set n rd, x.2) := ⟨fun e => by simpa using e, by simp only; omega, by simp only; omega, id, fun e a ha => by rcases hset a ha with h | h; exact e a h; omega⟩
        split
        · refine ⟨fun e => by simpa using e, by simp only; omega, by simp only [List.length_append, List.length_singleton]; omega, fun e a ha => ?_, fun e a ha => by rcases hset a ha with h | h; exact e a h; omega⟩
          simp only [List.mem_append, List.mem_singleton] at ha
          rcases ha with ha | rfl
          · exact e a ha
          · exact hn
        · exact base.trans (fold_FK _ (fun x m hx => ih m x hx) _ _ (base.len hx))
theorem goOn_FK (L : List St) (rd k n : Nat) (x : rx_Fr) (hx : x.1.length = L.length) : FK L.length 0 rd x (goOnF L rd k n x) := by
  unfold goOnF
  split
  · exact FK.refl _ _ _ _
  · exact fold_FK _ (fun x m hx => reach_FK L rd k m x hx) _ _ hx
theorem pass_FK (L : List St) (rd k : Nat) (p : Int) (old : List Nat) (x : rx_Fr) (hx : x.1.length = L.length) : FK L.length 0 rd x (passF L rd k p old x) := by
  refine fold_FK _ (fun x n hx => ?_) _ _ hx
  unfold passOne
  split
  · exact FK.refl _ _ _ _
  · split
    · exact goOn_FK _ _ _ _ _ hx
    · exact FK.refl _ _ _ _
theorem unseen_all (rd : Nat) (l : List Nat) (h : ∀ a ∈ l, a ≤ rd) : unseen (rd + 1) l = l.length := by
  unfold unseen
  rw [List.filter_eq_self.2]
  intro a ha
  have := h a ha
  simp; omega

/-- Whether the machine fits the rest of a text. -/
def fitsF (L : List St) (to : Nat) (s : ByteArray) : Nat → Nat → Nat → rx_Fr → Bool
  | 0, _, rd, x => decide (x.1[to]? = some rd)
  | f + 1, pos, rd, x => if pos < s.size then
      (if (passF L (rd + 1) (L.length + 1) ((Utf8.decode s pos).1 : Int) x.2 (x.1, [])).2.length = 0 ∧ ¬ (passF L (rd + 1) (L.length + 1) ((Utf8.decode s pos).1 : Int) x.2 (x.1, [])).1[to]? = some (rd + 1) then false
      else fitsF L to s f (pos + (Utf8.decode s pos).2) (rd + 1) (passF L (rd + 1) (L.length + 1) ((Utf8.decode s pos).1 : Int) x.2 (x.1, [])))
    else decide (x.1[to]? = some rd)
def fitsS (L : List St) (f t : Nat) (s : ByteArray) : Bool := fitsF L t s (s.size + 1) 0 1 (reachF L 1 (L.length + 1) f (List.replicate L.length 0, []))
def matchS (p s : ByteArray) : Bool × Int := match readS p with
  | none => (false, 5)
  | some (L, f, t) => (fitsS L f t s, 0)
def checkS (p : ByteArray) : Int := match readS p with
  | none => 5
  | some _ => 0
end Go.Proofs.Ytdgkjiiegmnjfaa
