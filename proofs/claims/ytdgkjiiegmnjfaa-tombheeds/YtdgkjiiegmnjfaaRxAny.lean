/- What the patterns of any code points, and of all but one, fit. -/
import Derived.Test.YtdgkjiiegmnjfaaRxMatch
namespace Go.Proofs.Ytdgkjiiegmnjfaa
open Go.RowKit Go.Joins
set_option linter.unusedVariables false
def LX (sp : List (Int × Int)) : List St := [⟨false, false, [], [2]⟩, ⟨false, false, [], []⟩, ⟨false, false, [], [5]⟩, ⟨true, true, sp, [4]⟩, ⟨false, false, [], [6, 3]⟩, ⟨false, false, [], [3, 6]⟩, ⟨false, false, [], [1]⟩]
theorem read_dot : readS ⟨#[46, 42]⟩ = some (LX [], 0, 1) := by rfl
theorem read_not : readS ⟨#[91, 94, 97, 93, 42]⟩ = some (LX [(97, 97)], 0, 1) := by rfl
def runesAll (q : Nat → Bool) (s : ByteArray) : Nat → Nat → Bool
  | 0, _ => true
  | f + 1, pos => if pos < s.size then q (Utf8.decode s pos).1 && runesAll q s f (pos + (Utf8.decode s pos).2) else true
theorem first_round (sp : List (Int × Int)) : reachF (LX sp) 1 8 0 (List.replicate 7 0, []) = ([1, 1, 1, 1, 0, 1, 1], [3]) := by rfl
theorem pass_yes (sp : List (Int × Int)) (R a b c d e f g : Nat) (p : Int) (hb : b ≠ R) (hd : d ≠ R) (he : e ≠ R) (hg : g ≠ R) (h : hasR true sp p = true) :
    passF (LX sp) R 8 p [3] ([a, b, c, d, e, f, g], []) = ([a, R, c, R, R, f, R], [3]) := by
  simp [passF, passOne, goOnF, reachF, LX, h, hb, hd, he, hg]
theorem pass_no (sp : List (Int × Int)) (R a b c d e f g : Nat) (p : Int) (h : hasR true sp p = false) :
    passF (LX sp) R 8 p [3] ([a, b, c, d, e, f, g], []) = ([a, b, c, d, e, f, g], []) := by
  simp [passF, passOne, LX, h]
theorem fits_rounds (sp : List (Int × Int)) (s : ByteArray) (k : Nat) : ∀ (pos rd a c d e f g : Nat), d ≤ rd → e ≤ rd → g ≤ rd → s.size < pos + k → fitsF (LX sp) 1 s k pos rd ([a, rd, c, d, e, f, g], [3]) = runesAll (fun r => hasR true sp (r : Int)) s k pos := by
  induction k with
  | zero => intro pos rd a c d e f g hd he hg hk; simp [fitsF, runesAll]
  | succ k ih =>
    intro pos rd a c d e f g hd he hg hk
    simp only [fitsF, runesAll]
    by_cases hp : pos < s.size
    · rw [if_pos hp, if_pos hp]
      have hL : (LX sp).length + 1 = 8 := rfl
      rw [hL]
      have hw := width_pos s pos hp
      cases h : hasR true sp ((Utf8.decode s pos).1 : Int) with
      | true =>
        rw [pass_yes sp (rd + 1) a rd c d e f g _ (by omega) (by omega) (by omega) (by omega) h]
        rw [if_neg (by simp)]
        rw [ih (pos + (Utf8.decode s pos).2) (rd + 1) a c (rd + 1) (rd + 1) f (rd + 1) (Nat.le_refl _) (Nat.le_refl _) (Nat.le_refl _) (by omega)]
        simp
      | false =>
        rw [pass_no sp (rd + 1) a rd c d e f g _ h]
        rw [if_pos (by simp)]
        simp
    · rw [if_neg hp, if_neg hp]
      simp
theorem fits_LX (sp : List (Int × Int)) (s : ByteArray) : fitsS (LX sp) 0 1 s = runesAll (fun r => hasR true sp (r : Int)) s (s.size + 1) 0 := by
  have h := fits_rounds sp s (s.size + 1) 0 1 1 1 1 0 1 1 (Nat.le_refl _) (by omega) (Nat.le_refl _) (by omega)
  rw [← h]
  rfl
theorem runesAll_true (q : Nat → Bool) (hq : ∀ r, q r = true) (s : ByteArray) (k : Nat) : ∀ pos, runesAll q s k pos = true := by
  induction k with
  | zero => intro pos; rfl
  | succ k ih =>
    intro pos
    simp only [runesAll]
    split
    · rw [hq, ih]; rfl
    · rfl
theorem match_dot (s : ByteArray) : matchS ⟨#[46, 42]⟩ s = (true, 0) := by
  unfold matchS
  rw [read_dot]
  simp only
  rw [fits_LX, runesAll_true (fun r : Nat => hasR true [] (r : Int)) (fun r => rfl)]
def notA (s : ByteArray) (k pos : Nat) : Bool := runesAll (fun r => decide (r ≠ 97)) s k pos
theorem match_not (s : ByteArray) : matchS ⟨#[91, 94, 97, 93, 42]⟩ s = (notA s (s.size + 1) 0, 0) := by
  unfold matchS
  rw [read_not]
  simp only
  rw [fits_LX]
  have e : (fun r : Nat => hasR true [(97, 97)] (r : Int)) = fun r => decide (r ≠ 97) := by
    funext r
    unfold hasR
    simp only [List.any_cons, List.any_nil, Bool.or_false, inSp]
    by_cases h : r = 97
    · subst h; rfl
    · have : ¬ ((97 : Int) ≤ (r : Int) ∧ (r : Int) ≤ 97) := by omega
      rw [if_neg (by simpa using this)]
      simp [h]
  rw [e]
  rfl
end Go.Proofs.Ytdgkjiiegmnjfaa
