/- Encode and Decode, each as one answer. -/
import Derived.Test.YtkcmaneibfambaaLabDec
namespace Go.Proofs.Ytkcmaneibfambaa
open Go.RowKit
set_option linter.unusedVariables false

def eL (ls : List Lab) : List Nat := if canOK ls = true then encN ls else []
def eE (ls : List Lab) : Int := if canOK ls = true then 0 else 1
def dL (zs : List Nat) : List Lab := match decP zs with
  | none => []
  | some p => if canOK p.1 = true then p.1 else []
def dR (zs : List Nat) : List Nat := match decP zs with
  | none => []
  | some p => if canOK p.1 = true then p.2 else []
def dE (zs : List Nat) : Int := match decP zs with
  | none => 3
  | some p => if canOK p.1 = true then 0 else 5
theorem eL_len (ls : List Lab) : (eL ls).length ≤ 1000 := by
  unfold eL
  split
  · rename_i h
    have h1 := encTo_len ls h ls.length (Nat.le_refl _)
    have h2 := ((canOK_iff ls).1 h).2.1
    unfold encN; omega
  · exact Nat.zero_le _
theorem pieceN_len {b x r : List Nat} (h : pieceN b = some (x, r)) : r.length ≤ b.length := by
  cases b with
  | nil => cases h
  | cons n t =>
    simp only [pieceN] at h
    by_cases hl : t.length < n
    · rw [if_pos hl] at h; cases h
    · rw [if_neg hl] at h; cases h; simp; omega
theorem decN_len (k : Nat) : ∀ (b : List Nat) (ls : List Lab) (r : List Nat), decN k b = some (ls, r) → r.length ≤ b.length := by
  induction k with
  | zero => intro b ls r h; simp only [decN] at h; cases h; exact Nat.le_refl _
  | succ k ih =>
    intro b ls r h
    simp only [decN] at h
    cases hp : pieceN b with
    | none => rw [hp] at h; cases h
    | some p =>
      obtain ⟨n, b1⟩ := p
      rw [hp] at h
      simp only at h
      cases hq : pieceN b1 with
      | none => rw [hq] at h; cases h
      | some q =>
        obtain ⟨v, b2⟩ := q
        rw [hq] at h
        simp only at h
        cases hd : decN k b2 with
        | none => rw [hd] at h; cases h
        | some d =>
          obtain ⟨ls', r'⟩ := d
          rw [hd] at h
          simp only [Option.map_some, addL, Option.some.injEq, Prod.mk.injEq] at h
          have h1 := ih b2 ls' r' hd
          have h2 := pieceN_len hp
          have h3 := pieceN_len hq
          rw [← h.2]; omega
theorem dR_len (zs : List Nat) : (dR zs).length ≤ zs.length := by
  unfold dR
  cases zs with
  | nil => exact Nat.le_refl _
  | cons n t =>
    cases hd : decN n t with
    | none => simp [decP, hd]
    | some p =>
      have := decN_len n t p.1 p.2 hd
      simp only [decP, hd]
      split <;> simp <;> omega
theorem dL_len (zs : List Nat) : (dL zs).length ≤ 8 := by
  unfold dL
  split
  · exact Nat.zero_le _
  · split
    · rename_i h; exact ((canOK_iff _).1 h).2.1
    · exact Nat.zero_le _
theorem enc_any (a : Option Addr) (len cap : Nat) (ls : List Lab) (w : World) (h : Ls w a len ls) (hr : len ≤ 140737488355328) :
    Calls Try.prog 30 #[.slice a len cap] w fun e w' => ∃ a' c', e = .returned (.tuple #[.slice a' (eL ls).length c', .int .i64 (eE ls)]) ∧ Bs w' a' (eL ls).length (eL ls) ∧ Below w.heap.size w w' := by
  unfold eL eE
  cases hc : canOK ls with
  | false =>
    refine (enc_no a len cap ls w h hr hc).mono fun e w' hh => ?_
    exact ⟨none, 0, hh.1, Bs.nil _, hh.2⟩
  | true =>
    refine (enc_yes a len cap ls w h hr hc).mono fun e w' hh => ?_
    obtain ⟨g, c, h1, _, _, _, h2, _, h3⟩ := hh
    exact ⟨_, c, h1, h2, h3⟩
theorem uni_of_post {zs : List Nat} {w w' : World} {e : Ending} (h : DecPost zs w e w') :
    ∃ a' c' a2 c2, e = .returned (.tuple #[.slice a' (dL zs).length c', .slice a2 (dR zs).length c2, .int .i64 (dE zs)]) ∧ Ls w' a' (dL zs).length (dL zs) ∧ Bs w' a2 (dR zs).length (dR zs) ∧ Below w.heap.size w w' := by
  obtain ⟨hb, hp⟩ := h
  unfold dL dR dE
  rcases hp with ⟨hd, rfl⟩ | ⟨ls, r, hd, hc, rfl⟩ | ⟨ls, r, a', c', a2, c2, hd, hc, rfl, h1, h2⟩
  · rw [hd]; exact ⟨none, 0, none, 0, rfl, Ls.nil _, Bs.nil _, hb⟩
  · rw [hd]; simp only [hc]; exact ⟨none, 0, none, 0, rfl, Ls.nil _, Bs.nil _, hb⟩
  · rw [hd]; simp only [hc, if_true]; exact ⟨a', c', a2, c2, rfl, h1, h2, hb⟩
theorem bs_of_own2 {w : World} {base n : Nat} {v : Value} {zs : List Nat} (h : w.ownsRow base 5 1 v n (vb zs)) (hz : ∀ x ∈ zs, x < 256) :
    ∃ a cap, v = .slice a n cap ∧ Bs w a n zs ∧ n ≤ cap ∧ cap ≤ maxLen := by
  obtain ⟨a, cap, rfl, hB⟩ := bs_of_own h hz
  refine ⟨a, cap, rfl, hB, ?_⟩
  rcases h.2 with ⟨h1, h2⟩ | ⟨g, c, cur, h1, _, _, h2, h3, _⟩
  · cases h1; exact ⟨Nat.le_refl _, Nat.zero_le _⟩
  · cases h1; exact ⟨h2, h3⟩
end Go.Proofs.Ytkcmaneibfambaa
