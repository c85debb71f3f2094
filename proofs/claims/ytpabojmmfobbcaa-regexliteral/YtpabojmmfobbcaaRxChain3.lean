/- The machine of a text whose code points all stand behind backslashes. -/
import Derived.Test.YtpabojmmfobbcaaRxChain2
import Derived.Test.YtpabojmmfobbcaaRxRead
namespace Go.Proofs.Ytpabojmmfobbcaa
open Go.RowKit Go.Joins
set_option linter.unusedVariables false
theorem take_esc (pts : List Int) (rs : List Nat) : takeR pts (sigs rs) = none := by
  cases rs <;> rfl
theorem piece_esc (P : Option (Rd → Option Res)) (r : Nat) (rs : List Nat) (L : List St) : pieceR P (sigs (r :: rs), L) = some (L.length, L.length + 1, sigs rs, stepR L false [((r : Int), (r : Int))]) := by
  have ha : atomR P (sigs (r :: rs), L) = some (L.length, L.length + 1, sigs rs, stepR L false [((r : Int), (r : Int))]) := rfl
  unfold pieceR
  rw [ha]
  simp only [take_esc]
/-- The states behind so many code points, and the last one. -/
def chainL : Nat → List St → List Nat → Nat × List St
  | t, L, [] => (t, L)
  | t, L, r :: rs => chainL (L.length + 1) (linkR (stepR L false [((r : Int), (r : Int))]) t L.length) rs
theorem seq_esc (P : Option (Rd → Option Res)) (s : Nat) (rs : List Nat) : ∀ (k t : Nat) (L : List St), rs.length < k → seqL (pieceR P) k s t (sigs rs, L) = some (s, (chainL t L rs).1, [], (chainL t L rs).2) := by
  induction rs with
  | nil =>
    intro k t L hk
    obtain ⟨k, rfl⟩ : ∃ j, k = j + 1 := ⟨k - 1, by have : (0 : Nat) < k := hk; omega⟩
    rfl
  | cons r rs ih =>
    intro k t L hk
    obtain ⟨k, rfl⟩ : ∃ j, k = j + 1 := ⟨k - 1, by omega⟩
    have h0 : ¬ ((sigs (r :: rs)).length = 0 ∨ atR [124, 41] (sigs (r :: rs)) = true) := by
      rintro (h | h)
      · cases h
      · cases h
    rw [seqL, if_neg h0, piece_esc]
    exact ih k _ _ (by simp only [List.length_cons] at hk; omega)
/-- The states from a place on. -/
def tailL : Nat → List Nat → List St
  | _, [] => [⟨false, false, [], [1]⟩]
  | p, r :: rs => ⟨false, false, [], [p + 1]⟩ :: ⟨true, false, [((r : Int), (r : Int))], [p + 2]⟩ :: tailL (p + 2) rs
def LQ (rs : List Nat) : List St := ⟨false, false, [], [2]⟩ :: St.zero :: tailL 2 rs
theorem link_at (a : List St) (x : St) (b : List St) (n j : Nat) (hn : n = a.length) : linkR (a ++ x :: b) n j = a ++ { x with next := x.next ++ [j] } :: b := by
  subst hn
  unfold linkR
  induction a with
  | nil => rfl
  | cons y a ih =>
    rw [List.cons_append, List.length_cons, List.modify_succ_cons, ih]
    rfl
theorem step_at (a : List St) (r : Nat) : stepR a false [((r : Int), (r : Int))] = a ++ [⟨true, false, [((r : Int), (r : Int))], [a.length + 1]⟩, St.zero] := by
  unfold stepR markR
  have h1 : (a ++ [St.zero] ++ [St.zero]).modify a.length (fun s => { s with takes := true, others := false, spans := [((r : Int), (r : Int))] }) = a ++ ⟨true, false, [((r : Int), (r : Int))], []⟩ :: [St.zero] := by
    rw [List.append_assoc]
    induction a with
    | nil => rfl
    | cons y a ih => rw [List.cons_append, List.length_cons, List.modify_succ_cons, ih]; rfl
  rw [h1, link_at a _ [St.zero] a.length (a.length + 1) rfl]
  rfl
theorem chain_all (rs : List Nat) : ∀ (x : St) (Lp : List St), linkR (linkR (chainL (Lp.length + 1) (x :: (Lp ++ [St.zero])) rs).2 0 2) (chainL (Lp.length + 1) (x :: (Lp ++ [St.zero])) rs).1 1 = { x with next := x.next ++ [2] } :: (Lp ++ tailL (Lp.length + 1) rs) := by
  induction rs with
  | nil =>
    intro x Lp
    show linkR ({ x with next := x.next ++ [2] } :: (Lp ++ [St.zero])) (Lp.length + 1) 1 = _
    exact link_at ({ x with next := x.next ++ [2] } :: Lp) St.zero [] (Lp.length + 1) 1 rfl
  | cons r rs ih =>
    intro x Lp
    have h1 : linkR (stepR (x :: (Lp ++ [St.zero])) false [((r : Int), (r : Int))]) (Lp.length + 1) (x :: (Lp ++ [St.zero])).length = x :: ((Lp ++ [⟨false, false, [], [Lp.length + 2]⟩, ⟨true, false, [((r : Int), (r : Int))], [Lp.length + 3]⟩]) ++ [St.zero]) := by
      rw [step_at]
      have e : x :: (Lp ++ [St.zero]) ++ [(⟨true, false, [((r : Int), (r : Int))], [(x :: (Lp ++ [St.zero])).length + 1]⟩ : St), St.zero] = (x :: Lp) ++ St.zero :: [⟨true, false, [((r : Int), (r : Int))], [(x :: (Lp ++ [St.zero])).length + 1]⟩, St.zero] := by simp
      rw [e, link_at (x :: Lp) St.zero _ (Lp.length + 1) _ rfl]
      simp [St.zero]
    have h2 := ih x (Lp ++ [⟨false, false, [], [Lp.length + 2]⟩, ⟨true, false, [((r : Int), (r : Int))], [Lp.length + 3]⟩])
    rw [chainL, h1]
    have e3 : (x :: (Lp ++ [St.zero])).length + 1 = (Lp ++ [(⟨false, false, [], [Lp.length + 2]⟩ : St), ⟨true, false, [((r : Int), (r : Int))], [Lp.length + 3]⟩]).length + 1 := by simp
    rw [e3, h2]
    simp [tailL]
theorem read_esc (rs : List Nat) : patN 10 (sigs rs, []) = some (0, 1, [], LQ rs) := by
  rw [patN_eq]
  unfold patB
  have hs : seqR (pieceR (grpN 10)) (sigs rs, [] ++ [St.zero] ++ [St.zero]) = some (2, (chainL 2 [St.zero, St.zero, St.zero] rs).1, [], (chainL 2 [St.zero, St.zero, St.zero] rs).2) := by
    unfold seqR
    exact seq_esc _ 2 rs _ 2 _ (by simp [sigs])
  have hc := chain_all rs St.zero [St.zero]
  rw [patL, hs]
  show some (0, 1, [], linkR (linkR (chainL 2 [St.zero, St.zero, St.zero] rs).2 0 2) (chainL 2 [St.zero, St.zero, St.zero] rs).1 1) = some (0, 1, [], LQ rs)
  rw [show (chainL 2 [St.zero, St.zero, St.zero] rs) = chainL ([St.zero].length + 1) (St.zero :: ([St.zero] ++ [St.zero])) rs from rfl, hc]
  rfl
theorem readS_quote (s : ByteArray) (hs : s.size ≤ 15) : readS (quoteS s) = if 65533 ∈ runesL s (s.size + 1) 0 then none else some (LQ (runesL s (s.size + 1) 0), 0, 1) := by
  unfold readS
  rw [scanS_quote s hs]
  by_cases hm : 65533 ∈ runesL s (s.size + 1) 0
  · rw [if_pos hm, if_pos hm]
  · rw [if_neg hm, if_neg hm]
    simp only [read_esc, List.length_nil, if_true]
end Go.Proofs.Ytpabojmmfobbcaa
