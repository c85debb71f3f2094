/- The machine of a quoted text fits that text alone. -/
import Derived.Test.YtpabojmmfobbcaaRxChain3
import Derived.Test.YtpabojmmfobbcaaRxMatch
namespace Go.Proofs.Ytpabojmmfobbcaa
open Go.RowKit Go.Joins
set_option linter.unusedVariables false
theorem tail_get (b : List Nat) (i : Nat) (a : List Nat) : ∀ p, (tailL p (a ++ b))[2 * a.length + i]? = (tailL (p + 2 * a.length) b)[i]? := by
  induction a with
  | nil => intro p; simp
  | cons r a ih =>
    intro p
    have h := ih (p + 2)
    rw [List.cons_append, tailL, List.length_cons, show 2 * (a.length + 1) + i = (2 * a.length + i) + 1 + 1 by omega, List.getElem?_cons_succ, List.getElem?_cons_succ, h, show p + 2 + 2 * a.length = p + 2 * (a.length + 1) by omega]
theorem LQ_get (a b : List Nat) (i : Nat) : (LQ (a ++ b))[2 + 2 * a.length + i]? = (tailL (2 + 2 * a.length) b)[i]? := by
  unfold LQ
  rw [show 2 + 2 * a.length + i = (2 * a.length + i) + 1 + 1 by omega, List.getElem?_cons_succ, List.getElem?_cons_succ]
  exact tail_get b i a 2
theorem LQ_len (rs : List Nat) : (LQ rs).length = 3 + 2 * rs.length := by
  have h : ∀ (rs : List Nat) p, (tailL p rs).length = 1 + 2 * rs.length := by
    intro rs
    induction rs with
    | nil => intro p; rfl
    | cons r rs ih => intro p; rw [tailL, List.length_cons, List.length_cons, ih, List.length_cons]; omega
  unfold LQ
  rw [List.length_cons, List.length_cons, h]; omega
/-- From the place between code points: the next code point's state, or the end. -/
theorem reach_end (a : List Nat) (rd k : Nat) (x : rx_Fr) (h1 : x.1[2 + 2 * a.length]? ≠ some rd) (h2 : x.1[1]? ≠ some rd) : reachF (LQ (a ++ [])) rd (k + 2) (2 + 2 * a.length) x = ((x.1.set (2 + 2 * a.length) rd).set 1 rd, x.2) := by
  have g := LQ_get a [] 0
  have g1 : (LQ (a ++ []))[1]? = some St.zero := rfl
  rw [Nat.add_zero] at g
  rw [reachF, if_neg h1, g]
  show ([1] : List Nat).foldl (fun x m => reachF (LQ (a ++ [])) rd (k + 1) m x) (x.1.set (2 + 2 * a.length) rd, x.2) = _
  show reachF (LQ (a ++ [])) rd (k + 1) 1 (x.1.set (2 + 2 * a.length) rd, x.2) = _
  rw [reachF, if_neg (by show (x.1.set (2 + 2 * a.length) rd)[1]? ≠ some rd; rw [List.getElem?_set_ne (by omega)]; exact h2), g1]
  rfl
theorem reach_next (a : List Nat) (r : Nat) (b : List Nat) (rd k : Nat) (x : rx_Fr) (h1 : x.1[2 + 2 * a.length]? ≠ some rd) (h2 : x.1[3 + 2 * a.length]? ≠ some rd) : reachF (LQ (a ++ r :: b)) rd (k + 2) (2 + 2 * a.length) x = ((x.1.set (2 + 2 * a.length) rd).set (3 + 2 * a.length) rd, x.2 ++ [3 + 2 * a.length]) := by
  have g := LQ_get a (r :: b) 0
  have g1 := LQ_get a (r :: b) 1
  rw [Nat.add_zero] at g
  rw [show 2 + 2 * a.length + 1 = 3 + 2 * a.length by omega] at g1
  rw [reachF, if_neg h1, g]
  show reachF (LQ (a ++ r :: b)) rd (k + 1) (2 + 2 * a.length + 1) (x.1.set (2 + 2 * a.length) rd, x.2) = _
  rw [show 2 + 2 * a.length + 1 = 3 + 2 * a.length by omega]
  rw [reachF, if_neg (by show (x.1.set (2 + 2 * a.length) rd)[3 + 2 * a.length]? ≠ some rd; rw [List.getElem?_set_ne (by omega)]; exact h2), g1]
  rfl
/-- Where the front stands. -/
def FrAt (a b : List Nat) (rd : Nat) (x : rx_Fr) : Prop := (∀ v ∈ x.1, v ≤ rd) ∧ x.1.length = (LQ (a ++ b)).length ∧ match b with
  | [] => x.2 = [] ∧ x.1[1]? = some rd
  | _ :: _ => x.2 = [3 + 2 * a.length] ∧ x.1[1]? ≠ some rd
theorem not_seen {l : List Nat} {rd n : Nat} (h : ∀ v ∈ l, v ≤ rd) : l[n]? ≠ some (rd + 1) := fun e => by
  have := h _ (List.mem_of_getElem? e)
  omega
theorem frAt_reach (a b : List Nat) (rd k : Nat) (l : List Nat) (hl : l.length = (LQ (a ++ b)).length) (hv : ∀ v ∈ l, v ≤ rd) (h1 : l[2 + 2 * a.length]? ≠ some rd) (h2 : l[3 + 2 * a.length]? ≠ some rd) (h3 : l[1]? ≠ some rd) : FrAt a b rd (reachF (LQ (a ++ b)) rd (k + 2) (2 + 2 * a.length) (l, [])) := by
  have hlen := LQ_len (a ++ b)
  rw [List.length_append] at hlen
  have hset : ∀ (m : List Nat) i, (∀ v ∈ m, v ≤ rd) → ∀ v ∈ m.set i rd, v ≤ rd := fun m i hm v hv => by
    rcases List.mem_or_eq_of_mem_set hv with h | h
    · exact hm v h
    · omega
  cases b with
  | nil =>
    rw [reach_end a rd k (l, []) h1 h3]
    refine ⟨hset _ _ (hset _ _ hv), by simp only [List.length_set]; exact hl, rfl, ?_⟩
    exact List.getElem?_set_self (by rw [List.length_set]; show 1 < l.length; omega)
  | cons r b =>
    rw [reach_next a r b rd k (l, []) h1 h2]
    refine ⟨hset _ _ (hset _ _ hv), by simp only [List.length_set]; exact hl, rfl, ?_⟩
    show ((l.set (2 + 2 * a.length) rd).set (3 + 2 * a.length) rd)[1]? ≠ some rd
    rw [List.getElem?_set_ne (by omega), List.getElem?_set_ne (by omega)]
    exact h3
theorem pass_next (a : List Nat) (r : Nat) (b : List Nat) (rd : Nat) (p : Int) (x : rx_Fr) (h : FrAt a (r :: b) rd x) : (p = (r : Int) → FrAt (a ++ [r]) b (rd + 1) (passF (LQ (a ++ r :: b)) (rd + 1) ((LQ (a ++ r :: b)).length + 1) p x.2 (x.1, []))) ∧ (p ≠ (r : Int) → passF (LQ (a ++ r :: b)) (rd + 1) ((LQ (a ++ r :: b)).length + 1) p x.2 (x.1, []) = (x.1, [])) := by
  obtain ⟨hv, hl, h2, h3⟩ := h
  have g1 := LQ_get a (r :: b) 1
  rw [show 2 + 2 * a.length + 1 = 3 + 2 * a.length by omega] at g1
  have hlen := LQ_len (a ++ r :: b)
  have hp : passF (LQ (a ++ r :: b)) (rd + 1) ((LQ (a ++ r :: b)).length + 1) p x.2 (x.1, []) = if hasR false [((r : Int), (r : Int))] p = true then reachF (LQ (a ++ r :: b)) (rd + 1) ((LQ (a ++ r :: b)).length + 1) (2 + 2 * a.length + 2) (x.1, []) else (x.1, []) := by
    rw [h2]
    show passOne (LQ (a ++ r :: b)) (rd + 1) ((LQ (a ++ r :: b)).length + 1) p (x.1, []) (3 + 2 * a.length) = _
    unfold passOne
    rw [g1]
    show (if hasR false [((r : Int), (r : Int))] p = true then goOnF _ _ _ _ _ else _) = _
    split
    · unfold goOnF
      rw [g1]
      rfl
    · rfl
  have hh : hasR false [((r : Int), (r : Int))] p = decide (p = (r : Int)) := by
    unfold hasR
    have hi : ([((r : Int), (r : Int))].any (inSp p)) = decide (p = (r : Int)) := by
      simp only [List.any_cons, List.any_nil, Bool.or_false, inSp]
      by_cases e : p = (r : Int)
      · simp [e]
      · rw [decide_eq_false e]
        simp
        omega
    rw [hi]
    by_cases e : p = (r : Int)
    · simp [e]
    · simp [e]
  rw [hp, hh]
  refine ⟨fun e => ?_, fun e => ?_⟩
  · rw [if_pos (decide_eq_true e)]
    have ee : a ++ r :: b = (a ++ [r]) ++ b := by simp
    have e2 : 2 + 2 * a.length + 2 = 2 + 2 * (a ++ [r]).length := by simp; omega
    rw [hlen, e2, show 3 + 2 * (a ++ r :: b).length + 1 = (2 + 2 * (a ++ r :: b).length) + 2 by omega, ee]
    refine frAt_reach (a ++ [r]) b (rd + 1) _ x.1 (by rw [← ee]; exact hl) (fun v h => Nat.le_succ_of_le (hv v h)) (not_seen hv) (not_seen hv) (not_seen hv)
  · rw [decide_eq_false e]
    rfl
theorem fits_chain (t : ByteArray) (f : Nat) : ∀ (pos rd : Nat) (a b : List Nat) (x : rx_Fr), t.size < pos + f → FrAt a b rd x → fitsF (LQ (a ++ b)) 1 t f pos rd x = decide (runesL t f pos = b) := by
  have hend : ∀ (rd : Nat) (a b : List Nat) (x : rx_Fr), FrAt a b rd x → decide (x.1[1]? = some rd) = decide (([] : List Nat) = b) := by
    intro rd a b x h
    obtain ⟨_, _, h3⟩ := h
    cases b with
    | nil => rw [decide_eq_true h3.2]; rfl
    | cons r b => rw [decide_eq_false h3.2]; rfl
  induction f with
  | zero => intro pos rd a b x _ h; exact hend rd a b x h
  | succ f ih =>
    intro pos rd a b x hf h
    unfold fitsF runesL
    by_cases hp : pos < t.size
    · rw [if_pos hp, if_pos hp]
      have hw := width_pos t pos hp
      cases b with
      | nil =>
        obtain ⟨hv, hl, h2, h3⟩ := h
        rw [h2, if_pos ⟨rfl, not_seen hv⟩]
        rfl
      | cons r b =>
        obtain ⟨p1, p2⟩ := pass_next a r b rd ((Utf8.decode t pos).1 : Int) x h
        by_cases he : (Utf8.decode t pos).1 = r
        · have hF := p1 (by rw [he])
          rw [if_neg (by
            obtain ⟨_, _, h3⟩ := hF
            rintro ⟨e1, e2⟩
            cases b with
            | nil => exact e2 h3.2
            | cons r' b => rw [h3.1] at e1; cases e1)]
          have hi := ih (pos + (Utf8.decode t pos).2) (rd + 1) (a ++ [r]) b _ (by omega) hF
          rw [show (a ++ [r]) ++ b = a ++ r :: b by simp] at hi
          rw [hi, he]
          simp
        · have hF := p2 (by omega)
          rw [hF, if_pos ⟨rfl, not_seen h.1⟩]
          exact (decide_eq_false (fun e => he (List.cons.inj e).1)).symm
    · rw [if_neg hp, if_neg hp]
      exact hend rd a b x h
theorem fits_quote (rs : List Nat) (t : ByteArray) : fitsS (LQ rs) 0 1 t = decide (runesL t (t.size + 1) 0 = rs) := by
  unfold fitsS
  have hlen := LQ_len rs
  have hr : reachF (LQ rs) 1 ((LQ rs).length + 1) 0 (List.replicate (LQ rs).length 0, []) = reachF (LQ ([] ++ rs)) 1 ((1 + 2 * rs.length) + 2) (2 + 2 * ([] : List Nat).length) ((List.replicate (LQ rs).length 0).set 0 1, []) := by
    rw [reachF, if_neg (by show (List.replicate (LQ rs).length 0)[0]? ≠ some 1; rw [hlen, List.getElem?_replicate]; split <;> simp)]
    show reachF (LQ rs) 1 (LQ rs).length 2 ((List.replicate (LQ rs).length 0).set 0 1, []) = _
    rw [hlen, show 3 + 2 * rs.length = (1 + 2 * rs.length) + 2 by omega]
    rfl
  have hn : ∀ n, n ≠ 0 → ((List.replicate (LQ rs).length 0).set 0 1)[n]? ≠ some 1 := fun n h0 => by
    rw [List.getElem?_set_ne (by omega), List.getElem?_replicate]
    split <;> simp
  rw [hr]
  have hF := frAt_reach [] rs 1 (1 + 2 * rs.length) ((List.replicate (LQ rs).length 0).set 0 1) (by rw [List.length_set, List.length_replicate]; rfl) (fun v hv => by
    rcases List.mem_or_eq_of_mem_set hv with h | h
    · rw [List.eq_of_mem_replicate h]; omega
    · omega) (hn _ (by simp)) (hn _ (by simp)) (hn _ (by simp))
  exact fits_chain t (t.size + 1) 0 1 [] rs _ (by omega) hF
theorem match_quote (s t : ByteArray) (hs : s.size ≤ 15) (h : 65533 ∉ runesL s (s.size + 1) 0) : matchS (quoteS s) t = (decide (t = s), 0) := by
  unfold matchS
  rw [readS_quote s hs, if_neg h]
  show (fitsS (LQ (runesL s (s.size + 1) 0)) 0 1 t, (0 : Int)) = _
  rw [fits_quote]
  congr 1
  by_cases he : t = s
  · rw [decide_eq_true he, he]; exact decide_eq_true rfl
  · rw [decide_eq_false he]
    exact decide_eq_false (fun e => he (runes_same s t h e))
theorem check_quote (s : ByteArray) (hs : s.size ≤ 15) : checkS (quoteS s) = if 65533 ∈ runesL s (s.size + 1) 0 then 5 else 0 := by
  unfold checkS
  rw [readS_quote s hs]
  by_cases hm : 65533 ∈ runesL s (s.size + 1) 0
  · rw [if_pos hm, if_pos hm]
  · rw [if_neg hm, if_neg hm]
end Go.Proofs.Ytpabojmmfobbcaa
