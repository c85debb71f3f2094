/- Spots that rise: told by what they hold. -/
import Derived.Test.YtidlogeeophogaaDoorSpI
namespace Go.Proofs.YtidlogeeophogaaDoor.Sp
open Go.RowKit Go.Joins Go.Lib
set_option linter.unusedVariables false
set_option linter.unusedSimpArgs false

theorem rise_ext : ∀ (l m : List Spt), RiseS l → RiseS m → (∀ x, x ∈ l ↔ x ∈ m) → l = m := by
  intro l
  induction l with
  | nil =>
    intro m _ _ h
    cases m with
    | nil => rfl
    | cons b s => exact absurd ((h b).2 (by simp)) (by simp)
  | cons a r ih =>
    intro m hl hm h
    cases m with
    | nil => exact absurd ((h a).1 (by simp)) (by simp)
    | cons b s =>
      obtain ⟨h1, h2⟩ := List.pairwise_cons.1 hl
      obtain ⟨k1, k2⟩ := List.pairwise_cons.1 hm
      have e : a = b := by
        rcases List.mem_cons.1 ((h a).1 (by simp)) with e | e
        · exact e
        · rcases List.mem_cons.1 ((h b).2 (by simp)) with f | f
          · exact f.symm
          · have := lessS_asymm (h1 b f)
            rw [k1 a e] at this; cases this
      subst e
      rw [ih s h2 k2 (fun x => ?_)]
      constructor
      · intro hx
        rcases List.mem_cons.1 ((h x).1 (by simp [hx])) with e | e
        · have := h1 x hx
          rw [e, lessS_irr] at this; cases this
        · exact e
      · intro hx
        rcases List.mem_cons.1 ((h x).2 (by simp [hx])) with e | e
        · have := k1 x hx
          rw [e, lessS_irr] at this; cases this
        · exact e

theorem insRev_mem (R : List Spt) (s x : Spt) : x ∈ insRev R s ↔ x = s ∨ x ∈ R := by
  induction R with
  | nil => simp [insRev]
  | cons y t ih =>
    rw [insRev]
    split
    · rw [List.mem_cons, ih, List.mem_cons]
      constructor
      · rintro (h | h | h)
        · exact .inr (.inl h)
        · exact .inl h
        · exact .inr (.inr h)
      · rintro (h | h | h)
        · exact .inr (.inl h)
        · exact .inl h
        · exact .inr (.inr h)
    · rw [List.mem_cons]

theorem insRev_desc (R : List Spt) (s : Spt) (h : R.Pairwise (fun a b => lessS b a = true)) (hs : s ∉ R) : (insRev R s).Pairwise (fun a b => lessS b a = true) := by
  induction R with
  | nil => simp [insRev]
  | cons y t ih =>
    obtain ⟨h1, h2⟩ := List.pairwise_cons.1 h
    have hst : s ∉ t := fun e => hs (by simp [e])
    have hsy : s ≠ y := fun e => hs (by simp [e])
    rw [insRev]
    split
    · rename_i hl
      refine List.pairwise_cons.2 ⟨fun z hz => ?_, ih h2 hst⟩
      rcases (insRev_mem t s z).1 hz with e | e
      · rw [e]; exact hl
      · exact h1 z e
    · rename_i hl
      have hys : lessS y s = true := by
        cases hq : lessS y s with
        | true => rfl
        | false => exact absurd (lessS_total (by simpa using hl) hq) hsy
      refine List.pairwise_cons.2 ⟨fun z hz => ?_, h⟩
      rcases List.mem_cons.1 hz with e | e
      · rw [e]; exact hys
      · exact lessS_trans (h1 z e) hys

theorem insS_rise {L : List Spt} {s : Spt} (h : RiseS L) (hs : s ∉ L) : RiseS (insS L s) := by
  unfold RiseS insS
  rw [List.pairwise_reverse]
  exact insRev_desc _ _ (List.pairwise_reverse.2 h) (by simpa using hs)

theorem insS_mem (L : List Spt) (s x : Spt) : x ∈ insS L s ↔ x = s ∨ x ∈ L := by
  unfold insS
  rw [List.mem_reverse, insRev_mem, List.mem_reverse]

theorem fold_note (add : Bool) (l : List Spt) (A : List Spt) : ∀ out : List Spt, RiseS out → RiseS (A.foldl (fun out s => if inS out s || (!add && inS l s) then out else insS out s) out) ∧ ∀ x, x ∈ A.foldl (fun out s => if inS out s || (!add && inS l s) then out else insS out s) out ↔ x ∈ out ∨ (x ∈ A ∧ (add = true ∨ x ∉ l)) := by
  induction A with
  | nil => intro out h; exact ⟨h, fun x => by simp⟩
  | cons s t ih =>
    intro out h
    rw [List.foldl_cons]
    by_cases hc : (inS out s || (!add && inS l s)) = true
    · rw [if_pos hc]
      obtain ⟨i1, i2⟩ := ih out h
      refine ⟨i1, fun x => ?_⟩
      rw [i2 x]
      rw [Bool.or_eq_true, Bool.and_eq_true, inS_mem, inS_mem] at hc
      constructor
      · rintro (q | ⟨q1, q2⟩)
        · exact .inl q
        · exact .inr ⟨by simp [q1], q2⟩
      · rintro (q | ⟨q1, q2⟩)
        · exact .inl q
        · rcases List.mem_cons.1 q1 with e | e
          · subst e
            rcases hc with hc | ⟨hc1, hc2⟩
            · exact .inl hc
            · rcases q2 with q2 | q2
              · rw [q2] at hc1; cases hc1
              · exact absurd hc2 q2
          · exact .inr ⟨e, q2⟩
    · rw [if_neg hc]
      rw [Bool.or_eq_true, Bool.and_eq_true, inS_mem, inS_mem] at hc
      have hs : s ∉ out := fun e => hc (.inl e)
      obtain ⟨i1, i2⟩ := ih (insS out s) (insS_rise h hs)
      refine ⟨i1, fun x => ?_⟩
      rw [i2 x, insS_mem]
      constructor
      · rintro ((q | q) | ⟨q1, q2⟩)
        · refine .inr ⟨by simp [q], ?_⟩
          subst q
          cases add with
          | true => exact .inl rfl
          | false => exact .inr (fun e => hc (.inr ⟨rfl, e⟩))
        · exact .inl q
        · exact .inr ⟨by simp [q1], q2⟩
      · rintro (q | ⟨q1, q2⟩)
        · exact .inl (.inr q)
        · rcases List.mem_cons.1 q1 with e | e
          · exact .inl (.inl e)
          · exact .inr ⟨e, q2⟩

/-- What a ledger holds with spots added, or taken out. -/
def NoteM (add : Bool) (l1 l2 : List Spt) (x : Spt) : Prop := if add = true then x ∈ l1 ∨ x ∈ l2 else x ∈ l1 ∧ x ∉ l2

theorem noteS_rise (add : Bool) (l1 l2 : List Spt) : RiseS (noteS add l1 l2) ∧ ∀ x, x ∈ noteS add l1 l2 ↔ NoteM add l1 l2 x := by
  unfold noteS noteTo NoteM
  obtain ⟨h1, h2⟩ := fold_note add l2 (if add then l1 ++ l2 else l1) [] List.Pairwise.nil
  refine ⟨h1, fun x => ?_⟩
  rw [h2 x]
  cases add <;> simp

/-- Compact of what is sorted. -/
theorem compact_rise {S : List Spt} {n : Nat} (hn : S.length = n) (hs : SrtS S) : ∀ m, m ≤ n → RiseS (compactUpTo S.toArray m) ∧ ∀ x, x ∈ compactUpTo S.toArray m ↔ x ∈ S.take m := by
  intro m
  induction m with
  | zero => intro _; exact ⟨List.Pairwise.nil, fun x => by simp [compactUpTo]⟩
  | succ m ih =>
    intro hm
    obtain ⟨i1, i2⟩ := ih (by omega)
    have hml : m < S.length := by omega
    have hS : S[m]? = some S.toArray[m]! := arr_get S hml
    have hSe : S.toArray[m]! = S[m] := by
      have := hS
      rw [List.getElem?_eq_getElem hml] at this
      injection this with this
      exact this.symm
    have htk : S.take (m + 1) = S.take m ++ [S.toArray[m]!] := by rw [List.take_add_one, hS]; rfl
    rw [compactUpTo_succ]
    cases hk : keeps S.toArray m with
    | true =>
      rw [if_pos rfl]
      refine ⟨List.pairwise_append.2 ⟨i1, by simp, fun y hy z hz => ?_⟩, fun x => ?_⟩
      · rw [List.mem_singleton] at hz
        subst hz
        have hy2 := (i2 y).1 hy
        obtain ⟨j, hj, e⟩ := List.getElem_of_mem hy2
        rw [List.length_take] at hj
        rw [List.getElem_take] at e
        have hjm : j < m := by omega
        have hjl : j < S.length := by omega
        have q1 := (List.pairwise_iff_getElem.1 hs) j m hjl hml hjm
        rw [e] at q1
        cases hq : lessS y S.toArray[m]! with
        | true => rfl
        | false =>
          exfalso
          rw [hSe] at hq
          have e2 : y = S[m] := lessS_total hq q1
          have hm1 : m - 1 < S.length := by omega
          have q2 := (List.pairwise_iff_getElem.1 hs) (m - 1) m hm1 hml (by omega)
          have q3 : lessS S[m - 1] S[m] = false := by
            by_cases hjm1 : j = m - 1
            · subst hjm1; rw [e, e2]; exact lessS_irr _
            · have := (List.pairwise_iff_getElem.1 hs) j (m - 1) hjl hm1 (by omega)
              rw [e, e2] at this; exact this
          have e3 : S[m - 1] = S[m] := lessS_total q3 q2
          have hk2 : S.toArray[m]! = S.toArray[m - 1]! := by
            rw [hSe]
            have := arr_get S hm1
            rw [List.getElem?_eq_getElem hm1] at this
            injection this with this
            rw [← this, e3]
          rw [keeps_neg (by omega) hk2] at hk
          cases hk
      · rw [htk, List.mem_append, List.mem_append, i2 x]
    | false =>
      have hm0 : 0 < m := by
        rcases Nat.eq_zero_or_pos m with h0 | h0
        · subst h0
          have := keeps_lt_one S.toArray 0 (by omega)
          rw [this] at hk; cases hk
        · exact h0
      have hd : S.toArray[m]! = S.toArray[m - 1]! := by
        by_cases hd : S.toArray[m]! = S.toArray[m - 1]!
        · exact hd
        · rw [keeps_pos hd] at hk; cases hk
      simp only [Bool.false_eq_true, if_false, List.append_nil]
      refine ⟨i1, fun x => ?_⟩
      rw [htk, List.mem_append, i2 x]
      constructor
      · exact .inl
      · rintro (h | h)
        · exact h
        · rw [List.mem_singleton] at h
          rw [h, hd]
          have := arr_get S (j := m - 1) (by omega)
          exact List.mem_of_getElem? (i := m - 1) (by rw [List.getElem?_take, if_pos (by omega), this])
end Go.Proofs.YtidlogeeophogaaDoor.Sp
