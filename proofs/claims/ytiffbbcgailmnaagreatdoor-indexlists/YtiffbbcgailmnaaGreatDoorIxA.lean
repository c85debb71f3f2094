/- Lists of numbers, rising, each once: plainly. -/
import Derived.Test.YtiffbbcgailmnaaGreatDoorInts
import Derived.Lib.SlicesCompact
namespace Go.Proofs.YtiffbbcgailmnaaGreatDoor
open Go.RowKit
set_option linter.unusedVariables false

def Rises (l : List Int) : Prop := l.Pairwise (fun x y => x < y)

theorem rises_ext : ∀ {l m : List Int}, Rises l → Rises m → (∀ x, x ∈ l ↔ x ∈ m) → l = m
  | [], [], _, _, _ => rfl
  | [], y :: m, _, _, h => absurd ((h y).2 (by simp)) (by simp)
  | x :: l, [], _, _, h => absurd ((h x).1 (by simp)) (by simp)
  | x :: l, y :: m, hl, hm, h => by
    have hl' := List.pairwise_cons.1 hl
    have hm' := List.pairwise_cons.1 hm
    have hxy : x = y := by
      rcases List.mem_cons.1 ((h x).1 (by simp)) with h1 | h1
      · exact h1
      · rcases List.mem_cons.1 ((h y).2 (by simp)) with h2 | h2
        · exact h2.symm
        · have := hl'.1 y h2
          have := hm'.1 x h1
          omega
    subst hxy
    congr 1
    refine rises_ext hl'.2 hm'.2 (fun z => ⟨fun hz => ?_, fun hz => ?_⟩)
    · rcases List.mem_cons.1 ((h z).1 (by simp [hz])) with e | e
      · have := hl'.1 z hz; omega
      · exact e
    · rcases List.mem_cons.1 ((h z).2 (by simp [hz])) with e | e
      · have := hm'.1 z hz; omega
      · exact e

def riseS (l : List Int) : List Int := Lib.compact (l.mergeSort fun x y => decide (x ≤ y))

theorem compact_inv (d : Array Int) (hs : ∀ i j, i < j → j < d.size → d[i]! ≤ d[j]!) : ∀ m, m ≤ d.size → Rises (Lib.compactUpTo d m) ∧ ∀ x, x ∈ Lib.compactUpTo d m ↔ ∃ j, j < m ∧ d[j]! = x := by
  intro m
  induction m with
  | zero =>
    intro _
    refine ⟨List.Pairwise.nil, fun x => ⟨fun h => by simp [Lib.compactUpTo] at h, fun ⟨j, hj, _⟩ => by omega⟩⟩
  | succ m ih =>
    intro hm
    obtain ⟨h1, h2⟩ := ih (by omega)
    rw [Lib.compactUpTo_succ]
    by_cases hk : Lib.keeps d m = true
    · rw [if_pos hk]
      refine ⟨List.pairwise_append.2 ⟨h1, List.pairwise_singleton _ _, fun x hx y hy => ?_⟩, fun x => ?_⟩
      · simp at hy
        subst hy
        obtain ⟨j, hj, rfl⟩ := (h2 x).1 hx
        simp only [Lib.keeps, decide_eq_true_eq] at hk
        have h3 : d[m]! ≠ d[m - 1]! := by
          rcases hk with hk | hk
          · omega
          · exact hk
        have h4 := hs (m - 1) m (by omega) (by omega)
        have h5 : d[j]! ≤ d[m - 1]! := by
          by_cases e : j = m - 1
          · rw [e]; exact Int.le_refl _
          · exact hs j (m - 1) (by omega) (by omega)
        omega
      · rw [List.mem_append, h2 x, List.mem_singleton]
        constructor
        · rintro (⟨j, hj, e⟩ | e)
          · exact ⟨j, by omega, e⟩
          · exact ⟨m, by omega, e.symm⟩
        · rintro ⟨j, hj, e⟩
          by_cases hjm : j = m
          · subst hjm; exact .inr e.symm
          · exact .inl ⟨j, by omega, e⟩
    · rw [if_neg hk, List.append_nil]
      refine ⟨h1, fun x => ?_⟩
      rw [h2 x]
      simp only [Lib.keeps, decide_eq_true_eq, not_or, ne_eq, Decidable.not_not] at hk
      constructor
      · rintro ⟨j, hj, e⟩
        exact ⟨j, by omega, e⟩
      · rintro ⟨j, hj, e⟩
        by_cases hjm : j = m
        · subst hjm; exact ⟨j - 1, by omega, by rw [← hk.2]; exact e⟩
        · exact ⟨j, by omega, e⟩

theorem riseS_both (l : List Int) : Rises (riseS l) ∧ ∀ x, x ∈ riseS l ↔ x ∈ l := by
  have hp := List.mergeSort_perm l fun x y => decide (x ≤ y)
  have hs := List.pairwise_mergeSort (le := fun x y : Int => decide (x ≤ y)) (fun a b c h1 h2 => by simp at *; omega) (fun a b => by simp; omega) l
  unfold riseS
  generalize l.mergeSort (fun x y => decide (x ≤ y)) = s at *
  rw [List.pairwise_iff_getElem] at hs
  have gb : ∀ (j : Nat) (hj : j < s.length), s.toArray[j]! = s[j] := fun j hj => by simp [getElem!_pos, hj]
  have h1 := compact_inv s.toArray (fun i j hij hj => by
    have hj' : j < s.length := by simpa using hj
    rw [gb i (by omega), gb j hj']
    exact of_decide_eq_true (hs i j (by omega) hj' hij)) s.length (by simp)
  refine ⟨h1.1, fun x => ?_⟩
  rw [← hp.mem_iff]
  refine (h1.2 x).trans ⟨?_, ?_⟩
  · rintro ⟨j, hj, rfl⟩
    rw [gb j hj]
    exact List.getElem_mem hj
  · intro hx
    obtain ⟨j, hj, e⟩ := List.getElem_of_mem hx
    exact ⟨j, hj, by rw [gb j hj]; exact e⟩

theorem riseS_rises (l : List Int) : Rises (riseS l) := (riseS_both l).1
theorem riseS_mem (l : List Int) (x : Int) : x ∈ riseS l ↔ x ∈ l := (riseS_both l).2 x

/-- What is told of two lists while they are sifted: what is left of both, what is kept. -/
def SiftI (f : Bool → Bool → Bool) (A B A' B' K : List Int) : Prop := ∃ P Q, A = P ++ A' ∧ B = Q ++ B' ∧ Rises K ∧
  (∀ x, (x ∈ P ∨ x ∈ Q) → (∀ y ∈ A', x < y) ∧ ∀ y ∈ B', x < y) ∧ ∀ x, x ∈ K ↔ (x ∈ P ∨ x ∈ Q) ∧ f (decide (x ∈ A)) (decide (x ∈ B)) = true

theorem SiftI.start (f : Bool → Bool → Bool) (A B : List Int) : SiftI f A B A B [] :=
  ⟨[], [], rfl, rfl, List.Pairwise.nil, (fun x h => by rcases h with h | h <;> cases h), fun x => ⟨(fun h => by cases h), fun ⟨h, _⟩ => by rcases h with h | h <;> cases h⟩⟩

theorem SiftI.done {f : Bool → Bool → Bool} {A B K : List Int} (h : SiftI f A B [] [] K) : Rises K ∧ ∀ x, x ∈ K ↔ (x ∈ A ∨ x ∈ B) ∧ f (decide (x ∈ A)) (decide (x ∈ B)) = true := by
  obtain ⟨P, Q, hP, hQ, kr, _, mm⟩ := h
  rw [List.append_nil] at hP hQ
  subst hP
  subst hQ
  exact ⟨kr, mm⟩

/-- A list without its first number, if that is n. -/
def behindS (n : Int) : List Int → List Int
  | [] => []
  | x :: t => if x = n then t else x :: t
def headIs (n : Int) : List Int → Bool
  | [] => false
  | x :: _ => decide (x = n)

theorem behind_suffix (n : Int) (l : List Int) : ∃ P, l = P ++ behindS n l := by
  cases l with
  | nil => exact ⟨[], rfl⟩
  | cons x t =>
    by_cases h : x = n
    · exact ⟨[x], by simp [behindS, h]⟩
    · exact ⟨[], by simp [behindS, h]⟩

theorem head_mem {n : Int} {l : List Int} (hl : Rises l) (hn : ∀ y ∈ l, n ≤ y) : headIs n l = decide (n ∈ l) := by
  cases l with
  | nil => rfl
  | cons x t =>
    have h1 := List.pairwise_cons.1 hl
    by_cases h : x = n
    · subst h; simp [headIs]
    · have : n ∉ x :: t := by
        intro hm
        rcases List.mem_cons.1 hm with e | e
        · exact h e.symm
        · have := h1.1 n e
          have := hn x (by simp)
          omega
      simp [headIs, h, this]

theorem behind_mem {n : Int} {l : List Int} (hl : Rises l) (hn : ∀ y ∈ l, n ≤ y) (x : Int) : x ∈ behindS n l ↔ x ∈ l ∧ x ≠ n := by
  cases l with
  | nil => simp [behindS]
  | cons y t =>
    have h1 := List.pairwise_cons.1 hl
    by_cases h : y = n
    · subst h
      simp only [behindS, if_true, List.mem_cons]
      constructor
      · intro hx
        have := h1.1 x hx
        exact ⟨.inr hx, by omega⟩
      · rintro ⟨e | e, hne⟩
        · exact absurd e hne
        · exact e
    · simp only [behindS, if_neg h]
      constructor
      · intro hx
        refine ⟨hx, fun e => ?_⟩
        subst e
        rcases List.mem_cons.1 hx with e | e
        · exact h e.symm
        · have := h1.1 x e
          have := hn y (by simp)
          omega
      · exact fun h => h.1

theorem rises_suffix {A P A' : List Int} (h : Rises A) (e : A = P ++ A') : Rises A' := by
  subst e
  exact (List.pairwise_append.1 h).2.1

theorem behind_split (n : Int) (l : List Int) : l = (if headIs n l then [n] else []) ++ behindS n l := by
  cases l with
  | nil => rfl
  | cons x t =>
    by_cases h : x = n
    · simp [headIs, behindS, h]
    · simp [headIs, behindS, h]

theorem SiftI.step {f : Bool → Bool → Bool} {A B A' B' K : List Int} (h : SiftI f A B A' B' K) (hA : Rises A) (hB : Rises B) (n : Int) (hin : n ∈ A' ∨ n ∈ B') (ha : ∀ y ∈ A', n ≤ y) (hb : ∀ y ∈ B', n ≤ y) :
    SiftI f A B (behindS n A') (behindS n B') (if f (headIs n A') (headIs n B') then K ++ [n] else K) := by
  obtain ⟨P, Q, hP, hQ, kr, bl, mm⟩ := h
  have rA := rises_suffix hA hP
  have rB := rises_suffix hB hQ
  have memA := fun x => behind_mem rA ha x
  have memB := fun x => behind_mem rB hb x
  have hnPQ : ¬ (n ∈ P ∨ n ∈ Q) := by
    intro h
    have h9 := bl n h
    rcases hin with e | e
    · have := h9.1 n e; omega
    · have := h9.2 n e; omega
  have hnA : headIs n A' = decide (n ∈ A) := by
    rw [head_mem rA ha, hP]
    have : n ∉ P := fun e => hnPQ (.inl e)
    simp [this]
  have hnB : headIs n B' = decide (n ∈ B) := by
    rw [head_mem rB hb, hQ]
    have : n ∉ Q := fun e => hnPQ (.inr e)
    simp [this]
  have hPn : ∀ x, (x ∈ P ++ (if headIs n A' then [n] else []) ∨ x ∈ Q ++ (if headIs n B' then [n] else [])) ↔ (x ∈ P ∨ x ∈ Q) ∨ x = n := by
    intro x
    rw [List.mem_append, List.mem_append]
    constructor
    · rintro ((h | h) | (h | h))
      · exact .inl (.inl h)
      · split at h
        · exact .inr (by simpa using h)
        · cases h
      · exact .inl (.inr h)
      · split at h
        · exact .inr (by simpa using h)
        · cases h
    · rintro ((h | h) | h)
      · exact .inl (.inl h)
      · exact .inr (.inl h)
      · subst h
        rcases hin with e | e
        · exact .inl (.inr (by rw [if_pos (by rw [head_mem rA ha]; simpa using e)]; simp))
        · exact .inr (.inr (by rw [if_pos (by rw [head_mem rB hb]; simpa using e)]; simp))
  refine ⟨P ++ (if headIs n A' then [n] else []), Q ++ (if headIs n B' then [n] else []), ?_, ?_, ?_, ?_, ?_⟩
  · rw [List.append_assoc, ← behind_split]; exact hP
  · rw [List.append_assoc, ← behind_split]; exact hQ
  · split
    · refine List.pairwise_append.2 ⟨kr, List.pairwise_singleton _ _, fun x hx y hy => ?_⟩
      simp at hy
      subst hy
      have h9 := bl x ((mm x).1 hx).1
      rcases hin with e | e
      · exact h9.1 y e
      · exact h9.2 y e
    · exact kr
  · intro x hx
    refine ⟨fun y hy => ?_, fun y hy => ?_⟩
    · have h1 := (memA y).1 hy
      rcases (hPn x).1 hx with h | h
      · exact (bl x h).1 y h1.1
      · subst h; have := ha y h1.1; have := h1.2; omega
    · have h1 := (memB y).1 hy
      rcases (hPn x).1 hx with h | h
      · exact (bl x h).2 y h1.1
      · subst h; have := hb y h1.1; have := h1.2; omega
  · intro x
    rw [hPn x, hnA, hnB]
    by_cases hx : x = n
    · subst hx
      constructor
      · intro h
        split at h
        · exact ⟨.inr rfl, by assumption⟩
        · exact absurd ((mm x).1 h).1 hnPQ
      · rintro ⟨_, h⟩
        rw [if_pos h]
        simp
    · constructor
      · intro h
        have : x ∈ K := by
          split at h
          · rcases List.mem_append.1 h with h | h
            · exact h
            · exact absurd (by simpa using h) hx
          · exact h
        exact ⟨.inl ((mm x).1 this).1, ((mm x).1 this).2⟩
      · rintro ⟨h | h, h2⟩
        · have := (mm x).2 ⟨h, h2⟩
          split
          · exact List.mem_append_left _ this
          · exact this
        · exact absurd h hx

end Go.Proofs.YtiffbbcgailmnaaGreatDoor
