/- merge: gaps joined, in plain words. -/
import Derived.Test.YtccjgciknaooaaaGpC
import Derived.Test.YtccjgciknaooaaaGpOpen
namespace Go.Proofs.Ytccjgciknaooaaa
set_option linter.unusedVariables false

def jn (c : Gp) : List Gp → List Gp
  | [] => [c]
  | g :: r => if goesB c g then jn ⟨c.f, max c.t g.t⟩ r else c :: jn g r

/-- Gaps that rise, joined. -/
def joinG : List Gp → List Gp
  | [] => []
  | g :: r => jn g r

/-- One round of the joining. -/
def jstep (J : List Gp) (g : Gp) : List Gp :=
  match J.getLast? with
  | none => [g]
  | some c => if goesB c g then J.dropLast ++ [⟨c.f, max c.t g.t⟩] else J ++ [g]

theorem jstep_nil (g : Gp) : jstep [] g = [g] := rfl

theorem jstep_yes (A : List Gp) (c g : Gp) (h : goesB c g = true) : jstep (A ++ [c]) g = A ++ [⟨c.f, max c.t g.t⟩] := by
  simp [jstep, h]

theorem jstep_no (A : List Gp) (c g : Gp) (h : goesB c g = false) : jstep (A ++ [c]) g = A ++ [c] ++ [g] := by
  simp [jstep, h]

theorem fold_jn (r : List Gp) : ∀ (A : List Gp) (c : Gp), r.foldl jstep (A ++ [c]) = A ++ jn c r := by
  induction r with
  | nil => intro A c; rfl
  | cons g r ih =>
    intro A c
    rw [List.foldl_cons]
    cases h : goesB c g
    · rw [jstep_no A c g h, ih, jn, h]; simp
    · rw [jstep_yes A c g h, ih, jn, h]; simp

theorem fold_join (l : List Gp) : l.foldl jstep [] = joinG l := by
  cases l with
  | nil => rfl
  | cons g r => rw [List.foldl_cons, jstep_nil]; exact fold_jn r [] g

theorem gtake_more (l : List Gp) (k : Nat) (h : k < l.length) : l.take (k + 1) = l.take k ++ [gpD l k] := by
  rw [List.take_add_one, List.getElem?_eq_getElem h]
  simp [gpD, List.getD_eq_getElem?_getD, List.getElem?_eq_getElem h]

theorem fold_more (l : List Gp) (k : Nat) (h : k < l.length) : (l.take (k + 1)).foldl jstep [] = jstep ((l.take k).foldl jstep []) (gpD l k) := by
  rw [gtake_more l k h, List.foldl_append]; rfl

def SrtG (l : List Gp) : Prop := l.Pairwise (fun a b => a.f ≤ b.f)
/-- They stand apart. -/
def SepG (l : List Gp) : Prop := l.Pairwise (fun a b => a.t + 1 < b.f) ∧ ∀ g ∈ l, g.f ≤ g.t
/-- Whether a time is in one of them. -/
def Cov (l : List Gp) (x : Int) : Prop := ∃ g ∈ l, g.f ≤ x ∧ x ≤ g.t

theorem cov_cons (a : Gp) (l : List Gp) (x : Int) : Cov (a :: l) x ↔ (a.f ≤ x ∧ x ≤ a.t) ∨ Cov l x := by
  unfold Cov
  simp

theorem cov_app (l m : List Gp) (x : Int) : Cov (l ++ m) x ↔ Cov l x ∨ Cov m x := by
  unfold Cov
  simp only [List.mem_append]
  constructor
  · rintro ⟨g, h | h, k⟩
    · exact .inl ⟨g, h, k⟩
    · exact .inr ⟨g, h, k⟩
  · rintro (⟨g, h, k⟩ | ⟨g, h, k⟩)
    · exact ⟨g, .inl h, k⟩
    · exact ⟨g, .inr h, k⟩

theorem jn_sep (r : List Gp) : ∀ c, SrtG (c :: r) → (∀ g ∈ c :: r, g.f ≤ g.t) → SepG (jn c r) ∧ (∀ x, Cov (jn c r) x ↔ Cov (c :: r) x) ∧ (∀ h ∈ jn c r, c.f ≤ h.f) := by
  induction r with
  | nil =>
    intro c hs hf
    refine ⟨⟨by simp [jn], fun g hg => hf g (by simpa [jn] using hg)⟩, fun x => Iff.rfl, fun h hh => ?_⟩
    simp [jn] at hh
    subst hh; exact Int.le_refl _
  | cons g r ih =>
    intro c hs hf
    obtain ⟨hc, hs2⟩ := List.pairwise_cons.1 hs
    obtain ⟨hg, hs3⟩ := List.pairwise_cons.1 hs2
    have fc := hf c (by simp)
    have fg := hf g (by simp)
    have cg := hc g (by simp)
    cases h : goesB c g
    · have e : jn c (g :: r) = c :: jn g r := by rw [jn, h]; rfl
      have h1 : c.t + 1 < g.f := by
        unfold goesB at h
        simp at h
        omega
      obtain ⟨i1, i2, i3⟩ := ih g hs2 (fun x hx => hf x (List.mem_cons_of_mem _ hx))
      rw [e]
      refine ⟨⟨List.pairwise_cons.2 ⟨fun b hb => by have := i3 b hb; omega, i1.1⟩, fun x hx => ?_⟩, fun x => ?_, fun x hx => ?_⟩
      · rcases List.mem_cons.1 hx with rfl | hx
        · exact fc
        · exact i1.2 x hx
      · rw [cov_cons, cov_cons, i2 x]
      · rcases List.mem_cons.1 hx with rfl | hx
        · exact Int.le_refl _
        · have := i3 x hx; omega
    · have e : jn c (g :: r) = jn ⟨c.f, max c.t g.t⟩ r := by rw [jn, h]; rfl
      have h1 : g.f ≤ c.t + 1 := by
        unfold goesB at h
        simp at h
        omega
      obtain ⟨i1, i2, i3⟩ := ih ⟨c.f, max c.t g.t⟩ (List.pairwise_cons.2 ⟨fun b hb => hc b (by simp [hb]), hs3⟩) (fun x hx => by
        rcases List.mem_cons.1 hx with rfl | hx
        · show c.f ≤ max c.t g.t
          omega
        · exact hf x (by simp [hx]))
      rw [e]
      refine ⟨i1, fun x => ?_, i3⟩
      rw [i2 x, cov_cons, cov_cons, cov_cons]
      show (c.f ≤ x ∧ x ≤ max c.t g.t) ∨ _ ↔ _
      by_cases hp : Cov r x
      · simp [hp]
      · simp only [hp, or_false]
        omega

theorem join_sep {S : List Gp} (hs : SrtG S) (hf : ∀ g ∈ S, g.f ≤ g.t) : SepG (joinG S) ∧ ∀ x, Cov (joinG S) x ↔ Cov S x := by
  cases S with
  | nil => exact ⟨⟨by simp [joinG], by simp [joinG]⟩, fun x => Iff.rfl⟩
  | cons g r => exact ⟨(jn_sep r g hs hf).1, (jn_sep r g hs hf).2.1⟩

theorem sep_ext : ∀ (l m : List Gp), SepG l → SepG m → (∀ x, Cov l x ↔ Cov m x) → l = m := by
  have low : ∀ (a : Gp) (r : List Gp) (x : Int), SepG (a :: r) → Cov (a :: r) x → a.f ≤ x := by
    rintro a r x ⟨h1, h2⟩ ⟨g, hg, k⟩
    obtain ⟨h3, _⟩ := List.pairwise_cons.1 h1
    rcases List.mem_cons.1 hg with rfl | hg
    · omega
    · have := h3 g hg
      have := h2 a (by simp)
      omega
  have high : ∀ (a : Gp) (r : List Gp) (x : Int), SepG (a :: r) → Cov r x → a.t + 1 < x := by
    rintro a r x ⟨h1, h2⟩ ⟨g, hg, k⟩
    obtain ⟨h3, _⟩ := List.pairwise_cons.1 h1
    have := h3 g hg
    omega
  have tail : ∀ (a : Gp) (r : List Gp), SepG (a :: r) → SepG r := fun a r h => ⟨(List.pairwise_cons.1 h.1).2, fun g hg => h.2 g (by simp [hg])⟩
  intro l
  induction l with
  | nil =>
    intro m _ hm hx
    cases m with
    | nil => rfl
    | cons g r =>
      have := (hx g.f).2 ⟨g, by simp, Int.le_refl _, hm.2 g (by simp)⟩
      obtain ⟨q, hq, _⟩ := this
      cases hq
  | cons a r ih =>
    intro m hl hm hx
    cases m with
    | nil =>
      have := (hx a.f).1 ⟨a, by simp, Int.le_refl _, hl.2 a (by simp)⟩
      obtain ⟨q, hq, _⟩ := this
      cases hq
    | cons b s =>
      have fa := hl.2 a (by simp)
      have fb := hm.2 b (by simp)
      have e1 := low b s a.f hm ((hx a.f).1 ⟨a, by simp, Int.le_refl _, fa⟩)
      have e2 := low a r b.f hl ((hx b.f).2 ⟨b, by simp, Int.le_refl _, fb⟩)
      have ef : a.f = b.f := by omega
      have et : a.t = b.t := by
        rcases Int.lt_trichotomy a.t b.t with h | h | h
        · have h1 := (hx (a.t + 1)).2 ⟨b, by simp, by omega, by omega⟩
          rw [cov_cons] at h1
          rcases h1 with h1 | h1
          · omega
          · have := high a r _ hl h1; omega
        · exact h
        · have h1 := (hx (b.t + 1)).1 ⟨a, by simp, by omega, by omega⟩
          rw [cov_cons] at h1
          rcases h1 with h1 | h1
          · omega
          · have := high b s _ hm h1; omega
      have eab : a = b := by cases a; cases b; simp only at ef et; rw [ef, et]
      subst eab
      rw [ih s (tail _ _ hl) (tail _ _ hm) (fun x => ?_)]
      constructor
      · intro h
        have h2 := (hx x).1 ((cov_cons _ _ _).2 (.inr h))
        have := high a r x hl h
        rw [cov_cons] at h2
        rcases h2 with h2 | h2
        · omega
        · exact h2
      · intro h
        have h2 := (hx x).2 ((cov_cons _ _ _).2 (.inr h))
        have := high a s x hm h
        rw [cov_cons] at h2
        rcases h2 with h2 | h2
        · omega
        · exact h2

theorem touch_cov (l : List Gp) (frm to : Int) : touchB l frm to = true ↔ ∃ x, frm ≤ x ∧ x ≤ to ∧ Cov l x := by
  unfold touchB hitB
  rw [List.any_eq_true]
  constructor
  · rintro ⟨g, hg, h⟩
    have h1 := of_decide_eq_true h
    exact ⟨max g.f frm, by omega, by omega, g, hg, by omega, by omega⟩
  · rintro ⟨x, h1, h2, g, hg, h3, h4⟩
    exact ⟨g, hg, decide_eq_true (by omega)⟩

theorem touch_same {l m : List Gp} (h : ∀ x, Cov l x ↔ Cov m x) (frm to : Int) : touchB l frm to = touchB m frm to := by
  rw [Bool.eq_iff_iff, touch_cov, touch_cov]
  simp only [h]

/-- Gaps that rise, just those of others that have a time. -/
def SrtOf (S l : List Gp) : Prop := SrtG S ∧ (∀ g ∈ S, g.f ≤ g.t ∧ GpOK g) ∧ (∀ x, Cov S x ↔ Cov l x) ∧ S.length ≤ l.length

theorem jstep_ok {J : List Gp} {g : Gp} (hJ : ∀ x ∈ J, GpOK x) (hg : GpOK g) : ∀ x ∈ jstep J g, GpOK x := by
  rcases List.eq_nil_or_concat J with rfl | ⟨A, c, rfl⟩
  · intro x hx; rw [jstep_nil] at hx; simp at hx; subst hx; exact hg
  · rw [List.concat_eq_append] at *
    have hc := hJ c (by simp)
    cases h : goesB c g
    · rw [jstep_no A c g h]
      intro x hx
      simp at hx
      rcases hx with hx | rfl | rfl
      · exact hJ x (by simp [hx])
      · exact hc
      · exact hg
    · rw [jstep_yes A c g h]
      intro x hx
      simp at hx
      rcases hx with hx | rfl
      · exact hJ x (by simp [hx])
      · unfold GpOK at *
        refine ⟨hc.1, hc.2.1, ?_, ?_⟩
        · show _ ≤ max c.t g.t
          omega
        · show max c.t g.t ≤ _
          omega

theorem fold_ok (l : List Gp) : ∀ (J : List Gp), (∀ x ∈ J, GpOK x) → (∀ x ∈ l, GpOK x) → ∀ x ∈ l.foldl jstep J, GpOK x := by
  induction l with
  | nil => intro J h _; exact h
  | cons g r ih => intro J h h2; exact ih _ (jstep_ok h (h2 g (by simp))) (fun x hx => h2 x (by simp [hx]))

theorem jstep_len (J : List Gp) (g : Gp) : (jstep J g).length ≤ J.length + 1 := by
  rcases List.eq_nil_or_concat J with rfl | ⟨A, c, rfl⟩
  · simp [jstep_nil]
  · rw [List.concat_eq_append]
    cases h : goesB c g
    · rw [jstep_no A c g h]; simp
    · rw [jstep_yes A c g h]; simp

theorem fold_len (l : List Gp) : ∀ (J : List Gp), (l.foldl jstep J).length ≤ J.length + l.length := by
  induction l with
  | nil => intro J; exact Nat.le_refl _
  | cons g r ih =>
    intro J
    have h1 := ih (jstep J g)
    have h2 := jstep_len J g
    simp only [List.foldl_cons, List.length_cons]
    omega

theorem join_of {S l : List Gp} (h : SrtOf S l) : SepG (joinG S) ∧ (∀ x, Cov (joinG S) x ↔ Cov l x) ∧ (joinG S).length ≤ l.length ∧ ∀ g ∈ joinG S, GpOK g := by
  obtain ⟨h1, h2, h3, h4⟩ := h
  obtain ⟨k1, k2⟩ := join_sep h1 (fun g hg => (h2 g hg).1)
  refine ⟨k1, fun x => (k2 x).trans (h3 x), ?_, ?_⟩
  · have := fold_len S []
    rw [fold_join] at this
    simp at this
    omega
  · have := fold_ok S [] (by simp) (fun x hx => (h2 x hx).2)
    rwa [fold_join] at this

theorem join_same {S T l : List Gp} (h : SrtOf S l) (k : SrtOf T l) : joinG S = joinG T :=
  sep_ext _ _ (join_of h).1 (join_of k).1 (fun x => ((join_of h).2.1 x).trans ((join_of k).2.1 x).symm)

/-- Those that have a time. -/
def fitG (l : List Gp) : List Gp := l.filter fun g => decide (g.f ≤ g.t)

theorem fit_cov (l : List Gp) (x : Int) : Cov (fitG l) x ↔ Cov l x := by
  unfold fitG Cov
  constructor
  · rintro ⟨g, hg, k⟩
    exact ⟨g, (List.mem_filter.1 hg).1, k⟩
  · rintro ⟨g, hg, k⟩
    exact ⟨g, List.mem_filter.2 ⟨hg, decide_eq_true (by omega)⟩, k⟩

theorem fit_len (l : List Gp) : (fitG l).length ≤ l.length := List.length_filter_le _ _

theorem fit_more (l : List Gp) (k : Nat) (h : k < l.length) : fitG (l.take (k + 1)) = if (gpD l k).f ≤ (gpD l k).t then fitG (l.take k) ++ [gpD l k] else fitG (l.take k) := by
  rw [gtake_more l k h]
  unfold fitG
  rw [List.filter_append]
  split <;> simp_all

theorem srt_perm {S l : List Gp} (hok : ∀ g ∈ l, GpOK g) (hp : S.Perm (fitG l)) (hs : SrtG S) : SrtOf S l := by
  refine ⟨hs, fun g hg => ?_, fun x => ?_, ?_⟩
  · have := (hp.mem_iff).1 hg
    obtain ⟨m, d⟩ := List.mem_filter.1 this
    exact ⟨of_decide_eq_true d, hok g m⟩
  · rw [← fit_cov l x]
    unfold Cov
    constructor
    · rintro ⟨g, hg, k⟩; exact ⟨g, (hp.mem_iff).1 hg, k⟩
    · rintro ⟨g, hg, k⟩; exact ⟨g, (hp.mem_iff).2 hg, k⟩
  · rw [hp.length_eq]; exact fit_len l

/-- One gap laid in behind all that begin no later. -/
theorem srt_ins {S : List Gp} {g : Gp} {at' : Nat} (hat : at' ≤ S.length) (h : SrtG S) (h1 : at' = 0 ∨ (gpD S (at' - 1)).f ≤ g.f) (h2 : ∀ i, at' ≤ i → i < S.length → g.f ≤ (gpD S i).f) : SrtG (S.take at' ++ [g] ++ S.drop at') := by
  have hsp : S.take at' ++ S.drop at' = S := List.take_append_drop _ _
  have hs : SrtG (S.take at' ++ S.drop at') := by rw [hsp]; exact h
  obtain ⟨p1, p2, p3⟩ := List.pairwise_append.1 hs
  have q1 : ∀ a ∈ S.take at', a.f ≤ g.f := by
    intro a ha
    rcases h1 with rfl | h1
    · simp at ha
    · obtain ⟨i, hi, rfl⟩ := List.getElem_of_mem ha
      rw [List.length_take] at hi
      have hi2 : i < at' := by omega
      have hl : at' - 1 < S.length := by omega
      rw [List.getElem_take]
      have e2 : gpD S (at' - 1) = S[at' - 1] := by unfold gpD; rw [List.getD_eq_getElem?_getD, List.getElem?_eq_getElem hl]; rfl
      rw [e2] at h1
      by_cases hie : i = at' - 1
      · subst hie; exact h1
      · have := (List.pairwise_iff_getElem.1 h) i (at' - 1) (by omega) hl (by omega)
        omega
  have q2 : ∀ b ∈ S.drop at', g.f ≤ b.f := by
    intro b hb
    obtain ⟨i, hi, rfl⟩ := List.getElem_of_mem hb
    rw [List.length_drop] at hi
    rw [List.getElem_drop]
    have hl : at' + i < S.length := by omega
    have := h2 (at' + i) (by omega) hl
    have e2 : gpD S (at' + i) = S[at' + i] := by unfold gpD; rw [List.getD_eq_getElem?_getD, List.getElem?_eq_getElem hl]; rfl
    rw [e2] at this
    exact this
  unfold SrtG
  rw [List.pairwise_append]
  refine ⟨?_, p2, ?_⟩
  · rw [List.pairwise_append]
    exact ⟨p1, by simp, fun a ha b hb => by simp at hb; subst hb; exact q1 a ha⟩
  · intro a ha b hb
    rcases List.mem_append.1 ha with ha | ha
    · exact p3 a ha b hb
    · simp at ha; subst ha; exact q2 b hb

theorem srtof_ins {S l : List Gp} {g : Gp} {at' : Nat} (hat : at' ≤ S.length) (h : SrtOf S l) (hg : g.f ≤ g.t) (hok : GpOK g) (h1 : at' = 0 ∨ (gpD S (at' - 1)).f ≤ g.f) (h2 : ∀ i, at' ≤ i → i < S.length → g.f ≤ (gpD S i).f) : SrtOf (S.take at' ++ [g] ++ S.drop at') (l ++ [g]) := by
  obtain ⟨a1, a2, a3, a4⟩ := h
  have hsp : S.take at' ++ S.drop at' = S := List.take_append_drop _ _
  refine ⟨srt_ins hat a1 h1 h2, fun x hx => ?_, fun x => ?_, ?_⟩
  · rcases List.mem_append.1 hx with hx | hx
    · rcases List.mem_append.1 hx with hx | hx
      · exact a2 x (List.mem_of_mem_take hx)
      · simp at hx; subst hx; exact ⟨hg, hok⟩
    · exact a2 x (List.mem_of_mem_drop hx)
  · rw [cov_app, cov_app, cov_app, ← a3 x]
    have : Cov S x ↔ Cov (S.take at') x ∨ Cov (S.drop at') x := by rw [← cov_app, hsp]
    rw [this]
    constructor
    · rintro ((h | h) | h)
      · exact .inl (.inl h)
      · exact .inr h
      · exact .inl (.inr h)
    · rintro ((h | h) | h)
      · exact .inl (.inl h)
      · exact .inr h
      · exact .inl (.inr h)
  · simp only [List.length_append, List.length_take, List.length_drop, List.length_cons, List.length_nil]
    omega

theorem srtof_skip {S l : List Gp} {g : Gp} (h : SrtOf S l) (hg : ¬ g.f ≤ g.t) : SrtOf S (l ++ [g]) := by
  obtain ⟨a1, a2, a3, a4⟩ := h
  refine ⟨a1, a2, fun x => ?_, by simp; omega⟩
  rw [cov_app, a3 x]
  constructor
  · exact fun h => .inl h
  · rintro (h | ⟨q, hq, k⟩)
    · exact h
    · simp at hq; subst hq; omega
end Go.Proofs.Ytccjgciknaooaaa
