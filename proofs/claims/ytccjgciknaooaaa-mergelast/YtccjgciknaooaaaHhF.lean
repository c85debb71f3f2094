/- merge: lists merged, in plain words. -/
import Derived.Test.YtccjgciknaooaaaHhE
namespace Go.Proofs.Ytccjgciknaooaaa
open Go.RowKit Go.Joins
set_option linter.unusedVariables false

def zRk : Rk := ⟨0, none, 0, 0, []⟩
def rkD (l : List Rk) (p : Nat) : Rk := l.getD p zRk

theorem rkD_get {l : List Rk} {p : Nat} {x : Rk} (h : l[p]? = some x) : rkD l p = x := by
  unfold rkD
  rw [List.getD_eq_getElem?_getD, h]
  rfl

/-- A run's first time. -/
def tmR (l : List Rk) (r : Run) : Int := (samD (rkD l r.place.toNat).zs ((rkD l r.place.toNat).zs.length - r.len)).t

/-- Whether one of two lists counts, of one time. -/
def btR (ra pa rb pb : Int) : Prop := rb < ra ∨ (ra = rb ∧ pb < pa)

def UpS (R : List Sam) : Prop := R.Pairwise (fun a b => a.t < b.t)
def UpZ (zs : List Sam) : Prop := ∀ i j, i < j → j < zs.length → (samD zs i).t < (samD zs j).t

theorem upZ_of {zs : List Sam} (h : riseB zs = true) : UpZ zs := by
  have step : ∀ i, i + 1 < zs.length → (samD zs i).t < (samD zs (i + 1)).t := by
    intro i hi
    rcases Int.lt_or_le (samD zs i).t (samD zs (i + 1)).t with h1 | h1
    · exact h1
    · rw [riseB_no i hi h1] at h; cases h
  intro i j hij hj
  induction j with
  | zero => omega
  | succ j ih =>
    by_cases hq : i = j
    · subst hq; exact step i hj
    · have := ih (by omega) (by omega)
      have := step j hj
      omega

/-- A sample that counts among all of its time. -/
def WinS (l : List Rk) (y : Sam) : Prop := ∃ (p : Nat) (x : Rk) (i : Nat), l[p]? = some x ∧ i < x.zs.length ∧ samD x.zs i = y ∧ ∀ (q : Nat) (z : Rk) (k : Nat), l[q]? = some z → k < z.zs.length → (samD z.zs k).t = y.t → ¬ btR z.rank q x.rank p

/-- What is known of a run without memory. -/
def RunP (l : List Rk) (r : Run) : Prop := ∃ (q : Nat) (z : Rk), l[q]? = some z ∧ r.place = (q : Int) ∧ r.rank = z.rank ∧ 0 < r.len ∧ r.len ≤ z.zs.length

theorem tmR_of {l : List Rk} {r : Run} {q : Nat} {z : Rk} (h : l[q]? = some z) (hp : r.place = (q : Int)) : tmR l r = (samD z.zs (z.zs.length - r.len)).t := by
  unfold tmR
  rw [hp, Int.toNat_natCast, rkD_get h]

/-- So far merged. -/
structure MI (l : List Rk) (rs : List Run) (R : List Sam) : Prop where
  places : rs.Pairwise (fun r s => r.place ≠ s.place)
  done : ∀ (p : Nat) (x : Rk) (i : Nat), l[p]? = some x → i < x.zs.length → (∃ r ∈ rs, r.place = (p : Int) ∧ x.zs.length - r.len ≤ i) ∨ ∃ y ∈ R, y.t = (samD x.zs i).t
  up : UpS R
  win : ∀ y ∈ R, WinS l y
  low : ∀ y ∈ R, ∀ r ∈ rs, y.t ≤ tmR l r

theorem MI.perm {l : List Rk} {rs ss : List Run} {R : List Sam} (h : MI l rs R) (hp : ss.Perm rs) : MI l ss R where
  places := (hp.pairwise_iff (fun h => Ne.symm h)).2 h.places
  done := fun p x i hx hi => by
    rcases h.done p x i hx hi with ⟨r, hr, k⟩ | k
    · exact .inl ⟨r, hp.mem_iff.2 hr, k⟩
    · exact .inr k
  up := h.up
  win := h.win
  low := fun y hy r hr => h.low y hy r (hp.mem_iff.1 hr)

theorem mi_pop {l : List Rk} {rs : List Run} {R R' : List Sam} {r0 : Run} {p : Nat} {x : Rk} {s : Sam} (hM : MI l (r0 :: rs) R) (hx : l[p]? = some x) (hp : r0.place = (p : Int)) (hrk : r0.rank = x.rank) (hl0 : 0 < r0.len) (hl1 : r0.len ≤ x.zs.length)
    (hup : ∀ (q : Nat) (z : Rk), l[q]? = some z → UpZ z.zs) (hmin : ∀ r ∈ rs, aheadR (tmR l) r r0 = false) (hruns : ∀ r ∈ rs, RunP l r) (hs : s = samD x.zs (x.zs.length - r0.len))
    (hR : (R' = R ∧ ∃ y ∈ R, y.t = s.t) ∨ (R' = R ++ [s] ∧ ∀ y ∈ R, y.t < s.t)) :
    (r0.len = 1 → MI l rs R') ∧ (∀ r1 : Run, r1.place = r0.place → r1.len + 1 = r0.len → 0 < r1.len → MI l (r1 :: rs) R') := by
  have hT0 : tmR l r0 = s.t := by rw [tmR_of hx hp, hs]
  obtain ⟨pl1, pl2⟩ := List.pairwise_cons.1 hM.places
  have hge : ∀ r ∈ rs, s.t ≤ tmR l r := by
    intro r hr
    have := hmin r hr
    unfold aheadR at this
    rw [Bool.eq_false_iff, Ne, aheadB_iff] at this
    rw [← hT0]
    omega
  have hle : ∀ y ∈ R, y.t ≤ s.t := fun y hy => by rw [← hT0]; exact hM.low y hy r0 (by simp)
  have hup' : UpS R' := by
    rcases hR with ⟨rfl, _⟩ | ⟨rfl, h⟩
    · exact hM.up
    · exact List.pairwise_append.2 ⟨hM.up, by simp, fun a ha b hb => by rw [List.mem_singleton] at hb; subst hb; exact h a ha⟩
  have hsub : ∀ y ∈ R, y ∈ R' := by
    rcases hR with ⟨rfl, _⟩ | ⟨rfl, h⟩
    · exact fun y hy => hy
    · exact fun y hy => by simp [hy]
  have hhas : ∃ y ∈ R', y.t = s.t := by
    rcases hR with ⟨rfl, h⟩ | ⟨rfl, h⟩
    · exact h
    · exact ⟨s, by simp, rfl⟩
  have hmem : ∀ y ∈ R', y ∈ R ∨ (y = s ∧ ∀ z ∈ R, z.t < s.t) := by
    rcases hR with ⟨rfl, h⟩ | ⟨rfl, h⟩
    · exact fun y hy => .inl hy
    · intro y hy
      rcases List.mem_append.1 hy with hy | hy
      · exact .inl hy
      · rw [List.mem_singleton] at hy; exact .inr ⟨hy, h⟩
  have hwin : ∀ y ∈ R', WinS l y := by
    intro y hy
    rcases hmem y hy with hy | ⟨rfl, hlt⟩
    · exact hM.win y hy
    · refine ⟨p, x, x.zs.length - r0.len, hx, by omega, hs.symm, fun q z k hz hk ht hb => ?_⟩
      rcases hM.done q z k hz hk with ⟨r, hr, hrq, hrk2⟩ | ⟨w, hw, hwt⟩
      · rcases List.mem_cons.1 hr with rfl | hr
        · have hqp : q = p := by rw [hp] at hrq; omega
          subst hqp
          rw [hx] at hz
          cases hz
          unfold btR at hb
          omega
        · obtain ⟨q2, z2, hz2, hq2, hrr, hl2, hl3⟩ := hruns r hr
          have hqq : q2 = q := by rw [hq2] at hrq; omega
          subst hqq
          rw [hz] at hz2
          cases hz2
          have h1 := hge r hr
          have hTr := tmR_of hz hq2
          have h2 : tmR l r ≤ y.t := by
            rw [hTr, ← ht]
            by_cases he : z.zs.length - r.len = k
            · rw [he]; exact Int.le_refl _
            · exact Int.le_of_lt (hup q2 z hz _ _ (by omega) hk)
          have h3 := hmin r hr
          unfold aheadR at h3
          rw [Bool.eq_false_iff, Ne, aheadB_iff, hT0, hrr, hrk, hq2, hp] at h3
          unfold btR at hb
          omega
      · have := hlt w hw
        omega
  have hdone : ∀ (q : Nat) (z : Rk) (i : Nat), l[q]? = some z → i < z.zs.length → (∃ r ∈ rs, r.place = (q : Int) ∧ z.zs.length - r.len ≤ i) ∨ (q = p ∧ z = x ∧ x.zs.length - r0.len < i) ∨ ∃ y ∈ R', y.t = (samD z.zs i).t := by
    intro q z i hz hi
    rcases hM.done q z i hz hi with ⟨r, hr, hrq, hri⟩ | ⟨y, hy, hyt⟩
    · rcases List.mem_cons.1 hr with rfl | hr
      · have hqp : q = p := by rw [hp] at hrq; omega
        subst hqp
        rw [hx] at hz
        cases hz
        by_cases he : x.zs.length - r.len = i
        · obtain ⟨y, hy, hyt⟩ := hhas
          exact .inr (.inr ⟨y, hy, by rw [hyt, hs, he]⟩)
        · exact .inr (.inl ⟨rfl, rfl, by omega⟩)
      · exact .inl ⟨r, hr, hrq, hri⟩
    · exact .inr (.inr ⟨y, hsub y hy, hyt⟩)
  have hlow : ∀ y ∈ R', ∀ r ∈ rs, y.t ≤ tmR l r := by
    intro y hy r hr
    rcases hmem y hy with hy | ⟨rfl, _⟩
    · exact hM.low y hy r (by simp [hr])
    · exact hge r hr
  constructor
  · intro h1
    refine ⟨pl2, fun q z i hz hi => ?_, hup', hwin, hlow⟩
    rcases hdone q z i hz hi with h | ⟨rfl, rfl, h⟩ | h
    · exact .inl h
    · omega
    · exact .inr h
  · intro r1 hr1 hr2 hr3
    have hT1 : s.t < tmR l r1 := by
      rw [tmR_of hx (hr1.trans hp), hs]
      exact hup p x hx _ _ (by omega) (by omega)
    refine ⟨List.pairwise_cons.2 ⟨fun r hr => by rw [hr1]; exact pl1 r hr, pl2⟩, fun q z i hz hi => ?_, hup', hwin, fun y hy r hr => ?_⟩
    · rcases hdone q z i hz hi with ⟨r, hr, h⟩ | ⟨rfl, rfl, h⟩ | h
      · exact .inl ⟨r, by simp [hr], h⟩
      · exact .inl ⟨r1, by simp, by rw [hr1]; exact hp, by omega⟩
      · exact .inr h
    · rcases List.mem_cons.1 hr with rfl | hr
      · have : y.t ≤ s.t := by
          rcases hmem y hy with hy | ⟨rfl, _⟩
          · exact hle y hy
          · exact Int.le_refl _
        omega
      · exact hlow y hy r hr

theorem win_one {l : List Rk} (hup : ∀ (q : Nat) (z : Rk), l[q]? = some z → UpZ z.zs) {y y' : Sam} (h : WinS l y) (h' : WinS l y') (ht : y.t = y'.t) : y = y' := by
  obtain ⟨p, x, i, hx, hi, hy, hb⟩ := h
  obtain ⟨p', x', i', hx', hi', hy', hb'⟩ := h'
  have h1 := hb p' x' i' hx' hi' (by rw [hy']; exact ht.symm)
  have h2 := hb' p x i hx hi (by rw [hy]; exact ht)
  unfold btR at h1 h2
  have hpp : p = p' := by omega
  subst hpp
  rw [hx] at hx'
  cases hx'
  have hii : i = i' := by
    rcases Nat.lt_trichotomy i i' with h | h | h
    · have := hup p x hx i i' h hi'
      rw [hy, hy'] at this; omega
    · exact h
    · have := hup p x hx i' i h hi
      rw [hy, hy'] at this; omega
  subst hii
  rw [← hy, hy']

/-- What all lists merged are. -/
theorem mi_end {l : List Rk} {R : List Sam} (hup : ∀ (q : Nat) (z : Rk), l[q]? = some z → UpZ z.zs) (h : MI l [] R) : UpS R ∧ ∀ y, y ∈ R ↔ WinS l y := by
  refine ⟨h.up, fun y => ⟨h.win y, fun hw => ?_⟩⟩
  have hw2 := hw
  obtain ⟨p, x, i, hx, hi, hy, _⟩ := hw
  rcases h.done p x i hx hi with ⟨r, hr, _⟩ | ⟨y', hy', ht⟩
  · cases hr
  · rw [hy] at ht
    rw [← win_one hup (h.win y' hy') hw2 ht]
    exact hy'

theorem ups_ext : ∀ (l m : List Sam), UpS l → UpS m → (∀ x, x ∈ l ↔ x ∈ m) → l = m := by
  intro l
  induction l with
  | nil =>
    intro m _ _ h
    cases m with
    | nil => rfl
    | cons b s => exact absurd ((h b).2 (by simp)) (by simp)
  | cons a r ih =>
    intro m hl hm h
    cases m with
    | nil => exact absurd ((h a).1 (by simp)) (by simp)
    | cons b s =>
      obtain ⟨h1, h2⟩ := List.pairwise_cons.1 hl
      obtain ⟨k1, k2⟩ := List.pairwise_cons.1 hm
      have e : a = b := by
        rcases List.mem_cons.1 ((h a).1 (by simp)) with e | e
        · exact e
        · rcases List.mem_cons.1 ((h b).2 (by simp)) with f | f
          · exact f.symm
          · have := h1 b f
            have := k1 a e
            omega
      subst e
      rw [ih s h2 k2 (fun x => ?_)]
      constructor
      · intro hx
        rcases List.mem_cons.1 ((h x).1 (by simp [hx])) with e | e
        · have := h1 x hx
          rw [e] at this; omega
        · exact e
      · intro hx
        rcases List.mem_cons.1 ((h x).2 (by simp [hx])) with e | e
        · have := k1 x hx
          rw [e] at this; omega
        · exact e
end Go.Proofs.Ytccjgciknaooaaa
