/- merge: merged at any lists, what its loops keep. -/
import Derived.Test.YtccjgciknaooaaaHhF
import Derived.Test.YtccjgciknaooaaaMgJ
import Derived.Deep.LoopGhost
import Derived.BigRegion
namespace Go.Proofs.Ytccjgciknaooaaa
open Go.RowKit Go.Joins
set_option linter.unusedVariables false

def tot : List Run → Nat
  | [] => 0
  | r :: t => r.len + tot t

theorem tot_app (l m : List Run) : tot (l ++ m) = tot l + tot m := by
  induction l with
  | nil => simp [tot]
  | cons r t ih => simp [tot, ih]; omega

theorem tot_perm {l m : List Run} (h : l.Perm m) : tot l = tot m := by
  induction h with
  | nil => rfl
  | cons x _ ih => simp [tot, ih]
  | swap x y l => simp [tot]; omega
  | trans _ _ ih1 ih2 => exact ih1.trans ih2

def totZ : List Rk → Nat
  | [] => 0
  | r :: t => r.zs.length + totZ t

theorem totZ_take {l : List Rk} {k : Nat} {x : Rk} (h : l[k]? = some x) : totZ (l.take (k + 1)) = totZ (l.take k) + x.zs.length := by
  have e : ∀ a b : List Rk, totZ (a ++ b) = totZ a + totZ b := by
    intro a b
    induction a with
    | nil => simp [totZ]
    | cons r t ih => simp [totZ, ih]; omega
  rw [List.take_add_one, h, e]
  simp [totZ]

/-- A run of one of the lists in memory. -/
def IsRn (l : List Rk) (W : World) (r : Run) : Prop :=
  ∃ (p : Nat) (x : Rk) (b o : Nat), l[p]? = some x ∧ r.place = (p : Int) ∧ r.rank = x.rank ∧ 0 < r.len ∧ r.len ≤ x.zs.length ∧ x.sa = some ⟨b, o, none⟩ ∧ r.a = some ⟨b, o + (x.zs.length - r.len) * 2, none⟩ ∧ r.len ≤ r.cap

theorem isrn_p {l : List Rk} {W : World} {r : Run} (h : IsRn l W r) : RunP l r := by
  obtain ⟨p, x, b, o, h1, h2, h3, h4, h5, _⟩ := h
  exact ⟨p, x, h1, h2, h3, h4, h5⟩

theorem isrn_at {l : List Rk} {W W' : World} {r : Run} (hl : ∀ (q : Nat) (z : Rk), l[q]? = some z → Sm W z.sa z.sl z.zs ∧ z.sl ≤ z.sc) (h : IsRn l W r) (hb : Below W.heap.size W W') :
    ∃ b o, r.a = some ⟨b, o, none⟩ ∧ 0 < r.len ∧ b < W.heap.size ∧ W'.cell? ⟨b, o, none⟩ = some (.int .i64 (tmR l r)) := by
  obtain ⟨p, x, b, o, h1, h2, h3, h4, h5, h6, h7, h8⟩ := h
  obtain ⟨hs, _⟩ := hl p x h1
  obtain ⟨b2, o2, e, hbs, hc⟩ := hs.pos (by rw [← hs.1]; omega)
  rw [h6] at e
  cases e
  have c := (hc (x.zs.length - r.len) (by rw [← hs.1]; omega)).1
  refine ⟨b, _, h7, h4, hbs, ?_⟩
  rw [tmR_of h1 h2]
  exact (hb.cell (p := ⟨b, o + (x.zs.length - r.len) * 2, none⟩) hbs).trans c

theorem own_cell {B n k o : Nat} {W : World} {v u : Value} {xs : List Value} (ho : W.ownsRow B 36 2 v n xs) (hne : some k ≠ v.ownBlock) : (W.setCell ⟨k, o, none⟩ u).ownsRow B 36 2 v n xs :=
  own_stay ho (fun j hj => Below.heap_setCell _ ⟨k, o, none⟩ _ _ (fun e => hne (by rw [hj, e])))

theorem hpi_cell {B h k o : Nat} {W : World} {v u : Value} {rs : List Run} (x : HpI B W h v rs) (h1 : h ≠ k) (h2 : v.ownBlock ≠ some k) : HpI B (W.setCell ⟨k, o, none⟩ u) h v rs :=
  ⟨(Below.heap_setCell _ ⟨k, o, none⟩ _ _ h1).trans x.1, own_stay x.2.1 (fun j hj => Below.heap_setCell _ ⟨k, o, none⟩ _ _ (fun e => h2 (by rw [hj, e]))), x.2.2⟩

/-- What merging leaves. -/
def MgdP (l : List Rk) (N : Nat) (w : World) (e : Ending) (w' : World) : Prop :=
  ∃ (v : Value) (R : List Sam), e = .returned v ∧ UpS R ∧ (∀ y, y ∈ R ↔ WinS l y) ∧ R.length ≤ N ∧ w'.ownsRow w.heap.size 36 2 v R.length (vsm R) ∧ Below w.heap.size w w'

theorem own_form {B n sz : Nat} {W : World} {v : Value} {e : TypeId} {xs : List Value} (ho : W.ownsRow B e sz v n xs) : ∃ a c, v = .slice a n c := by
  rcases ho.2 with ⟨h1, h2⟩ | ⟨g', cap, cur, h1, _⟩
  · exact ⟨none, 0, by rw [h1, h2]⟩
  · exact ⟨_, _, h1⟩

theorem last_up {R : List Sam} {k : Nat} (h : UpS R) (hk : R.length = k + 1) : samD R k ∈ R ∧ ∀ y ∈ R, y.t ≤ (samD R k).t := by
  have hd : ∀ i (hi : i < R.length), samD R i = R[i] := fun i hi => by
    unfold samD
    rw [List.getD_eq_getElem?_getD, List.getElem?_eq_getElem hi]
    rfl
  refine ⟨by rw [hd k (by omega)]; exact List.getElem_mem _, fun y hy => ?_⟩
  obtain ⟨i, hi, rfl⟩ := List.getElem_of_mem hy
  rw [hd k (by omega)]
  by_cases he : i = k
  · subst he; exact Int.le_refl _
  · exact Int.le_of_lt (List.pairwise_iff_getElem.1 h i k hi (by omega) (by omega))

theorem mi_start {l : List Rk} {rs : List Run} (hp : rs.Pairwise (fun r s => r.place ≠ s.place)) (hd : ∀ (p : Nat) (x : Rk), l[p]? = some x → 0 < x.zs.length → ∃ r ∈ rs, r.place = (p : Int) ∧ r.len = x.zs.length) : MI l rs [] where
  places := hp
  done := fun p x i hx hi => .inl (by
    obtain ⟨r, hr, h1, h2⟩ := hd p x hx (by omega)
    exact ⟨r, hr, h1, by omega⟩)
  up := List.Pairwise.nil
  win := fun y hy => by cases hy
  low := fun y hy => by cases hy

/-- What the first loop keeps. -/
structure L1P (l : List Rk) (w : World) (k : Nat) (rs : List Run) : Prop where
  heap : Heap (tmR l) rs
  isrn : ∀ r ∈ rs, IsRn l w r
  lt : ∀ r ∈ rs, r.place < (k : Int)
  places : rs.Pairwise (fun r s => r.place ≠ s.place)
  has : ∀ (p : Nat) (x : Rk), p < k → l[p]? = some x → 0 < x.zs.length → ∃ r ∈ rs, r.place = (p : Int) ∧ r.len = x.zs.length
  tots : tot rs = totZ (l.take k)
  len : rs.length ≤ k

theorem L1P.start (l : List Rk) (w : World) : L1P l w 0 [] where
  heap := fun i _ h => by simp at h
  isrn := fun r h => by cases h
  lt := fun r h => by cases h
  places := List.Pairwise.nil
  has := fun p x h => by omega
  tots := by simp [tot, totZ]
  len := Nat.le_refl _

theorem L1P.skip {l : List Rk} {w : World} {k : Nat} {rs : List Run} {x : Rk} (h : L1P l w k rs) (hx : l[k]? = some x) (h0 : x.zs.length = 0) : L1P l w (k + 1) rs where
  heap := h.heap
  isrn := h.isrn
  lt := fun r hr => by have := h.lt r hr; omega
  places := h.places
  has := fun p y hp hy h1 => by
    by_cases he : p = k
    · subst he; rw [hx] at hy; cases hy; omega
    · exact h.has p y (by omega) hy h1
  tots := by rw [totZ_take hx, h0, h.tots]; rfl
  len := by have := h.len; omega

theorem L1P.push {l : List Rk} {w : World} {k : Nat} {rs rs' : List Run} {x : Rk} {r : Run} (h : L1P l w k rs) (hx : l[k]? = some x) (hr : IsRn l w r) (hp : r.place = (k : Int)) (hl : r.len = x.zs.length) (hperm : rs'.Perm (rs ++ [r])) (hh : Heap (tmR l) rs') : L1P l w (k + 1) rs' where
  heap := hh
  isrn := fun q hq => by
    rcases List.mem_append.1 (hperm.mem_iff.1 hq) with h1 | h1
    · exact h.isrn q h1
    · rw [List.mem_singleton] at h1; subst h1; exact hr
  lt := fun q hq => by
    rcases List.mem_append.1 (hperm.mem_iff.1 hq) with h1 | h1
    · have := h.lt q h1; omega
    · rw [List.mem_singleton] at h1; subst h1; omega
  places := (hperm.pairwise_iff (fun h => Ne.symm h)).2 (List.pairwise_append.2 ⟨h.places, List.pairwise_singleton _ _, fun a ha b hb => by
    rw [List.mem_singleton] at hb; subst hb
    have := h.lt a ha
    omega⟩)
  has := fun p y hp2 hy h1 => by
    by_cases he : p = k
    · subst he; rw [hx] at hy; cases hy
      exact ⟨r, hperm.mem_iff.2 (by simp), hp, hl⟩
    · obtain ⟨q, hq, h2⟩ := h.has p y (by omega) hy h1
      exact ⟨q, hperm.mem_iff.2 (List.mem_append.2 (.inl hq)), h2⟩
  tots := by rw [tot_perm hperm, tot_app, h.tots, totZ_take hx]; simp [tot, hl]
  len := by have := hperm.length_eq; simp at this; have := h.len; omega

theorem heap_min {T : Run → Int} {rs : List Run} (h : Heap T rs) : ∀ r ∈ rs, aheadR T r (rn rs 0) = false := fun r hr => by
  obtain ⟨i, hi, rfl⟩ := List.getElem_of_mem hr
  have e := rn_get hi
  rw [List.getElem?_eq_getElem hi] at e
  have q := heap_root h i hi
  injection e with e
  rw [← e] at q
  exact q
end Go.Proofs.Ytccjgciknaooaaa
