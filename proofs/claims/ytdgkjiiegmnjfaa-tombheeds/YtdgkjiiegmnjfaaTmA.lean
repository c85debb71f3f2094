/- Deletes in memory. -/
import Derived.Test.YtdgkjiiegmnjfaaMatV
namespace Go.Proofs.Ytdgkjiiegmnjfaa
open Go.RowKit Go.Joins
set_option linter.unusedVariables false
structure Del where
  ma : Option Addr
  ml : Nat
  mc : Nat
  ms : List Mat
  fr : Int
  tt : Int
  up : Int
def Del.cells (d : Del) : List Value := [.slice d.ma d.ml d.mc, .int .i64 d.fr, .int .i64 d.tt, .int .i64 d.up]
def dvs (l : List Del) : List Value := (l.map Del.cells).flatten
theorem dvs_cons (d : Del) (l : List Del) : dvs (d :: l) = .slice d.ma d.ml d.mc :: .int .i64 d.fr :: .int .i64 d.tt :: .int .i64 d.up :: dvs l := rfl
theorem dvs_length (l : List Del) : (dvs l).length = l.length * 4 := by
  induction l with
  | nil => rfl
  | cons d t ih => rw [dvs_cons]; simp only [List.length_cons, ih]; omega
theorem dvs_append (l m : List Del) : dvs (l ++ m) = dvs l ++ dvs m := by simp [dvs]
theorem dvs_get (l : List Del) : ∀ (j : Nat) (d : Del), l[j]? = some d → ∀ k v, d.cells[k]? = some v → (dvs l)[j * 4 + k]? = some v := by
  induction l with
  | nil => intro j s h; simp at h
  | cons x t ih =>
    intro j s h k v hk
    rw [dvs_cons]
    cases j with
    | zero =>
      simp at h
      subst h
      have : k < 4 := (List.getElem?_eq_some_iff.1 hk).1
      match k, this with
      | 0, _ => simpa [Del.cells] using hk
      | 1, _ => simpa [Del.cells] using hk
      | 2, _ => simpa [Del.cells] using hk
      | 3, _ => simpa [Del.cells] using hk
    | succ j =>
      have := ih j s (by simpa using h) k v hk
      rw [show (j + 1) * 4 + k = (j * 4 + k) + 4 from by omega]
      exact this
/-- A slice of deletes that came in, or was made. -/
def Dls (w : World) (a : Option Addr) (len : Nat) (l : List Del) : Prop :=
  l.length = len ∧ len ≤ maxLen ∧ (a = none → len = 0) ∧ (∀ d ∈ l, Mss w d.ma d.ml d.ms ∧ d.ml * 40 ≤ 140737488355328) ∧ ∀ x, a = some x → ∀ j d, l[j]? = some d → ∀ k v, d.cells[k]? = some v → w.cell? (x.add (j * 4 + k)) = some v
theorem Dls.below {w w' : World} {a : Option Addr} {len : Nat} {l : List Del} (h : Dls w a len l) (hb : Below w.heap.size w w') : Dls w' a len l := by
  obtain ⟨h1, h2, h3, h4, h5⟩ := h
  refine ⟨h1, h2, h3, fun s hs => ⟨(h4 s hs).1.below hb, (h4 s hs).2⟩, fun x hx j s hs k v hv => ?_⟩
  have := h5 x hx j s hs k v hv
  exact (hb.cell (block_lt_of_cell this)).trans this
theorem Dls.take {w : World} {a : Option Addr} {len : Nat} {l : List Del} (h : Dls w a len l) (k : Nat) (hk : k ≤ len) : Dls w a k (l.take k) := by
  obtain ⟨h1, h2, h3, h4, h5⟩ := h
  refine ⟨by rw [List.length_take]; omega, by omega, fun e => by have := h3 e; omega, fun d hd => h4 d (List.mem_of_mem_take hd), fun x hx j d hd => ?_⟩
  rw [List.getElem?_take] at hd
  split at hd
  · exact h5 x hx j d hd
  · cases hd
theorem Dls.at {w : World} {a : Option Addr} {len j : Nat} {l : List Del} {d : Del} (h : Dls w a len l) (hd : l[j]? = some d) :
    ∃ b off, a = some ⟨b, off, none⟩ ∧ b < w.heap.size ∧ w.cell? ⟨b, off + j * 4, none⟩ = some (.slice d.ma d.ml d.mc) ∧ w.cell? ⟨b, off + j * 4 + 1, none⟩ = some (.int .i64 d.fr) ∧ w.cell? ⟨b, off + j * 4 + 2, none⟩ = some (.int .i64 d.tt) ∧ w.cell? ⟨b, off + j * 4 + 3, none⟩ = some (.int .i64 d.up) ∧ Mss w d.ma d.ml d.ms ∧ d.ml * 40 ≤ 140737488355328 := by
  obtain ⟨h1, h2, h3, h4, h5⟩ := h
  have hjl : j < l.length := (List.getElem?_eq_some_iff.1 hd).1
  cases a with
  | none => have := h3 rfl; omega
  | some x =>
    obtain ⟨b, off, spot⟩ := x
    obtain ⟨s0, hs0⟩ : ∃ s0, l[0]? = some s0 := ⟨_, List.getElem?_eq_getElem (by omega)⟩
    have hspot : spot = none := by simpa [Addr.add] using World.cell?_spot (h5 _ rfl 0 s0 hs0 0 _ rfl)
    subst hspot
    have h := h5 _ rfl j d hd
    have e : ∀ k, (⟨b, off, none⟩ : Addr).add (j * 4 + k) = ⟨b, off + j * 4 + k, none⟩ := fun k => by rw [xadd_none, Nat.add_assoc]
    simp only [e] at h
    exact ⟨b, off, rfl, block_lt_of_cell (h 0 _ rfl), h 0 _ rfl, h 1 _ rfl, h 2 _ rfl, h 3 _ rfl, (h4 d (List.mem_of_getElem? hd)).1, (h4 d (List.mem_of_getElem? hd)).2⟩
theorem own_apart {w : World} {base e size n base' e' size' n' : Nat} {v v' : Value} {xs xs' : List Value} (h : w.ownsRow base e size v n xs) (h' : w.ownsRow base' e' size' v' n' xs') (he : e ≠ e') : v.ownBlock = none ∨ v.ownBlock ≠ v'.ownBlock := by
  rcases h.2 with ⟨rfl, _⟩ | ⟨g, cap, cur, rfl, _, hg, _⟩
  · exact .inl rfl
  · refine .inr ?_
    rcases h'.2 with ⟨rfl, _⟩ | ⟨g', cap', cur', rfl, _, hg', _⟩
    · simp [Value.ownBlock]
    · intro hh
      simp [Value.ownBlock] at hh
      subst hh
      rw [hg] at hg'
      simp at hg'
      exact he hg'.2
/-- Matchers in a row of their own. -/
def OwnM (w : World) (base : Nat) (d : Del) : Prop :=
  w.ownsRow base 37 3 (.slice d.ma d.ml d.mc) d.ml (mvs d.ms) ∧ d.ms.length = d.ml ∧ (∀ m ∈ d.ms, m.n.size ≤ maxLen ∧ m.v.size ≤ maxLen) ∧ d.ml * 40 ≤ 140737488355328
/-- Deletes in a row of their own, with matchers of their own. -/
def OwnD (w : World) (base : Nat) (v : Value) (l : List Del) : Prop :=
  w.ownsRow base 34 4 v l.length (dvs l) ∧ ∀ d ∈ l, OwnM w base d
theorem own_skip {w w' : World} {base e size n : Nat} {v : Value} {xs : List Value} (h : w.ownsRow base e size v n xs) (hb : Below w.heap.size w w') : w'.ownsRow base e size v n xs := by
  refine ⟨h.1, ?_⟩
  rcases h.2 with hn | ⟨g, cap, cur, rfl, hbb, hgg, rest⟩
  · exact .inl hn
  · exact .inr ⟨g, cap, cur, rfl, hbb, by rw [hb.block g (Array.getElem?_eq_some_iff.1 hgg).1]; exact hgg, rest⟩
theorem OwnM.below {w w' : World} {base : Nat} {d : Del} (h : OwnM w base d) (hb : Below w.heap.size w w') : OwnM w' base d := ⟨own_skip h.1 hb, h.2⟩
theorem OwnD.below {w w' : World} {base : Nat} {v : Value} {l : List Del} (h : OwnD w base v l) (hb : Below w.heap.size w w') : OwnD w' base v l :=
  ⟨own_skip h.1 hb, fun d hd => (h.2 d hd).below hb⟩
theorem OwnM.mss {w : World} {base : Nat} {d : Del} (h : OwnM w base d) : Mss w d.ma d.ml d.ms := by
  obtain ⟨a, c, e, hm⟩ := mss_of_own h.1 h.2.1 h.2.2.1
  cases e
  exact hm
theorem OwnD.dls {w : World} {base : Nat} {v : Value} {l : List Del} (h : OwnD w base v l) : ∃ a c, v = .slice a l.length c ∧ Dls w a l.length l := by
  have h' := h.1
  rcases h.1.2 with ⟨rfl, h0⟩ | ⟨g, cap, cur, rfl, hg, hh, hnc, hcm, hcs, htk⟩
  · rw [h0]
    exact ⟨none, 0, rfl, h0, Nat.zero_le _, fun _ => rfl, fun d hd => ⟨(h.2 d hd).mss, (h.2 d hd).2.2.2⟩, fun x hx => by cases hx⟩
  · refine ⟨_, cap, rfl, rfl, by omega, (fun h => by cases h), fun d hd => ⟨(h.2 d hd).mss, (h.2 d hd).2.2.2⟩, fun x hx j d hd k v hk => ?_⟩
    cases hx
    exact h'.cells (g := g) rfl _ _ (dvs_get l j d hd k v hk)
/-- One delete more. -/
theorem OwnD.push {w w' : World} {base : Nat} {v v' : Value} {l : List Del} {d : Del} (h : OwnD w base v l) (hd : OwnM w base d)
    (ho : w'.ownsRow base 34 4 v' (l.length + 1) (dvs l ++ d.cells)) (hg : w.grownBy w' v.ownBlock) : OwnD w' base v' (l ++ [d]) := by
  have hk : ∀ x, OwnM w base x → OwnM w' base x := fun x hx => ⟨hx.1.kept hg (own_apart hx.1 h.1 (by decide)), hx.2⟩
  refine ⟨?_, fun x hx => ?_⟩
  · rw [dvs_append, List.length_append]
    simpa [dvs] using ho
  · rcases List.mem_append.1 hx with hx | hx
    · exact hk x (h.2 x hx)
    · rw [List.mem_singleton.1 hx]
      exact hk d hd
theorem deInfo : ∃ i0 z, Try.prog.info? 34 = some i0 ∧ i0.zero = some z ∧ i0.size = 4 ∧ i0.bytes = 48 ∧ z.cells.size = 4 := by
  have h : (Try.prog.info? 34).map (fun i => (i.zero, i.size, i.bytes)) = some (some (.agg #[.slice none 0 0, .int .i64 0, .int .i64 0, .int .i64 0]), 4, 48) := by kernel_rfl
  cases hi : Try.prog.info? 34 with
  | none => rw [hi] at h; cases h
  | some i0 =>
    rw [hi] at h
    simp only [Option.map_some, Option.some.injEq, Prod.mk.injEq] at h
    exact ⟨i0, _, rfl, h.1, h.2.1, h.2.2, rfl⟩
/-- What a delete says. -/
def Del.pl (d : Del) : List Mat × Int × Int × Int := (d.ms, d.fr, d.tt, d.up)
end Go.Proofs.Ytdgkjiiegmnjfaa
