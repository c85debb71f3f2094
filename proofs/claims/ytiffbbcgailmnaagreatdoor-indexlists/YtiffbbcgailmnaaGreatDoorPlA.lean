/- Footers in memory. -/
import Derived.Test.YtiffbbcgailmnaaGreatDoorInts
namespace Go.Proofs.YtiffbbcgailmnaaGreatDoor
open Go.RowKit Go.Joins
set_option linter.unusedVariables false

structure Fo where
  (nu ge lv rk mn mx bt : Int)
  pa : Option Addr
  (pl pc : Nat)
  ps : List Int

def Fo.cells (d : Fo) : List Value := [.int .i64 d.nu, .int .i64 d.ge, .int .i64 d.lv, .int .i64 d.rk, .int .i64 d.mn, .int .i64 d.mx, .int .i64 d.bt, .slice d.pa d.pl d.pc]

def fvs (l : List Fo) : List Value := (l.map Fo.cells).flatten

theorem fvs_cons (d : Fo) (l : List Fo) : fvs (d :: l) = d.cells ++ fvs l := rfl

theorem fvs_length (l : List Fo) : (fvs l).length = l.length * 8 := by
  induction l with
  | nil => rfl
  | cons d t ih => rw [fvs_cons, List.length_append, ih, List.length_cons]; simp only [Fo.cells, List.length_cons, List.length_nil]; omega

theorem fvs_append (l m : List Fo) : fvs (l ++ m) = fvs l ++ fvs m := by simp [fvs]

theorem fvs_get (l : List Fo) : ∀ (j : Nat) (d : Fo), l[j]? = some d → ∀ k v, d.cells[k]? = some v → (fvs l)[j * 8 + k]? = some v := by
  induction l with
  | nil => intro j s h; simp at h
  | cons x t ih =>
    intro j s h k v hk
    rw [fvs_cons]
    have hl : ∀ y : Fo, y.cells.length = 8 := fun _ => rfl
    cases j with
    | zero =>
      simp at h
      subst h
      have hk2 : k < x.cells.length := (List.getElem?_eq_some_iff.1 hk).1
      rw [Nat.zero_mul, Nat.zero_add, List.getElem?_append_left hk2]
      exact hk
    | succ j =>
      have := ih j s (by simpa using h) k v hk
      rw [show (j + 1) * 8 + k = 8 + (j * 8 + k) from by omega, List.getElem?_append_right (by rw [hl]; omega), hl, Nat.add_sub_cancel_left]
      exact this

def Fls (w : World) (a : Option Addr) (len : Nat) (l : List Fo) : Prop :=
  l.length = len ∧ len ≤ maxLen ∧ (a = none → len = 0) ∧ (∀ d ∈ l, Ils w d.pa d.pl d.ps ∧ d.pl ≤ d.pc) ∧ ∀ x, a = some x → ∀ j d, l[j]? = some d → ∀ k v, d.cells[k]? = some v → w.cell? (x.add (j * 8 + k)) = some v

theorem Fls.nil (w : World) : Fls w none 0 [] := ⟨rfl, Nat.zero_le _, fun _ => rfl, (fun d hd => by cases hd), (fun x hx => by cases hx)⟩

theorem Fls.below {w w' : World} {a : Option Addr} {len : Nat} {l : List Fo} (h : Fls w a len l) (hb : Below w.heap.size w w') : Fls w' a len l := by
  obtain ⟨h1, h2, h3, h4, h5⟩ := h
  refine ⟨h1, h2, h3, fun s hs => ⟨(h4 s hs).1.below hb, (h4 s hs).2⟩, fun x hx j s hs k v hv => ?_⟩
  have := h5 x hx j s hs k v hv
  exact (hb.cell (block_lt_of_cell this)).trans this

theorem Fls.take {w : World} {a : Option Addr} {len : Nat} {l : List Fo} (h : Fls w a len l) (k : Nat) (hk : k ≤ len) : Fls w a k (l.take k) := by
  obtain ⟨h1, h2, h3, h4, h5⟩ := h
  refine ⟨by rw [List.length_take]; omega, by omega, fun e => by have := h3 e; omega, fun d hd => h4 d (List.mem_of_mem_take hd), fun x hx j d hd => ?_⟩
  rw [List.getElem?_take] at hd
  split at hd
  · exact h5 x hx j d hd
  · cases hd

theorem Fls.at {w : World} {a : Option Addr} {len j : Nat} {l : List Fo} {d : Fo} (h : Fls w a len l) (hd : l[j]? = some d) :
    ∃ b off, a = some ⟨b, off, none⟩ ∧ b < w.heap.size ∧ w.cell? ⟨b, off + j * 8, none⟩ = some (.int .i64 d.nu) ∧ w.cell? ⟨b, off + j * 8 + 1, none⟩ = some (.int .i64 d.ge) ∧ w.cell? ⟨b, off + j * 8 + 2, none⟩ = some (.int .i64 d.lv) ∧ w.cell? ⟨b, off + j * 8 + 3, none⟩ = some (.int .i64 d.rk) ∧ w.cell? ⟨b, off + j * 8 + 4, none⟩ = some (.int .i64 d.mn) ∧ w.cell? ⟨b, off + j * 8 + 5, none⟩ = some (.int .i64 d.mx) ∧ w.cell? ⟨b, off + j * 8 + 6, none⟩ = some (.int .i64 d.bt) ∧ w.cell? ⟨b, off + j * 8 + 7, none⟩ = some (.slice d.pa d.pl d.pc) ∧ Ils w d.pa d.pl d.ps ∧ d.pl ≤ d.pc := by
  obtain ⟨h1, h2, h3, h4, h5⟩ := h
  have hjl : j < l.length := (List.getElem?_eq_some_iff.1 hd).1
  cases a with
  | none => have := h3 rfl; omega
  | some x =>
    obtain ⟨b, off, spot⟩ := x
    obtain ⟨s0, hs0⟩ : ∃ s0, l[0]? = some s0 := ⟨_, List.getElem?_eq_getElem (by omega)⟩
    have hspot : spot = none := by simpa [Addr.add] using World.cell?_spot (h5 _ rfl 0 s0 hs0 0 _ rfl)
    subst hspot
    have h := h5 _ rfl j d hd
    have e : ∀ k, (⟨b, off, none⟩ : Addr).add (j * 8 + k) = ⟨b, off + j * 8 + k, none⟩ := fun k => by rw [ladd_none, Nat.add_assoc]
    simp only [e] at h
    exact ⟨b, off, rfl, block_lt_of_cell (h 0 _ rfl), h 0 _ rfl, h 1 _ rfl, h 2 _ rfl, h 3 _ rfl, h 4 _ rfl, h 5 _ rfl, h 6 _ rfl, h 7 _ rfl, h4 d (List.mem_of_getElem? hd)⟩

theorem Fls.drop {w : World} {b off len : Nat} {l : List Fo} (h : Fls w (some ⟨b, off, none⟩) len l) (k : Nat) (hk : k ≤ len) : Fls w (some ⟨b, off + k * 8, none⟩) (len - k) (l.drop k) := by
  obtain ⟨h1, h2, h3, h4, h5⟩ := h
  refine ⟨by rw [List.length_drop]; omega, by omega, (fun e => by cases e), fun d hd => h4 d (List.mem_of_mem_drop hd), fun x hx j d hd i v hi => ?_⟩
  cases hx
  rw [List.getElem?_drop] at hd
  have := h5 _ rfl (k + j) d hd i v hi
  rw [ladd_none] at this ⊢
  rw [show off + k * 8 + (j * 8 + i) = off + ((k + j) * 8 + i) from by rw [Nat.add_mul]; omega]
  exact this

/-- What a footer says. -/
def Fo.pv (d : Fo) : Int × Int × Int × Int × Int × Int × Int × List Int := (d.nu, d.ge, d.lv, d.rk, d.mn, d.mx, d.bt, d.ps)

/-- The struct's value. -/
def Fo.agg (d : Fo) : Value := .agg #[.int .i64 d.nu, .int .i64 d.ge, .int .i64 d.lv, .int .i64 d.rk, .int .i64 d.mn, .int .i64 d.mx, .int .i64 d.bt, .slice d.pa d.pl d.pc]

theorem own_slice {w : World} {base e size n : Nat} {v : Value} {xs : List Value} (h : w.ownsRow base e size v n xs) : ∃ a c, v = .slice a n c := by
  rcases h.2 with ⟨h1, h2⟩ | ⟨g, cap, cur, h1, _⟩
  · exact ⟨none, 0, by rw [h1, h2]⟩
  · exact ⟨_, _, h1⟩

theorem own_lower {w : World} {base base' e size n : Nat} {v : Value} {xs : List Value} (h : w.ownsRow base' e size v n xs) (hb : base ≤ base') : w.ownsRow base e size v n xs := by
  refine ⟨h.1, ?_⟩
  rcases h.2 with hn | ⟨g, cap, cur, rfl, hbb, rest⟩
  · exact .inl hn
  · exact .inr ⟨g, cap, cur, rfl, by omega, rest⟩

theorem own_skip {w w' : World} {base e size n : Nat} {v : Value} {xs : List Value} (h : w.ownsRow base e size v n xs) (hb : Below w.heap.size w w') : w'.ownsRow base e size v n xs := by
  refine ⟨h.1, ?_⟩
  rcases h.2 with hn | ⟨g, cap, cur, rfl, hbb, hgg, rest⟩
  · exact .inl hn
  · exact .inr ⟨g, cap, cur, rfl, hbb, by rw [hb.block g (Array.getElem?_eq_some_iff.1 hgg).1]; exact hgg, rest⟩

theorem iInfo : ∃ i0 z, Tryz.prog.info? 3 = some i0 ∧ i0.zero = some z ∧ i0.size = 1 ∧ i0.bytes = 8 ∧ z.cells.size = 1 := by
  have h : (Tryz.prog.info? 3).map (fun i => (i.zero, i.size, i.bytes)) = some (some (.int .i64 0), 1, 8) := by kernel_rfl
  cases hi : Tryz.prog.info? 3 with
  | none => rw [hi] at h; cases h
  | some i0 =>
    rw [hi] at h
    simp only [Option.map_some, Option.some.injEq, Prod.mk.injEq] at h
    exact ⟨i0, _, rfl, h.1, h.2.1, h.2.2, rfl⟩

def ivs (l : List Int) : List Value := l.map (Value.int .i64)

theorem ivs_append (l m : List Int) : ivs (l ++ m) = ivs l ++ ivs m := by simp [ivs]

theorem ils_of_own {w : World} {base : Nat} {v : Value} {l : List Int} (h : w.ownsRow base 3 1 v l.length (ivs l)) : ∃ a c, v = .slice a l.length c ∧ Ils w a l.length l ∧ l.length ≤ c := by
  have h' := h
  rcases h.2 with ⟨rfl, h0⟩ | ⟨g, cap, cur, rfl, hg, hh, hnc, hcm, hcs, htk⟩
  · rw [h0]
    exact ⟨none, 0, rfl, ⟨h0, Nat.zero_le _, fun _ => rfl, fun x hx => by cases hx⟩, Nat.le_refl _⟩
  · refine ⟨_, cap, rfl, ⟨rfl, by omega, (fun h => by cases h), fun x hx j d hd => ?_⟩, by omega⟩
    cases hx
    have := h'.cells (g := g) rfl j (.int .i64 d) (by unfold ivs; rw [List.getElem?_map, hd]; rfl)
    simpa using this

end Go.Proofs.YtiffbbcgailmnaaGreatDoor
