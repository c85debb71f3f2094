/- The reader of patterns in memory: its signs, its states, which blocks are its own. -/
import Derived.Test.YtdgkjiiegmnjfaaChecked
import Derived.WalkKit
import Derived.WalkLawsBesides
import Derived.KernelRfl
import Derived.Laws.AppendOwn
import Derived.Lib.SmallJoins
import Derived.Test.YtdgkjiiegmnjfaaRxMath
namespace Go.Proofs.Ytdgkjiiegmnjfaa
open Go.RowKit Go.Joins
set_option linter.unusedVariables false

theorem xadd_none (b off j : Nat) : (⟨b, off, none⟩ : Addr).add j = ⟨b, off + j, none⟩ := by
  unfold Addr.add
  by_cases h : j = 0 <;> simp [h]
def SgOK (s : Sg) : Prop := 0 ≤ s.p ∧ s.p < 2147483648 ∧ s.p ≠ 65533
/-- A slice of signs. -/
def Ss (w : World) (a : Option Addr) (l : List Sg) : Prop :=
  l.length ≤ 1000 ∧ (∀ s ∈ l, SgOK s) ∧ (a = none → l = []) ∧
    ∀ x, a = some x → ∀ j s, l[j]? = some s → w.cell? (x.add (j * 2)) = some (.int .i32 s.p) ∧ w.cell? (x.add (j * 2 + 1)) = some (.bool s.esc)
theorem Ss.nil (w : World) (a : Option Addr) : Ss w a [] := ⟨by simp, by simp, fun _ => rfl, by simp⟩
theorem Ss.cons {w : World} {a : Option Addr} {s : Sg} {l : List Sg} (h : Ss w a (s :: l)) :
    ∃ b off, a = some ⟨b, off, none⟩ ∧ w.cell? ⟨b, off, none⟩ = some (.int .i32 s.p) ∧ w.cell? ⟨b, off + 1, none⟩ = some (.bool s.esc) ∧ SgOK s ∧ Ss w (some ⟨b, off + 2, none⟩) l := by
  obtain ⟨h1, h2, h3, h4⟩ := h
  cases a with
  | none => simpa using h3 rfl
  | some x =>
    obtain ⟨b, off, spot⟩ := x
    have h0 := (h4 _ rfl 0 s rfl).1
    have hspot : spot = none := by simpa [Addr.add] using World.cell?_spot h0
    subst hspot
    have h5 := h4 _ rfl 0 s rfl
    rw [xadd_none, xadd_none] at h5
    refine ⟨b, off, rfl, by simpa using h5.1, by simpa using h5.2, h2 s (by simp), by simp at h1; omega, fun t ht => h2 t (by simp [ht]), (fun h => by cases h), fun x hx j t ht => ?_⟩
    cases hx
    have := h4 _ rfl (j + 1) t (by simpa using ht)
    rw [xadd_none, xadd_none] at this ⊢
    rw [show off + 2 + j * 2 = off + (j + 1) * 2 from by omega, show off + 2 + (j * 2 + 1) = off + ((j + 1) * 2 + 1) from by omega]
    exact this
/-- A row's cells that are read over. -/
theorem own_at {w : World} {base e size n g c : Nat} {xs : List Value} (h : w.ownsRow base e size (.slice (some ⟨g, 0, none⟩) n c) n xs) (j : Nat) (v : Value) (hv : xs[j]? = some v) : w.cell? ⟨g, j, none⟩ = some v := by
  have := h.cells (g := g) rfl j v hv
  rw [xadd_none, Nat.zero_add] at this
  exact this
theorem own_unfrozen {w : World} {base e size n g c : Nat} {xs : List Value} (h : w.ownsRow base e size (.slice (some ⟨g, 0, none⟩) n c) n xs) (j : Nat) : w.frozen? ⟨g, j, none⟩ = false := by
  rcases h.2 with ⟨h1, _⟩ | ⟨g', c', cur, hv, _, hh, _⟩
  · cases h1
  · cases hv
    exact unfrozen_of_block hh _
theorem rx_own_shape {w : World} {base e size n g c : Nat} {xs : List Value} (h : w.ownsRow base e size (.slice (some ⟨g, 0, none⟩) n c) n xs) : w.shape? g = some (e, c * size) := by
  rcases h.2 with ⟨h1, _⟩ | ⟨g', c', cur, hv, _, hh, _, _, hs, _⟩
  · cases h1
  · cases hv
    simp [World.shape?, hh, hs]
theorem own_put {w : World} {base e size n g c : Nat} {xs : List Value} (h : w.ownsRow base e size (.slice (some ⟨g, 0, none⟩) n c) n xs) (j : Nat) (v : Value) : (w.setCell ⟨g, j, none⟩ v).ownsRow base e size (.slice (some ⟨g, 0, none⟩) n c) n (xs.set j v) := by
  obtain ⟨hl, h1⟩ := h
  refine ⟨by simpa using hl, ?_⟩
  rcases h1 with ⟨h1, _⟩ | ⟨g', c', cur, hv, hg, hh, hn, hc, hs, ht⟩
  · cases h1
  · cases hv
    refine .inr ⟨g, c, cur.setIfInBounds j v, rfl, hg, block_setCell hh v, hn, hc, by simpa using hs, ?_⟩
    rw [← ht, Array.toList_setIfInBounds]
    apply List.ext_getElem?
    intro i
    rw [List.getElem?_take, List.getElem?_set, List.getElem?_set, List.getElem?_take]
    simp only [List.length_take, Array.length_toList]
    by_cases h1 : i < n * size <;> by_cases h2 : j = i
    · subst h2
      have h3 : j < cur.size := by
        rw [hs]; exact Nat.lt_of_lt_of_le h1 (Nat.mul_le_mul_right _ hn)
      simp [h1, h3]
      omega
    · simp [h1, h2]
    · subst h2
      simp [h1]
      omega
    · simp [h1, h2]
theorem rx_own_setCell {w : World} {base e size n : Nat} {v : Value} {xs : List Value} (h : w.ownsRow base e size v n xs) {a : Addr} (ha : v.ownBlock ≠ some a.block) (u : Value) : (w.setCell a u).ownsRow base e size v n xs := by
  obtain ⟨hl, h1⟩ := h
  refine ⟨hl, ?_⟩
  rcases h1 with h1 | ⟨g, cap, cur, rfl, hg, hh, r⟩
  · exact .inl h1
  · refine .inr ⟨g, cap, cur, rfl, hg, ?_, r⟩
    rw [Below.heap_setCell _ _ _ _ (fun e => ha (by simp [Value.ownBlock, e]))]
    exact hh

/-- All blocks outside F are as they were. -/
structure Kp (F : Nat → Prop) (w w' : World) : Prop where
  os : w'.os = w.os
  tape : w'.tape = w.tape
  output : w'.output = w.output
  size : w.heap.size ≤ w'.heap.size
  block : ∀ k, k < w.heap.size → ¬ F k → w'.heap[k]? = w.heap[k]?
theorem Kp.refl (F : Nat → Prop) (w : World) : Kp F w w := ⟨rfl, rfl, rfl, Nat.le_refl _, fun _ _ _ => rfl⟩
theorem Kp.trans {F : Nat → Prop} {a b c : World} (h : Kp F a b) (k : Kp F b c) : Kp F a c :=
  ⟨k.os.trans h.os, k.tape.trans h.tape, k.output.trans h.output, Nat.le_trans h.size k.size, fun i hi hn => (k.block i (Nat.lt_of_lt_of_le hi h.size) hn).trans (h.block i hi hn)⟩
theorem Kp.of_below {F : Nat → Prop} {w w' : World} (h : Below w.heap.size w w') : Kp F w w' := ⟨h.os, h.tape, h.output, h.size, fun i hi _ => h.block i hi⟩
theorem Kp.of_grown {F : Nat → Prop} {w w' : World} {row : Option Nat} (h : w.grownBy w' row) (hr : ∀ k, row = some k → F k) : Kp F w w' := ⟨h.os, h.tape, h.output, h.size, fun i hi hn => h.block i hi (fun e => hn (hr i e.symm))⟩
theorem Kp.setCell {F : Nat → Prop} {a w : World} (h : Kp F a w) {p : Addr} (hp : F p.block) (u : Value) : Kp F a (w.setCell p u) :=
  h.trans ⟨rfl, rfl, rfl, by simp [World.setCell], fun k _ hk => Below.heap_setCell _ _ _ _ (fun e => hk (e ▸ hp))⟩
theorem Kp.alloc {F : Nat → Prop} {a w : World} (h : Kp F a w) (o : Obj) : Kp F a (w.alloc o) :=
  h.trans ⟨rfl, rfl, rfl, by simp, fun k hk _ => Below.heap_alloc _ _ _ hk⟩
theorem Kp.drew {F : Nat → Prop} {a w : World} (h : Kp F a w) : Kp F a w.drew := ⟨h.os, h.tape, h.output, h.size, h.block⟩
theorem Kp.below {F : Nat → Prop} {w w' : World} {n : Nat} (h : Kp F w w') (hn : n ≤ w.heap.size) (hF : ∀ k, F k → n ≤ k) : Below n w w' :=
  ⟨h.os, h.tape, h.output, h.size, fun i hi => h.block i (by omega) (fun hf => by have := hF i hf; omega)⟩
/-- Which block is whose (0: nobody's). What a call does: blocks of nobody stay, nobody's old block is taken. -/
def Gw (ρ ρ' : Nat → Nat) (w w' : World) : Prop := Kp (fun k => ρ k ≠ 0) w w' ∧ ∀ k, k < w.heap.size → ρ' k = ρ k
theorem Gw.refl (ρ : Nat → Nat) (w : World) : Gw ρ ρ w w := ⟨Kp.refl _ w, fun _ _ => rfl⟩
theorem Gw.of {ρ : Nat → Nat} {w w' : World} (h : Kp (fun k => ρ k ≠ 0) w w') : Gw ρ ρ w w' := ⟨h, fun _ _ => rfl⟩
theorem Gw.trans {ρ ρ1 ρ2 : Nat → Nat} {w w1 w2 : World} (h : Gw ρ ρ1 w w1) (k : Gw ρ1 ρ2 w1 w2) : Gw ρ ρ2 w w2 := by
  refine ⟨⟨k.1.os.trans h.1.os, k.1.tape.trans h.1.tape, k.1.output.trans h.1.output, Nat.le_trans h.1.size k.1.size, fun i hi hn => ?_⟩, fun i hi => ?_⟩
  · refine (k.1.block i (Nat.lt_of_lt_of_le hi h.1.size) ?_).trans (h.1.block i hi hn)
    rw [h.2 i hi]; exact hn
  · rw [k.2 i (Nat.lt_of_lt_of_le hi h.1.size), h.2 i hi]
theorem Gw.below {ρ ρ' : Nat → Nat} {w w' : World} {n : Nat} (h : Gw ρ ρ' w w') (hn : n ≤ w.heap.size) (hF : ∀ k, k < n → ρ k = 0) : Below n w w' :=
  h.1.below hn (fun k hk => by by_cases hkn : n ≤ k; exact hkn; exact absurd (hF k (by omega)) hk)

/-- A row of the state i's: its block is r's. -/
def Own (w : World) (ρ : Nat → Nat) (e size r : Nat) (v : Value) (n : Nat) (xs : List Value) : Prop := w.ownsRow 0 e size v n xs ∧ ∀ g, v.ownBlock = some g → ρ g = r
theorem Own.setCell {w : World} {ρ : Nat → Nat} {e size r n : Nat} {v : Value} {xs : List Value} (h : Own w ρ e size r v n xs) {a : Addr} (ha : ρ a.block ≠ r) (u : Value) : Own (w.setCell a u) ρ e size r v n xs :=
  ⟨rx_own_setCell h.1 (fun e => ha (h.2 _ e)) u, h.2⟩
theorem Own.kp {w w' : World} {ρ ρ' : Nat → Nat} {e size r n : Nat} {v : Value} {xs : List Value} (h : Own w ρ e size r v n xs) {F : Nat → Prop} (hk : Kp F w w') (hF : ∀ k, F k → ρ k ≠ r) (hρ : ∀ k, k < w.heap.size → ρ' k = ρ k) : Own w' ρ' e size r v n xs := by
  obtain ⟨⟨hl, h1⟩, h2⟩ := h
  rcases h1 with ⟨rfl, h1⟩ | ⟨g, cap, cur, rfl, hg, hh, q⟩
  · exact ⟨⟨hl, .inl ⟨rfl, h1⟩⟩, fun g hg => by simp [Value.ownBlock] at hg⟩
  · have hlt : g < w.heap.size := (Array.getElem?_eq_some_iff.1 hh).1
    have hr : ρ g = r := h2 g rfl
    refine ⟨⟨hl, .inr ⟨g, cap, cur, rfl, hg, ?_, q⟩⟩, fun g' hg' => ?_⟩
    · rw [hk.block g hlt (fun hf => hF g hf hr)]; exact hh
    · simp only [Value.ownBlock, Option.some.injEq] at hg'
      subst hg'
      rw [hρ g hlt, hr]
theorem Own.below {w w' : World} {ρ : Nat → Nat} {e size r n : Nat} {v : Value} {xs : List Value} (h : Own w ρ e size r v n xs) (hb : Below w.heap.size w w') : Own w' ρ e size r v n xs :=
  h.kp (Kp.of_below (F := fun _ => False) hb) (fun _ hf => hf.elim) (fun _ _ => rfl)

def vi (l : List Nat) : List Value := l.map fun (n : Nat) => Value.int .i64 (n : Int)
def vspans (l : List (Int × Int)) : List Value := (l.map fun p => [Value.int .i32 p.1, Value.int .i32 p.2]).flatten
def vst (V : Nat → Value × Value) : Nat → List St → List Value
  | _, [] => []
  | i, s :: t => [.bool s.takes, .bool s.others, (V i).1, (V i).2] ++ vst V (i + 1) t
theorem vst_length (V : Nat → Value × Value) (l : List St) : ∀ i, (vst V i l).length = l.length * 4 := by
  induction l with
  | nil => intro i; rfl
  | cons s t ih => intro i; simp [vst, ih]; omega
theorem vst_get (V : Nat → Value × Value) (l : List St) : ∀ (i j : Nat) (s : St), l[j]? = some s → (vst V i l)[j * 4]? = some (.bool s.takes) ∧ (vst V i l)[j * 4 + 1]? = some (.bool s.others) ∧ (vst V i l)[j * 4 + 2]? = some (V (i + j)).1 ∧ (vst V i l)[j * 4 + 3]? = some (V (i + j)).2 := by
  induction l with
  | nil => intro i j s h; simp at h
  | cons x t ih =>
    intro i j s h
    cases j with
    | zero =>
      simp at h
      subst h
      simp [vst]
    | succ j =>
      have := ih (i + 1) j s (by simpa using h)
      rw [show i + 1 + j = i + (j + 1) from by omega] at this
      simp only [vst, List.cons_append, List.nil_append]
      rw [show (j + 1) * 4 = j * 4 + 4 from by omega]
      exact this
theorem vst_snoc (V : Nat → Value × Value) (l : List St) (x : St) : ∀ i, vst V i (l ++ [x]) = vst V i l ++ [.bool x.takes, .bool x.others, (V (i + l.length)).1, (V (i + l.length)).2] := by
  induction l with
  | nil => intro i; simp [vst]
  | cons s t ih =>
    intro i
    simp only [List.cons_append, vst, ih, List.length_cons]
    rw [show i + (t.length + 1) = i + 1 + t.length from by omega]
    simp
theorem vst_congr (V V' : Nat → Value × Value) (l : List St) : ∀ i, (∀ k, i ≤ k → k < i + l.length → V k = V' k) → vst V i l = vst V' i l := by
  induction l with
  | nil => intro i _; rfl
  | cons s t ih =>
    intro i h
    simp only [vst]
    rw [h i (Nat.le_refl _) (by simp), ih (i + 1) (fun k h1 h2 => h k (by omega) (by simp; omega))]
def upV (V : Nat → Value × Value) (i : Nat) (x : Value × Value) : Nat → Value × Value := fun k => if k = i then x else V k
theorem vst_next (V : Nat → Value × Value) (v : Value) (l : List St) : ∀ (i j : Nat) (f : St → St), (∀ s, (f s).takes = s.takes ∧ (f s).others = s.others) → (vst V i l).set (j * 4 + 3) v = vst (upV V (i + j) ((V (i + j)).1, v)) i (l.modify j f) := by
  induction l with
  | nil => intro i j f _; simp [vst]
  | cons x t ih =>
    intro i j f hf
    cases j with
    | zero =>
      simp only [List.modify_zero_cons, vst, hf x]
      simp [upV]
      exact vst_congr _ _ t _ (fun k h1 _ => by simp [upV]; omega)
    | succ j =>
      simp only [List.modify_succ_cons, vst, List.cons_append, List.nil_append]
      rw [show (j + 1) * 4 + 3 = (j * 4 + 3) + 4 from by omega]
      simp only [List.set_cons_succ]
      rw [ih (i + 1) j f hf, show i + 1 + j = i + (j + 1) from by omega]
      simp only [upV]
      rw [if_neg (by omega)]
theorem vst_mark (V : Nat → Value × Value) (v : Value) (o : Bool) (l : List St) : ∀ (i j : Nat) (f : St → St), (∀ s, (f s).takes = true ∧ (f s).others = o) → (((vst V i l).set (j * 4) (.bool true)).set (j * 4 + 1) (.bool o)).set (j * 4 + 2) v = vst (upV V (i + j) (v, (V (i + j)).2)) i (l.modify j f) := by
  induction l with
  | nil => intro i j f _; simp [vst]
  | cons x t ih =>
    intro i j f hf
    cases j with
    | zero =>
      simp only [List.modify_zero_cons, vst, hf x]
      simp [upV]
      exact vst_congr _ _ t _ (fun k h1 _ => by simp [upV]; omega)
    | succ j =>
      simp only [List.modify_succ_cons, vst, List.cons_append, List.nil_append]
      rw [show (j + 1) * 4 + 2 = (j * 4 + 2) + 4 from by omega, show (j + 1) * 4 + 1 = (j * 4 + 1) + 4 from by omega, show (j + 1) * 4 = (j * 4) + 4 from by omega]
      simp only [List.set_cons_succ]
      rw [ih (i + 1) j f hf, show i + 1 + j = i + (j + 1) from by omega]
      simp only [upV]
      rw [if_neg (by omega)]

/-- The reader at block r. -/
structure RD (w : World) (r : Nat) (ρ : Nat → Nat) (R : Rd) (la : Option Addr) (lc : Nat) (sv : Value) (V : Nat → Value × Value) : Prop where
  blk : w.heap[r]? = some (.cells #[.slice la R.1.length lc, sv] 82 (0, 0))
  me : ρ r = 1
  cap : R.1.length ≤ lc
  capm : lc ≤ maxLen
  sig : Ss w la R.1
  sigo : ∀ x, la = some x → R.1 ≠ [] → ρ x.block = 0 ∧ ∃ cs, w.heap[x.block]? = some (.cells cs 90 (0, 0))
  sts : Own w ρ 99 4 2 sv R.2.length (vst V 0 R.2)
  nx : ∀ i s, R.2[i]? = some s → Own w ρ 3 1 (3 + 2 * i) (V i).2 s.next.length (vi s.next)
  sp : ∀ i s, R.2[i]? = some s → Own w ρ 101 2 (4 + 2 * i) (V i).1 s.spans.length (vspans s.spans)
  free : ∀ k, w.heap.size ≤ k → ρ k = 0
def RDx (w : World) (r : Nat) (ρ : Nat → Nat) (R : Rd) : Prop := ∃ la lc sv V, RD w r ρ R la lc sv V
theorem Ss.keep {w w' : World} {a : Option Addr} {l : List Sg} (h : Ss w a l) (hk : ∀ x, a = some x → l ≠ [] → x.block < w.heap.size → w'.heap[x.block]? = w.heap[x.block]?) : Ss w' a l := by
  obtain ⟨h1, h2, h3, h4⟩ := h
  refine ⟨h1, h2, h3, fun x hx j s hs => ?_⟩
  have := h4 x hx j s hs
  have hne : l ≠ [] := by rintro rfl; simp at hs
  have e : ∀ k, (x.add k).block = x.block := by intro k; unfold Addr.add; split <;> rfl
  have hlt : x.block < w.heap.size := by have := block_lt_of_cell this.1; rwa [e] at this
  have hb := hk x hx hne hlt
  exact ⟨(World.cell?_of_block (w := w) (by rw [e]; exact hb)).trans this.1, (World.cell?_of_block (w := w) (by rw [e]; exact hb)).trans this.2⟩
theorem Ss.lt {w : World} {x : Addr} {l : List Sg} (h : Ss w (some x) l) (hl : l ≠ []) : x.block < w.heap.size := by
  cases l with
  | nil => exact absurd rfl hl
  | cons s t =>
    have := block_lt_of_cell (h.2.2.2 x rfl 0 s rfl).1
    unfold Addr.add at this
    split at this <;> exact this
/-- A world in which nothing of the reader's has changed. -/
theorem RD.below {w w' : World} {r : Nat} {ρ : Nat → Nat} {R : Rd} {la : Option Addr} {lc : Nat} {sv : Value} {V : Nat → Value × Value} (h : RD w r ρ R la lc sv V) (hb : Below w.heap.size w w') : RD w' r ρ R la lc sv V :=
  ⟨(hb.block r (Array.getElem?_eq_some_iff.1 h.blk).1).trans h.blk, h.me, h.cap, h.capm, h.sig.keep (fun x _ _ hx => hb.block _ hx), fun x hx hne => ⟨(h.sigo x hx hne).1, by obtain ⟨cs, hcs⟩ := (h.sigo x hx hne).2; exact ⟨cs, (hb.block _ (Array.getElem?_eq_some_iff.1 hcs).1).trans hcs⟩⟩, h.sts.below hb, fun i s hs => (h.nx i s hs).below hb, fun i s hs => (h.sp i s hs).below hb, fun k hk => h.free k (Nat.le_trans hb.size hk)⟩
theorem RDx.below {w w' : World} {r : Nat} {ρ : Nat → Nat} {R : Rd} (h : RDx w r ρ R) (hb : Below w.heap.size w w') : RDx w' r ρ R := by
  obtain ⟨la, lc, sv, V, h⟩ := h
  exact ⟨la, lc, sv, V, h.below hb⟩
theorem below_al {w w' : World} {o : Obj} (h : Below (w.alloc o).heap.size (w.alloc o) w') : Below w.heap.size w w' :=
  ((Below.refl w.heap.size w).alloc (Nat.le_refl _) o).trans (h.mono (by simp))
theorem RD.rlt {w : World} {r : Nat} {ρ : Nat → Nat} {R : Rd} {la : Option Addr} {lc : Nat} {sv : Value} {V : Nat → Value × Value} (h : RD w r ρ R la lc sv V) : r < w.heap.size := (Array.getElem?_eq_some_iff.1 h.blk).1
/-- The first sign is gone over. -/
theorem RD.tail {w : World} {r : Nat} {ρ : Nat → Nat} {s : Sg} {t : List Sg} {L : List St} {b off : Nat} {lc : Nat} {sv : Value} {V : Nat → Value × Value} (h : RD w r ρ (s :: t, L) (some ⟨b, off, none⟩) lc sv V) (la : Option Addr) (hla : t ≠ [] → la = some ⟨b, off + 2, none⟩) :
    RD (w.setCell ⟨r, 0, none⟩ (.slice la t.length (lc - 1))) r ρ (t, L) la (lc - 1) sv V ∧ Gw ρ ρ w (w.setCell ⟨r, 0, none⟩ (.slice la t.length (lc - 1))) := by
  have hcap := h.cap
  have hcm := h.capm
  have hme := h.me
  simp only [List.length_cons] at hcap
  have h0 : ρ b = 0 := (h.sigo _ rfl (by simp)).1
  obtain ⟨cs0, hcs0⟩ := (h.sigo _ rfl (by simp)).2
  have hbr : b ≠ r := by rintro rfl; rw [h0] at hme; cases hme
  obtain ⟨b', off', e, _, _, _, hs⟩ := h.sig.cons
  cases e
  refine ⟨⟨?_, h.me, by simp only; omega, by omega, ?_, ?_, h.sts.setCell (by simp only; omega) _, fun i s hs => (h.nx i s hs).setCell (by simp only; omega) _, fun i s hs => (h.sp i s hs).setCell (by simp only; omega) _, fun k hk => h.free k (by simpa [World.setCell] using hk)⟩, Gw.of ((Kp.refl _ w).setCell (by simp only; omega) _)⟩
  · have := block_setCell (i := 0) h.blk (.slice la t.length (lc - 1))
    simpa using this
  · by_cases ht : t = []
    · simp only [ht]; exact Ss.nil _ _
    · rw [hla ht]
      refine hs.keep (fun x hx _ _ => ?_)
      cases hx
      exact Below.heap_setCell _ _ _ _ hbr
  · intro x hx hne
    rw [hla hne] at hx
    cases hx
    exact ⟨h0, cs0, by rw [Below.heap_setCell _ _ _ _ hbr]; exact hcs0⟩
end Go.Proofs.Ytdgkjiiegmnjfaa
