/- Cells of one extent of a file that are read, and written. -/
import Derived.Test.YtidlogeeophogaaDoorDiskOps
import Derived.Laws.CopyOwn
import Derived.Maps.AppendAt
namespace Go.Proofs.YtidlogeeophogaaDoor
open Go.RowKit Go.Maps
set_option linter.unusedVariables false

/-- The disk, all that it leans on named: the map's block and what it reads as, each file's block and room. -/
def DiskIs (w : World) (d : Nat) (F : Nat → Prop) (N : Nat) (M : List UInt8 → List Ext) (free fuse : Int) (bm : Nat) (D : DataW Unit) (G C : List UInt8 → Nat) : Prop :=
    w.heap[d]? = some (.cells #[.map (some bm), .int .i64 free, .int .i64 fuse] 38 (0, 0)) ∧ (F d ∧ bm < d) ∧ (F bm ∧ ∀ s, M s ≠ [] → F (G s)) ∧
    w.ownsMap Tryd.prog 9 hd bm N D ∧
    (∀ s, M s = [] → Maps.has D (.string s) = false) ∧
    (∀ s, M s ≠ [] → (∀ z, D.atKey (.string s) z = encS (G s) (M s).length (C s)) ∧
      w.ownsRow 0 124 385 (.slice (some ⟨G s, 0, none⟩) (M s).length (C s)) (M s).length (cellsE (M s)) ∧ ∀ x ∈ M s, x.ok) ∧
    (∀ s s', M s ≠ [] → M s' ≠ [] → s ≠ s' → G s ≠ G s')
theorem DiskOf.is {w : World} {d N : Nat} {F : Nat → Prop} {M : List UInt8 → List Ext} {free fuse : Int} (h : DiskOf w d F N M free fuse) : ∃ bm D G C, DiskIs w d F N M free fuse bm D G C := h
theorem DiskIs.of {w : World} {d N : Nat} {F : Nat → Prop} {M : List UInt8 → List Ext} {free fuse : Int} {bm : Nat} {D : DataW Unit} {G C : List UInt8 → Nat} (h : DiskIs w d F N M free fuse bm D G C) : DiskOf w d F N M free fuse := ⟨bm, D, G, C, h⟩
/-- A file's extents are others now. -/
def upd (M : List UInt8 → List Ext) (s : List UInt8) (l : List Ext) : List UInt8 → List Ext := fun t => if t = s then l else M t
theorem upd_same (M : List UInt8 → List Ext) (s : List UInt8) (l : List Ext) : upd M s l s = l := by simp [upd]
theorem upd_other (M : List UInt8 → List Ext) (s t : List UInt8) (l : List Ext) (h : t ≠ s) : upd M s l t = M t := by simp [upd, h]

theorem splice_mid {α : Type} (A X Z c : List α) (o : Nat) (h : o + c.length ≤ X.length) : splice (A ++ (X ++ Z)) (A.length + o) c = A ++ (splice X o c ++ Z) := by
  unfold splice
  rw [List.take_append, List.take_of_length_le (by omega), show A.length + o - A.length = o by omega, List.take_append_of_le_length (by omega)]
  rw [List.drop_append, List.drop_of_length_le (by omega), List.nil_append, show A.length + o + c.length - A.length = o + c.length by omega, List.drop_append_of_le_length (by omega)]
  simp
theorem splice_head {α : Type} (X Z c : List α) (h : c.length = X.length) : splice (X ++ Z) 0 c = c ++ Z := by
  unfold splice
  rw [List.take_zero, List.nil_append, Nat.zero_add, h, List.drop_append_of_le_length (Nat.le_refl _), List.drop_of_length_le (Nat.le_refl _), List.nil_append]
theorem splice_next {α : Type} (A X Z c : List α) (o : Nat) (ho : A.length = o) (h : c.length = X.length) : splice (A ++ (X ++ Z)) o c = A ++ (c ++ Z) := by
  have := splice_mid A X Z c 0 (by omega)
  rw [Nat.add_zero, ho] at this
  rw [this]
  congr 1
  have e := splice_head X [] c h
  rw [List.append_nil, List.append_nil] at e
  rw [e]

theorem cellsE_set (l : List Ext) (i : Nat) (hi : i < l.length) (y : Ext) : cellsE (l.set i y) = cellsE (l.take i) ++ (y.cells ++ cellsE (l.drop (i + 1))) := by
  rw [List.set_eq_take_append_cons_drop, if_pos hi]
  simp [cellsE]
theorem cellsE_split (l : List Ext) (i : Nat) (hi : i < l.length) : cellsE l = cellsE (l.take i) ++ (l[i].cells ++ cellsE (l.drop (i + 1))) := by
  have := cellsE_set l i hi l[i]
  rwa [List.set_getElem_self] at this
theorem cellsE_splice (l : List Ext) (hok : ∀ x ∈ l, x.ok) (i : Nat) (hi : i < l.length) (o : Nat) (c : List Value) (y : Ext) (ho : o + c.length ≤ 385) (hy : splice l[i].cells o c = y.cells) :
    splice (cellsE l) (i * 385 + o) c = cellsE (l.set i y) := by
  have hl : (cellsE (l.take i)).length = i * 385 := by
    rw [cellsE_length (fun x hx => hok x (List.mem_of_mem_take hx)), List.length_take, Nat.min_eq_left (by omega)]
  rw [cellsE_split l i hi, cellsE_set l i hi y, ← hl, splice_mid _ _ _ _ _ (by rw [Ext.cells_length (hok _ (List.getElem_mem hi))]; exact ho), hy]
theorem cells_dur {x : Ext} (h : x.ok) (c : List Nat) (hc : c.length = 128) : splice x.cells 0 (vb c) = ({ x with dur := c } : Ext).cells :=
  splice_head _ _ _ (by rw [length_vb, length_vb, hc, h.1.1])
theorem cells_syn {x : Ext} (h : x.ok) (c : List Nat) (hc : c.length = 128) : splice x.cells 128 (vb c) = ({ x with syn := c } : Ext).cells :=
  splice_next _ _ _ _ _ (by rw [length_vb, h.1.1]) (by rw [length_vb, length_vb, hc, h.2.1.1])
theorem cells_wri {x : Ext} (h : x.ok) (c : List Nat) (hc : c.length = 128) : splice x.cells 256 (vb c) = ({ x with wri := c } : Ext).cells := by
  have := splice_next (vb x.dur ++ vb x.syn) (vb x.wri) [.bool x.waits] (vb c) 256 (by rw [List.length_append, length_vb, length_vb, h.1.1, h.2.1.1]) (by rw [length_vb, length_vb, hc, h.2.2.1])
  simpa [Ext.cells] using this
theorem cells_waits {x : Ext} (h : x.ok) (b : Bool) : splice x.cells 384 [.bool b] = ({ x with waits := b } : Ext).cells := by
  have := splice_next (vb x.dur ++ (vb x.syn ++ vb x.wri)) [.bool x.waits] [] [.bool b] 384 (by rw [List.length_append, List.length_append, length_vb, length_vb, length_vb, h.1.1, h.2.1.1, h.2.2.1]) rfl
  simpa [Ext.cells] using this

/-- Cells laid over a row of one's own. -/
theorem own_storedAll {w : World} {base e size n g cap : Nat} : ∀ (vs : List Value) (o : Nat) (xs : List Value) (w : World), w.ownsRow base e size (.slice (some ⟨g, 0, none⟩) n cap) n xs → o + vs.length ≤ xs.length →
    (w.setCells g o vs).ownsRow base e size (.slice (some ⟨g, 0, none⟩) n cap) n (splice xs o vs) ∧ w.grownBy (w.setCells g o vs) (some g)
  | [], o, xs, w, h, hl => by
    refine ⟨?_, ⟨rfl, rfl, rfl, Nat.le_refl _, fun _ _ _ => rfl⟩⟩
    simpa [World.setCells, splice] using h
  | v :: r, o, xs, w, h, hl => by
    obtain ⟨h1, hg1⟩ := h.stored o v
    obtain ⟨h2, hg2⟩ := own_storedAll (w := w) r (o + 1) (xs.set o v) _ h1 (by simp at hl ⊢; omega)
    have e : splice (xs.set o v) (o + 1) r = splice xs o (v :: r) := by
      have := list_seg_step xs o v r (by simpa using hl)
      simp only [splice, List.length_cons]
      rw [← List.append_assoc, ← List.append_assoc, show o + 1 + r.length = o + 1 + r.length from rfl]
      rw [this]
    rw [e] at h2
    exact ⟨h2, hg1.trans hg2⟩
theorem own_range {w : World} {base g n c : Nat} {l : List Ext} (h : w.ownsRow base 124 385 (.slice (some ⟨g, 0, none⟩) n c) n (cellsE l)) (hok : ∀ x ∈ l, x.ok) (i : Nat) (hi : i < l.length) (o : Nat) (cs : List Value) (ho : o + cs.length ≤ 385)
    (hc : ∀ j v, cs[j]? = some v → l[i].cells[o + j]? = some v) : w.rangeAt g (i * 385 + o) cs := by
  have hn : n = l.length := by have := h.1; rw [cellsE_length hok] at this; omega
  intro j v hj
  have hlt := (List.getElem?_eq_some_iff.1 hj).1
  have hl : (cellsE (l.take i)).length = i * 385 := by
    rw [cellsE_length (fun x hx => hok x (List.mem_of_mem_take hx)), List.length_take, Nat.min_eq_left (by omega)]
  rw [h.cellAt (i * 385 + o + j) (by have : (i + 1) * 385 ≤ n * 385 := Nat.mul_le_mul_right _ (by omega); omega), cellsE_split l i hi, List.getElem?_append_right (by omega), hl, show i * 385 + o + j - i * 385 = o + j by omega, List.getElem?_append_left (by rw [Ext.cells_length (hok _ (List.getElem_mem hi))]; omega)]
  exact hc j v hj
theorem own_there {w : World} {base g n c : Nat} {l : List Ext} (h : w.ownsRow base 124 385 (.slice (some ⟨g, 0, none⟩) n c) n (cellsE l)) (hok : ∀ x ∈ l, x.ok) (i : Nat) (hi : i < l.length) (o m : Nat) (ho : o + m ≤ 385) : w.there g (i * 385 + o) m := by
  have hn : n = l.length := by have := h.1; rw [cellsE_length hok] at this; omega
  intro j hj
  refine ⟨?_, by rw [Nat.add_assoc]; exact h.frozenAt _⟩
  have hlt : i * 385 + o + j < n * 385 := by have : (i + 1) * 385 ≤ n * 385 := Nat.mul_le_mul_right _ (by omega); omega
  rw [h.cellAt _ hlt, List.getElem?_eq_getElem (by rw [h.1]; exact hlt)]
  rfl

/-- One file's row is turned, all else stays: the disk with that file's extents so. -/
theorem DiskIs.turned {w w' : World} {d N : Nat} {F : Nat → Prop} {M : List UInt8 → List Ext} {free fuse : Int} {bm : Nat} {D : DataW Unit} {G C : List UInt8 → Nat} (h : DiskIs w d F N M free fuse bm D G C) (s : List UInt8) (hs : M s ≠ []) (l : List Ext) (hl : l.length = (M s).length) (hok : ∀ x ∈ l, x.ok)
    (hg : w.grownBy w' (some (G s))) (hrow : w'.ownsRow 0 124 385 (.slice (some ⟨G s, 0, none⟩) (M s).length (C s)) (M s).length (cellsE l)) : DiskIs w' d F N (upd M s l) free fuse bm D G C := by
  obtain ⟨h1, h2, h3, h4, h5, h6, h7⟩ := h
  have hne : ∀ t, upd M s l t ≠ [] → M t ≠ [] := by
    intro t ht
    by_cases e : t = s
    · subst e; exact hs
    · rwa [upd_other _ _ _ _ e] at ht
  obtain ⟨a1, a2, a3⟩ := h6 s hs
  refine ⟨(hg.block d (Array.getElem?_eq_some_iff.1 h1).1 (fun e => row_ne a2 h1 (Option.some.inj e).symm)).trans h1, h2, ⟨h3.1, fun t ht => h3.2 t (hne t ht)⟩, h4.kept hg (fun e => ?_), fun t ht => ?_, fun t ht => ?_, fun t t' ht ht' => h7 t t' (hne t ht) (hne t' ht')⟩
  · have e' := Option.some.inj e
    obtain ⟨es, clock, hb, _⟩ := h4
    rcases a2.2 with ⟨hv, _⟩ | ⟨g', c', cur, hv, _, hh, _⟩
    · cases hv
    · cases hv
      rw [← e', hb] at hh
      cases hh
  · by_cases e : t = s
    · subst e
      rw [upd_same] at ht
      subst ht
      exact absurd (List.length_eq_zero_iff.1 (by rw [← hl]; rfl)) hs
    · rw [upd_other _ _ _ _ e] at ht
      exact h5 t ht
  · by_cases e : t = s
    · subst e
      rw [upd_same, hl]
      exact ⟨a1, hrow, hok⟩
    · rw [upd_other _ _ _ _ e] at ht ⊢
      obtain ⟨b1, b2, b3⟩ := h6 t ht
      exact ⟨b1, b2.kept hg (.inr (fun h => h7 t s ht hs e (Option.some.inj h))), b3⟩
end Go.Proofs.YtidlogeeophogaaDoor
