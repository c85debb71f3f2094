/- slices.Grow of nothing, slices.Concat of footers. -/
import Derived.Test.YtpbicnpaldfamaaPlK
import Derived.Lib.AppendZerosOnto
namespace Go.Proofs.Ytpbicnpaldfamaa
open Go.RowKit Go.Joins
set_option linter.unusedVariables false

theorem fls_cells {w : World} {x : Addr} {n : Nat} {l : List Fo} (h : Fls w (some x) n l) : ∀ (j : Nat) (u : Value), (fvs l)[j]? = some u → w.cell? (x.add j) = some u := by
  intro j u hu
  have hj : j < l.length * 8 := by rw [← fvs_length]; exact (List.getElem?_eq_some_iff.1 hu).1
  have hd : l[j / 8]? = some (l[j / 8]'(by omega)) := List.getElem?_eq_getElem (by omega)
  generalize l[j / 8]'(by omega) = d at hd
  have hl : d.cells.length = 8 := rfl
  have hc : d.cells[j % 8]? = some (d.cells[j % 8]'(by omega)) := List.getElem?_eq_getElem (by omega)
  generalize d.cells[j % 8]'(by omega) = u' at hc
  have h1 := fvs_get l (j / 8) d hd (j % 8) u' hc
  have h2 := h.2.2.2.2 x rfl (j / 8) d hd (j % 8) u' hc
  have e : j / 8 * 8 + j % 8 = j := by omega
  rw [e] at h1 h2
  rw [hu] at h1
  cases h1
  exact h2

theorem fvs_one (l : List Fo) : ∀ u ∈ fvs l, u.oneCell' = true := by
  intro u hu
  unfold fvs at hu
  obtain ⟨cs, hcs, hu⟩ := List.mem_flatten.1 hu
  obtain ⟨d, _, rfl⟩ := List.mem_map.1 hcs
  simp only [Fo.cells, List.mem_cons, List.not_mem_nil, or_false] at hu
  rcases hu with rfl | rfl | rfl | rfl | rfl | rfl | rfl | rfl <;> rfl

theorem wpList_app_runM {P : Program} {w w' : World} {ops : Array Oper} {rest : List Oper} {o : Oper} {a : Act} {Q : Exit → Act → World → Prop} (hgd : o.guard = none) (s x : Operand) (t tn ty : TypeId)
    (ho : o.op = .call { callee := .builtin .append, args := #[s, x], argTypes := #[t, tn] }) (hty : o.type = ty) (v vx v' : Value) (hs : a.eval s = v) (hx : a.eval x = vx) (hr : (Builtin.append_ #[t, tn] ty #[v, vx]).run P w = .ok v' w')
    (h : wpList P ops Q rest (a.put o.dst v') w') : wpList P ops Q (o :: rest) a w :=
  wpList_plain hgd fun _ hK => by
    subst hty
    unfold Oper.wp execOp
    simp only [ho, resolve, invoke, builtin, Sem.run_bind, Sem.run_pure, Result.andThen_ok, List.map_toArray, List.map_cons, List.map_nil, hs, hx, hr]
    exact hK _ _ h

/-- A list of footers that is handed on. -/
structure Sg where
  b : Nat
  off : Nat
  n : Nat
  c : Nat
  l : List Fo

def catL (ss : List Sg) : List Fo := (ss.map Sg.l).flatten

theorem catL_snoc (ss : List Sg) (s : Sg) : catL (ss ++ [s]) = catL ss ++ s.l := by simp [catL]

def Cs (w : World) (sb : Nat) (ss : List Sg) : Prop := ∀ k s, ss[k]? = some s → w.cell? ⟨sb, k, none⟩ = some (.slice (some ⟨s.b, s.off, none⟩) s.n s.c) ∧ Fls w (some ⟨s.b, s.off, none⟩) s.n s.l

theorem Cs.below {w w' : World} {sb : Nat} {ss : List Sg} (h : Cs w sb ss) (hb : Below w.heap.size w w') : Cs w' sb ss := fun k s hs => by
  obtain ⟨h1, h2⟩ := h k s hs
  exact ⟨(hb.cell (block_lt_of_cell h1)).trans h1, h2.below hb⟩

theorem catL_take_le (ss : List Sg) (k : Nat) : (catL (ss.take k)).length ≤ (catL ss).length := by
  have : catL ss = catL (ss.take k) ++ catL (ss.drop k) := by
    unfold catL
    rw [← List.flatten_append, ← List.map_append, List.take_append_drop]
  rw [this, List.length_append]
  omega

end Go.Proofs.Ytpbicnpaldfamaa
