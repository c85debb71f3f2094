/- StripeNobody: the law's walk. -/
import Derived.Test.YtidlogeeophogaaDoorNobody
namespace Go.Proofs.YtidlogeeophogaaDoor
open Go.RowKit Go.Maps
set_option linter.unusedVariables false

theorem hidz {p : Prop} (h : p) : Hid p := h
theorem len_cons {n : Nat} (l : List Value) (h : l.length = n + 1) : ∃ a t, l = a :: t ∧ t.length = n := by
  cases l with
  | nil => simp at h
  | cons a t => exact ⟨a, t, rfl, by simpa using h⟩

def NB (w : World) (n : Nat) (T : TypeId) (ys : Array Value) : Prop := w.heap[n]? = some (.cells ys T (0, 0)) ∧ w.heap[n + 1]? = some (.cells #[.map none, .int .i64 0, .int .i64 0] 38 (0, 0)) ∧ w.heap[n + 1 + 1]? = some (.cells #[.pointer none, .pointer (some ⟨n + 1, 0, none⟩)] 35 (0, 0))
theorem NB.below {w w' : World} {n : Nat} {T : TypeId} {ys : Array Value} (h : NB w n T ys) (hb : Below w.heap.size w w') : NB w' n T ys := by
  obtain ⟨h1, h2, h3⟩ := h
  exact ⟨(hb.block _ (Array.getElem?_eq_some_iff.1 h1).1).trans h1, (hb.block _ (Array.getElem?_eq_some_iff.1 h2).1).trans h2, (hb.block _ (Array.getElem?_eq_some_iff.1 h3).1).trans h3⟩
theorem NB.field {w : World} {n : Nat} {T : TypeId} {ys : Array Value} (h : NB w n T ys) (j : Nat) {y : Value} (hj : ys[j]? = some y) : w.cell? ⟨n, j, none⟩ = some y := by
  rw [cell_of_row _ _ _ _ _ _ h.1]; exact hj
theorem NB.disk {w : World} {n : Nat} {T : TypeId} {ys : Array Value} (h : NB w n T ys) (k : Nat) (hk : k < 2) : ∃ v, w.cell? ⟨n + 1 + 1, k, none⟩ = some v ∧ Unmade w v := by
  have hc : w.cell? ⟨n + 1 + 1, k, none⟩ = (#[.pointer none, .pointer (some ⟨n + 1, 0, none⟩)] : Array Value)[k]? := cell_of_row _ _ _ _ _ _ h.2.2
  match k, hk with
  | 0, _ => exact ⟨_, hc, .inl rfl⟩
  | 1, _ => exact ⟨_, hc, .inr ⟨n + 1, rfl, by rw [cell_of_row _ _ _ _ _ _ h.2.1]; rfl, (Array.getElem?_eq_some_iff.1 h.2.1).1⟩⟩
theorem NB.new (w : World) (T : TypeId) (ys : Array Value) : NB (((w.alloc (.cells ys T)).alloc (.cells #[.map none, .int .i64 0, .int .i64 0] 38)).alloc (.cells #[.pointer none, .pointer (some ⟨w.heap.size + 1, 0, none⟩)] 35)) w.heap.size T ys := by
  have hs : ∀ (w : World) (o : Obj), (w.alloc o).heap = w.heap.push o := fun w o => rfl
  refine ⟨?_, ?_, ?_⟩
  · rw [hs, Array.getElem?_push, if_neg (by rw [hs, hs, Array.size_push, Array.size_push]; omega), hs, Array.getElem?_push, if_neg (by rw [hs, Array.size_push]; omega), hs, Array.getElem?_push, if_pos rfl]
  · rw [hs, Array.getElem?_push, if_neg (by rw [hs, hs, Array.size_push, Array.size_push]; omega), hs, Array.getElem?_push, if_pos (by rw [hs, Array.size_push])]
  · rw [hs, Array.getElem?_push, if_pos (by rw [hs, hs, Array.size_push, Array.size_push])]

end Go.Proofs.YtidlogeeophogaaDoor
