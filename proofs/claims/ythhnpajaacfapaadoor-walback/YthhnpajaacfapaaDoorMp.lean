/- A disk that no call made: the contracts of what is asked of it. -/
import Derived.Test.YthhnpajaacfapaaDoorMe
namespace Go.Proofs.YthhnpajaacfapaaDoor
open Go.RowKit Go.Maps
set_option linter.unusedVariables false

/-- A pointer to no disk, or to one that is zero. -/
def Unmade (w : World) (v : Value) : Prop := v = .pointer none ∨ ∃ b, v = .pointer (some ⟨b, 0, none⟩) ∧ w.cell? ⟨b, 0, none⟩ = some (.map none) ∧ b < w.heap.size
theorem Unmade.below {w w' : World} {v : Value} (h : Unmade w v) (hb : Below w.heap.size w w') : Unmade w' v := by
  rcases h with h | ⟨b, h1, h2, h3⟩
  · exact .inl h
  · exact .inr ⟨b, h1, (hb.cell (p := ⟨b, 0, none⟩) h3).trans h2, Nat.lt_of_lt_of_le h3 hb.size⟩

set_option maxHeartbeats 1000000 in
theorem isMade_un (w : World) (v : Value) (h : Unmade w v) :
    Calls Tryd.prog 21 #[v] w fun e w' => e = .returned (.bool false) ∧ w' = w := by
  have hmn := fun (wx : World) (m : Option Nat) => run_neq_map_nil (P := Tryd.prog) wx 43 9 56 m Tryd.underlying43
  have hpn := fun (wx : World) (p : Option Addr) => run_neq_pointer_nil (P := Tryd.prog) wx 24 p (by kernel_rfl)
  rcases h with rfl | ⟨b, rfl, c0, _⟩
  · go_enter Tryd.func21, Tryd.ntmps21
    go_wp2
    go_ret
    exact ⟨rfl, rfl⟩
  · go_enter Tryd.func21, Tryd.ntmps21
    go_wp2
    go_ret
    exact ⟨rfl, rfl⟩

set_option maxHeartbeats 1000000 in
theorem read_un (w : World) (v : Value) (h : Unmade w v) (x y : Value) :
    Calls Tryd.prog 26 #[v, x, y] w fun e w' => e = .returned (.tuple #[.slice none 0 0, .int .i64 2]) ∧ Below w.heap.size w w' := by
  go_enter Tryd.func26, Tryd.ntmps26
  go_wp2_with fail
  refine (isMade_un _ v h).mono ?_
  rintro e w1 ⟨rfl, rfl⟩
  go_wp2
  exact bodyPost_ret (v := .tuple #[.slice none 0 0, .int .i64 2]) (by simp [results, Tryd.results26, go_sem]) rfl ⟨rfl, Below.refl _ _⟩

set_option maxHeartbeats 1000000 in
theorem pMade_un (w : World) (v : Value) (h : Unmade w v) :
    Calls Tryd.prog 58 #[v] w fun e w' => e = .returned (.bool false) ∧ Below w.heap.size w w' := by
  go_enter Tryd.func58, Tryd.ntmps58
  go_wp2_with fail
  refine (read_un _ v h _ _).mono ?_
  rintro e w1 ⟨rfl, b1⟩
  go_wp2
  go_ret
  exact ⟨rfl, b1⟩

set_option maxHeartbeats 1000000 in
theorem pGet_un (w : World) (v : Value) (h : Unmade w v) (y0 y1 : Value) :
    Calls Tryd.prog 43 #[v, y0, y1] w fun e w' => e = .returned (.tuple #[.slice none 0 0, .int .i64 0, .int .i64 2]) ∧ Below w.heap.size w w' := by
  go_enter Tryd.func43, Tryd.ntmps43
  go_wp2_with fail
  refine (pMade_un _ v h).mono ?_
  rintro e w1 ⟨rfl, b1⟩
  go_wp2
  exact bodyPost_ret (v := .tuple #[.slice none 0 0, .int .i64 0, .int .i64 2]) (by simp [results, Tryd.results43, go_sem]) rfl ⟨rfl, b1⟩

end Go.Proofs.YthhnpajaacfapaaDoor

namespace Go.Proofs.YthhnpajaacfapaaDoor
open Go.RowKit Go.Maps
set_option linter.unusedVariables false

theorem hidz {p : Prop} (h : p) : Hid p := h
theorem len_cons {n : Nat} (l : List Value) (h : l.length = n + 1) : ∃ a t, l = a :: t ∧ t.length = n := by
  cases l with
  | nil => simp at h
  | cons a t => exact ⟨a, t, rfl, by simpa using h⟩

def NB (w : World) (n : Nat) (T : TypeId) (ys : Array Value) : Prop := w.heap[n]? = some (.cells ys T (0, 0)) ∧ w.heap[n + 1]? = some (.cells #[.map none, .int .i64 0, .int .i64 0] 45 (0, 0)) ∧ w.heap[n + 1 + 1]? = some (.cells #[.pointer none, .pointer (some ⟨n + 1, 0, none⟩)] 24 (0, 0))
theorem NB.below {w w' : World} {n : Nat} {T : TypeId} {ys : Array Value} (h : NB w n T ys) (hb : Below w.heap.size w w') : NB w' n T ys := by
  obtain ⟨h1, h2, h3⟩ := h
  exact ⟨(hb.block _ (Array.getElem?_eq_some_iff.1 h1).1).trans h1, (hb.block _ (Array.getElem?_eq_some_iff.1 h2).1).trans h2, (hb.block _ (Array.getElem?_eq_some_iff.1 h3).1).trans h3⟩
theorem NB.field {w : World} {n : Nat} {T : TypeId} {ys : Array Value} (h : NB w n T ys) (j : Nat) {y : Value} (hj : ys[j]? = some y) : w.cell? ⟨n, j, none⟩ = some y := by
  rw [cell_of_row _ _ _ _ _ _ h.1]; exact hj
theorem NB.disk {w : World} {n : Nat} {T : TypeId} {ys : Array Value} (h : NB w n T ys) (k : Nat) (hk : k < 2) : ∃ v, w.cell? ⟨n + 1 + 1, k, none⟩ = some v ∧ Unmade w v := by
  have hc : w.cell? ⟨n + 1 + 1, k, none⟩ = (#[.pointer none, .pointer (some ⟨n + 1, 0, none⟩)] : Array Value)[k]? := cell_of_row _ _ _ _ _ _ h.2.2
  match k, hk with
  | 0, _ => exact ⟨_, hc, .inl rfl⟩
  | 1, _ => exact ⟨_, hc, .inr ⟨n + 1, rfl, by rw [cell_of_row _ _ _ _ _ _ h.2.1]; rfl, (Array.getElem?_eq_some_iff.1 h.2.1).1⟩⟩
theorem NB.new (w : World) (T : TypeId) (ys : Array Value) : NB (((w.alloc (.cells ys T)).alloc (.cells #[.map none, .int .i64 0, .int .i64 0] 45)).alloc (.cells #[.pointer none, .pointer (some ⟨w.heap.size + 1, 0, none⟩)] 24)) w.heap.size T ys := by
  have hs : ∀ (w : World) (o : Obj), (w.alloc o).heap = w.heap.push o := fun w o => rfl
  refine ⟨?_, ?_, ?_⟩
  · rw [hs, Array.getElem?_push, if_neg (by rw [hs, hs, Array.size_push, Array.size_push]; omega), hs, Array.getElem?_push, if_neg (by rw [hs, Array.size_push]; omega), hs, Array.getElem?_push, if_pos rfl]
  · rw [hs, Array.getElem?_push, if_neg (by rw [hs, hs, Array.size_push, Array.size_push]; omega), hs, Array.getElem?_push, if_pos (by rw [hs, Array.size_push])]
  · rw [hs, Array.getElem?_push, if_pos (by rw [hs, hs, Array.size_push, Array.size_push])]

end Go.Proofs.YthhnpajaacfapaaDoor
