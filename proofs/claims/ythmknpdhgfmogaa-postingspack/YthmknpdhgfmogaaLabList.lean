/- Slices of labels in memory: what they hold. -/
import Derived.Test.YthmknpdhgfmogaaChecked
import Derived.WalkKit
import Derived.WalkLawsBesides
import Derived.KernelRfl
import Derived.Test.YthmknpdhgfmogaaLabMath
namespace Go.Proofs.Ythmknpdhgfmogaa
open Go.RowKit
set_option linter.unusedVariables false

/-- A slice's value (its address and length) holds the labels ls. -/
def Ls (w : World) (a : Option Addr) (len : Nat) (ls : List Lab) : Prop :=
  ls.length = len ∧ len ≤ maxLen ∧ (∀ i, (labD ls i).1.size ≤ maxLen ∧ (labD ls i).2.size ≤ maxLen) ∧ (a = none → len = 0) ∧
    ∀ x, a = some x → ∀ j, j < len → w.cell? (x.add (j * 2)) = some (.string (labD ls j).1) ∧ w.cell? (x.add (j * 2 + 1)) = some (.string (labD ls j).2)

theorem ladd_none (b off j : Nat) : (⟨b, off, none⟩ : Addr).add j = ⟨b, off + j, none⟩ := by
  unfold Addr.add
  by_cases h : j = 0 <;> simp [h]
theorem Ls.nil (w : World) : Ls w none 0 [] := ⟨rfl, Nat.zero_le _, by intro i; simp [labD, maxLen], fun _ => rfl, by simp⟩
theorem Ls.pos {w : World} {a : Option Addr} {len : Nat} {ls : List Lab} (h : Ls w a len ls) (h0 : 0 < len) :
    ∃ b off, a = some ⟨b, off, none⟩ ∧ b < w.heap.size ∧ ∀ j, j < len → w.cell? ⟨b, off + j * 2, none⟩ = some (.string (labD ls j).1) ∧ w.cell? ⟨b, off + j * 2 + 1, none⟩ = some (.string (labD ls j).2) := by
  obtain ⟨hl, hm, hz, hn, hc⟩ := h
  cases a with
  | none => have := hn rfl; omega
  | some x =>
    obtain ⟨b, off, spot⟩ := x
    have hc0 := (hc _ rfl 0 h0).1
    have hspot : spot = none := by simpa [Addr.add] using World.cell?_spot hc0
    subst hspot
    have hb := block_lt_of_cell hc0
    refine ⟨b, off, rfl, by simpa [Addr.add] using hb, fun j hj => ?_⟩
    have := hc _ rfl j hj
    rw [ladd_none, ladd_none] at this
    exact this
theorem Ls.below {w w' : World} {a : Option Addr} {len : Nat} {ls : List Lab} (h : Ls w a len ls) (hb : Below w.heap.size w w') : Ls w' a len ls := by
  obtain ⟨hl, hm, hz, hn, hc⟩ := h
  refine ⟨hl, hm, hz, hn, fun x hx j hj => ?_⟩
  have h1 := (hc x hx j hj).1
  have h2 := (hc x hx j hj).2
  rw [hb.cell (block_lt_of_cell h1), hb.cell (block_lt_of_cell h2)]; exact ⟨h1, h2⟩

theorem bInfo : (Try.prog.info? 5).map (fun i => (i.zero, i.size, i.bytes)) = some (some (.int .u8 0), 1, 1) := by kernel_rfl

theorem alloc_at (w : World) (o : Obj) : (w.alloc o).heap[w.heap.size]? = some o := by
  show (w.heap.push o)[w.heap.size]? = _
  simp
theorem alloc_size (w : World) (o : Obj) : (w.alloc o).heap.size = w.heap.size + 1 := by simp
theorem cell_at {w : World} {k o : Nat} {t : TypeId} {cs : Array Value} {fz : Nat × Nat} (h : w.heap[k]? = some (.cells cs t fz)) : w.cell? ⟨k, o, none⟩ = cs[o]? := cell_of_row _ _ _ _ _ _ h
end Go.Proofs.Ythmknpdhgfmogaa
