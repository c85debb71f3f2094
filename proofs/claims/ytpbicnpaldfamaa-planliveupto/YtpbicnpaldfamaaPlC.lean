/- plan.numbers. -/
import Derived.Test.YtpbicnpaldfamaaPlB
import Derived.Deep.OwnRows
namespace Go.Proofs.Ytpbicnpaldfamaa
open Go.RowKit Go.Joins
set_option linter.unusedVariables false

theorem blk_setCell {w : World} {k o : Nat} {t : TypeId} {cs : Array Value} {fz : Nat × Nat} (h : w.heap[k]? = some (.cells cs t fz)) (v : Value) : (w.setCell ⟨k, o, none⟩ v).heap[k]? = some (.cells (cs.setIfInBounds o v) t fz) := block_setCell h v

theorem unfro {w : World} {k o : Nat} {t : TypeId} {cs : Array Value} (h : w.heap[k]? = some (.cells cs t (0, 0))) : w.frozen? ⟨k, o, none⟩ = false := by simp [World.frozen?, h]

/-- A row that is full, out of its block. -/
theorem own_of_blk {w : World} {base g e n : Nat} {cur : Array Value} {xs : List Value} (h : w.heap[g]? = some (.cells cur e (0, 0))) (hb : base ≤ g) (hs : cur.toList = xs) (hn : xs.length = n) (hm : n ≤ maxLen) : w.ownsRow base e 1 (.slice (some ⟨g, 0, none⟩) n n) n xs := by
  have hc : cur.size = n := by rw [← hn, ← hs]; simp
  refine ⟨by omega, .inr ⟨g, n, cur, rfl, hb, h, Nat.le_refl _, hm, by omega, ?_⟩⟩
  rw [← hs, List.take_of_length_le (by simp; omega)]

end Go.Proofs.Ytpbicnpaldfamaa
