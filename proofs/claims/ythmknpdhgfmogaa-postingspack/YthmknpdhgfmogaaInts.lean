/- Lists of numbers that came in. -/
import Derived.Test.YthmknpdhgfmogaaLabDrawn
import Derived.Lib.SmallJoins
namespace Go.Proofs.Ythmknpdhgfmogaa
open Go.RowKit Go.Joins
set_option linter.unusedVariables false
def Ils (w : World) (a : Option Addr) (len : Nat) (xs : List Int) : Prop :=
  xs.length = len ∧ len ≤ maxLen ∧ (a = none → len = 0) ∧ ∀ x, a = some x → ∀ j b, xs[j]? = some b → w.cell? (x.add j) = some (.int .i64 b)
theorem Ils.below {w w' : World} {a : Option Addr} {len : Nat} {bs : List Int} (h : Ils w a len bs) (hb : Below w.heap.size w w') : Ils w' a len bs := by
  obtain ⟨h1, h2, h3, h4⟩ := h
  refine ⟨h1, h2, h3, fun x hx j b hj => ?_⟩
  have := h4 x hx j b hj
  exact (hb.cell (block_lt_of_cell this)).trans this
theorem Ils.at {w : World} {a : Option Addr} {len j : Nat} {bs : List Int} {c : Int} (h : Ils w a len bs) (hj : bs[j]? = some c) : ∃ b off, a = some ⟨b, off, none⟩ ∧ w.cell? ⟨b, off + j, none⟩ = some (.int .i64 c) := by
  obtain ⟨h1, h2, h3, h4⟩ := h
  have hjl : j < bs.length := (List.getElem?_eq_some_iff.1 hj).1
  cases a with
  | none => have := h3 rfl; omega
  | some x =>
    obtain ⟨b, off, spot⟩ := x
    obtain ⟨c0, hc0⟩ : ∃ c0, bs[0]? = some c0 := ⟨_, List.getElem?_eq_getElem (by omega)⟩
    have hspot : spot = none := by simpa [Addr.add] using World.cell?_spot (h4 _ rfl 0 c0 hc0)
    subst hspot
    have := h4 _ rfl j c hj
    rw [ladd_none] at this
    exact ⟨b, off, rfl, this⟩
theorem Ils.take {w : World} {a : Option Addr} {len : Nat} {l : List Int} (h : Ils w a len l) (k : Nat) (hk : k ≤ len) : Ils w a k (l.take k) := by
  obtain ⟨h1, h2, h3, h4⟩ := h
  refine ⟨by rw [List.length_take]; omega, by omega, fun e => by have := h3 e; omega, fun x hx j d hd => ?_⟩
  rw [List.getElem?_take] at hd
  split at hd
  · exact h4 x hx j d hd
  · cases hd
end Go.Proofs.Ythmknpdhgfmogaa
