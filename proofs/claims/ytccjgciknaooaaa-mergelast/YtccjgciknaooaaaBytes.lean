/- Slices of bytes in memory: what they hold; bytes.Equal. -/
import Derived.Test.YtccjgciknaooaaaChecked
import Derived.WalkKit
import Derived.WalkLawsBesides
import Derived.KernelRfl
import Derived.Laws.BytesArg
import Derived.Laws.IdiomStrings
import Derived.Lib.SliceRun
import Derived.Test.YtccjgciknaooaaaMath
namespace Go.Proofs.Ytccjgciknaooaaa
open Go.RowKit
set_option linter.unusedVariables false
theorem Try.info5 : (Try.prog.info? 5).map (fun i => (i.zero, i.size, i.bytes)) = some (some (.int .u8 0), 1, 1) := by kernel_rfl

/-- A slice's value (its address and length) holds the bytes zs. -/
def Bs (w : World) (a : Option Addr) (len : Nat) (zs : List Nat) : Prop :=
  zs.length = len ∧ len ≤ maxLen ∧ (∀ x ∈ zs, x < 256) ∧ (a = none → len = 0) ∧ ∀ x, a = some x → ∀ j, j < len → w.cell? (x.add j) = some (.int .u8 ((zs.getD j 0 : Nat) : Int))

theorem add_none (b off j : Nat) : (⟨b, off, none⟩ : Addr).add j = ⟨b, off + j, none⟩ := by
  unfold Addr.add
  by_cases h : j = 0 <;> simp [h]
theorem Bs.nil (w : World) : Bs w none 0 [] := ⟨rfl, Nat.zero_le _, by simp, fun _ => rfl, by simp⟩
theorem Bs.pos {w : World} {a : Option Addr} {len : Nat} {zs : List Nat} (h : Bs w a len zs) (h0 : 0 < len) :
    ∃ b off, a = some ⟨b, off, none⟩ ∧ b < w.heap.size ∧ ∀ j, j < len → w.cell? ⟨b, off + j, none⟩ = some (.int .u8 ((zs.getD j 0 : Nat) : Int)) := by
  obtain ⟨hl, hm, hz, hn, hc⟩ := h
  cases a with
  | none => have := hn rfl; omega
  | some x =>
    obtain ⟨b, off, spot⟩ := x
    have hc0 := hc _ rfl 0 h0
    have hspot : spot = none := by simpa [Addr.add] using World.cell?_spot hc0
    subst hspot
    have hb := block_lt_of_cell hc0
    exact ⟨b, off, rfl, by simpa [Addr.add] using hb, fun j hj => by rw [← add_none]; exact hc _ rfl j hj⟩
theorem Bs.below {w w' : World} {a : Option Addr} {len : Nat} {zs : List Nat} (h : Bs w a len zs) (hb : Below w.heap.size w w') : Bs w' a len zs := by
  obtain ⟨hl, hm, hz, hn, hc⟩ := h
  refine ⟨hl, hm, hz, hn, fun x hx j hj => ?_⟩
  have h1 := hc x hx j hj
  rw [hb.cell (block_lt_of_cell h1)]; exact h1
theorem bs_of_own {w : World} {base n : Nat} {v : Value} {zs : List Nat} (h : w.ownsRow base 5 1 v n (vb zs)) (hz : ∀ x ∈ zs, x < 256) :
    ∃ a cap, v = .slice a n cap ∧ Bs w a n zs := by
  have h' := h
  obtain ⟨hl, h1⟩ := h
  have hn : zs.length = n := by simpa [vb] using hl
  rcases h1 with ⟨rfl, rfl⟩ | ⟨g, cap, cur, rfl, hg, hh, hnc, hcm, hcs, htk⟩
  · obtain rfl : zs = [] := List.length_eq_zero_iff.1 hn
    exact ⟨none, 0, rfl, Bs.nil w⟩
  · refine ⟨_, cap, rfl, hn, by omega, hz, (fun h => by simp at h), fun x hx j hj => ?_⟩
    cases hx
    have := h'.cellAt j (by omega)
    rw [vb_getD zs j (by omega)] at this
    rw [add_none, Nat.zero_add]; exact this
theorem own_of_below {w w' : World} {base n : Nat} {v : Value} {xs : List Value} (h : w.ownsRow base 5 1 v n xs) (hb : Below w.heap.size w w') : w'.ownsRow base 5 1 v n xs := by
  obtain ⟨hl, h1⟩ := h
  refine ⟨hl, ?_⟩
  rcases h1 with h1 | ⟨g, cap, cur, hv, hg, hh, hnc, hcm, hcs, htk⟩
  · exact .inl h1
  · refine .inr ⟨g, cap, cur, hv, hg, ?_, hnc, hcm, hcs, htk⟩
    rw [hb.block g (by have := (Array.getElem?_eq_some_iff.1 hh).1; exact this)]; exact hh

theorem one_vb (l : List Nat) : ∀ v ∈ vb l, v.oneCell' = true := by
  intro v hv
  simp only [vb, List.mem_map] at hv
  obtain ⟨y, _, rfl⟩ := hv
  rfl
theorem length_vb (l : List Nat) : (vb l).length = l.length := by simp [vb]
theorem bs_of_block {w : World} {b t : Nat} {zs : List Nat} (h : w.heap[b]? = some (.cells (vb zs).toArray t (0, 0))) (hm : zs.length ≤ maxLen) (hz : ∀ x ∈ zs, x < 256) : Bs w (some ⟨b, 0, none⟩) zs.length zs := by
  refine ⟨rfl, hm, hz, (fun h => by simp at h), fun x hx j hj => ?_⟩
  cases hx
  rw [add_none, Nat.zero_add, cell_of_row _ _ _ _ _ _ h, List.getElem?_toArray]
  exact vb_getD zs j hj
end Go.Proofs.Ytccjgciknaooaaa
