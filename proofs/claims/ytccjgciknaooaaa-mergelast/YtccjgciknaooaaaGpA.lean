/- merge: gaps in memory; Touches of program and document. -/
import Derived.Test.YtccjgciknaooaaaMgA
import Derived.BigRegion
namespace Go.Proofs.Ytccjgciknaooaaa
open Go.RowKit Go.Joins
set_option linter.unusedVariables false

structure Gp where
  f : Int
  t : Int
def gpD (l : List Gp) (k : Nat) : Gp := l.getD k ⟨0, 0⟩
/-- Gaps in memory. -/
def Gps (w : World) (a : Option Addr) (len : Nat) (l : List Gp) : Prop :=
  l.length = len ∧ len ≤ maxLen ∧ (a = none → len = 0) ∧
    ∀ x, a = some x → ∀ j, j < len → w.cell? (x.add (j * 2)) = some (.int .i64 (gpD l j).f) ∧ w.cell? (x.add (j * 2 + 1)) = some (.int .i64 (gpD l j).t)
theorem Gps.below {w w' : World} {a : Option Addr} {len : Nat} {l : List Gp} (h : Gps w a len l) (hb : Below w.heap.size w w') : Gps w' a len l := by
  obtain ⟨h1, h2, h3, h4⟩ := h
  refine ⟨h1, h2, h3, fun x hx j hj => ?_⟩
  obtain ⟨c0, c1⟩ := h4 x hx j hj
  exact ⟨(hb.cell (block_lt_of_cell c0)).trans c0, (hb.cell (block_lt_of_cell c1)).trans c1⟩
theorem Gps.pos {w : World} {a : Option Addr} {len : Nat} {l : List Gp} (h : Gps w a len l) (h0 : 0 < len) :
    ∃ b off, a = some ⟨b, off, none⟩ ∧ b < w.heap.size ∧ ∀ j, j < len → w.cell? ⟨b, off + j * 2, none⟩ = some (.int .i64 (gpD l j).f) ∧ w.cell? ⟨b, off + j * 2 + 1, none⟩ = some (.int .i64 (gpD l j).t) := by
  obtain ⟨hl, hm, hn, hc⟩ := h
  cases a with
  | none => have := hn rfl; omega
  | some x =>
    obtain ⟨b, off, spot⟩ := x
    have hc0 := (hc _ rfl 0 h0).1
    have hspot : spot = none := by simpa [Addr.add] using World.cell?_spot hc0
    subst hspot
    have hb := block_lt_of_cell hc0
    refine ⟨b, off, rfl, by simpa [Addr.add] using hb, fun j hj => ?_⟩
    have := hc _ rfl j hj
    rw [add_none, add_none] at this
    exact this

/-- Whether a range of times meets a gap. -/
def hitB (g : Gp) (frm to : Int) : Bool := decide (max g.f frm ≤ min g.t to)
def touchB (l : List Gp) (frm to : Int) : Bool := l.any fun g => hitB g frm to
theorem touch_yes {l : List Gp} {frm to : Int} (k : Nat) (hk : k < l.length) (h : hitB (gpD l k) frm to = true) : touchB l frm to = true := by
  unfold touchB
  rw [List.any_eq_true]
  refine ⟨l[k], List.getElem_mem hk, ?_⟩
  unfold gpD at h
  rw [List.getD_eq_getElem?_getD, List.getElem?_eq_getElem hk] at h
  exact h
theorem touch_no {l : List Gp} {frm to : Int} (h : ∀ k, k < l.length → hitB (gpD l k) frm to = false) : touchB l frm to = false := by
  unfold touchB
  rw [List.any_eq_false]
  intro g hg
  obtain ⟨k, hk, rfl⟩ := List.getElem_of_mem hg
  have h1 := h k hk
  unfold gpD at h1
  rw [List.getD_eq_getElem?_getD, List.getElem?_eq_getElem hk] at h1
  simpa using h1

set_option maxHeartbeats 1000000 in
set_option maxRecDepth 100000 in
theorem hasTime_any (f t : Int) (w : World) : Calls Try.prog 33 #[.agg #[.int .i64 f, .int .i64 t]] w fun e w' => e = .returned (.bool (decide (f ≤ t))) ∧ Below w.heap.size w w' := by
  go_enter Try.func33, Try.ntmps33
  go_wp2_with fail
  go_ret
  exact ⟨rfl, (Below.refl _ _).alloc (Nat.le_refl _) _⟩

end Go.Proofs.Ytccjgciknaooaaa
