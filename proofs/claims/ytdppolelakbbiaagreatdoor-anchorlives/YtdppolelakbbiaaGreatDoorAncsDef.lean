/- A list of anchors that came in. -/
import Derived.Test.YtdppolelakbbiaaGreatDoorAnA
namespace Go.Proofs.YtdppolelakbbiaaGreatDoor
open Go.RowKit Go.Maps
set_option linter.unusedVariables false
structure Anc where
 n0 : Int
 n1 : Int
 n2 : Int
 n3 : Int
 n4 : Int
 n5 : Int
 n6 : Int
 n7 : Int
 n8 : Int
 n9 : Int
def Anc.cells (s : Anc) : List Value := [.int .i64 s.n0, .int .i64 s.n1, .int .i64 s.n2, .int .i64 s.n3, .int .i64 s.n4, .int .i64 s.n5, .int .i64 s.n6, .int .i64 s.n7, .int .i64 s.n8, .int .i64 s.n9]
def Als (w : World) (a : Option Addr) (len : Nat) (l : List Anc) : Prop :=
 l.length = len ∧ len ≤ maxLen ∧ (a = none → len = 0) ∧ (∀ s ∈ l, -9223372036854775808 ≤ s.n0 ∧ s.n0 ≤ 9223372036854775807) ∧ ∀ x, a = some x → ∀ j s, l[j]? = some s → ∀ k v, s.cells[k]? = some v → w.cell? (x.add (j * 10 + k)) = some v
theorem Als.at2 {w w' : World} {a : Option Addr} {len j : Nat} {l : List Anc} {s : Anc} (h : Als w a len l) (hb : Below w.heap.size w w') (hs : l[j]? = some s) :
  ∃ b off, a = some ⟨b, off, none⟩ ∧ w'.cell? ⟨b, off + j * 10, none⟩ = some (.int .i64 s.n0) ∧ w'.cell? ⟨b, off + j * 10 + 1, none⟩ = some (.int .i64 s.n1) ∧ w'.cell? ⟨b, off + j * 10 + 2, none⟩ = some (.int .i64 s.n2) ∧ w'.cell? ⟨b, off + j * 10 + 3, none⟩ = some (.int .i64 s.n3) ∧ w'.cell? ⟨b, off + j * 10 + 4, none⟩ = some (.int .i64 s.n4) ∧ w'.cell? ⟨b, off + j * 10 + 5, none⟩ = some (.int .i64 s.n5) ∧ w'.cell? ⟨b, off + j * 10 + 6, none⟩ = some (.int .i64 s.n6) ∧ w'.cell? ⟨b, off + j * 10 + 7, none⟩ = some (.int .i64 s.n7) ∧ w'.cell? ⟨b, off + j * 10 + 8, none⟩ = some (.int .i64 s.n8) ∧ w'.cell? ⟨b, off + j * 10 + 9, none⟩ = some (.int .i64 s.n9) := by
 obtain ⟨h1, h2, h3, h4, h5⟩ := h
 cases a with
 | none =>
  have := h3 rfl
  have := (lQ4.1 hs).1
  omega
 | some x =>
  obtain ⟨b, off, spot⟩ := x
  have h := h5 _ rfl j s hs
  have hspot : spot = none := by
   obtain ⟨s0, hs0⟩ : ∃ s0, l[0]? = some s0 := ⟨_, lQ6 (by have := (lQ4.1 hs).1; omega)⟩
   simpa [Addr.add] using World.cell?_spot (h5 _ rfl 0 s0 hs0 0 _ rfl)
  subst hspot
  have h' : ∀ k v, s.cells[k]? = some v → w'.cell? ⟨b, off + j * 10 + k, none⟩ = some v := fun k v hv => by
   have h6 := h k v hv
   have e : (⟨b, off, none⟩ : Addr).add (j * 10 + k) = ⟨b, off + j * 10 + k, none⟩ := by rw [add_none, Nat.add_assoc]
   rw [e] at h6
   exact (hb.cell (block_lt_of_cell h6)).trans h6
  exact ⟨b, off, rfl, h' 0 _ rfl, h' 1 _ rfl, h' 2 _ rfl, h' 3 _ rfl, h' 4 _ rfl, h' 5 _ rfl, h' 6 _ rfl, h' 7 _ rfl, h' 8 _ rfl, h' 9 _ rfl⟩
end Go.Proofs.YtdppolelakbbiaaGreatDoor
