/- A list of steps that came in. -/
import Derived.Test.YtpiohhljcjobfaaDiskPad
namespace Go.Proofs.Ytpiohhljcjobfaa
open Go.RowKit Go.Maps
set_option linter.unusedVariables false
structure Stp where
  op : Int
  i : Int
  at2 : Int
  n3 : Int
  nm : ByteArray
  ba : Option Addr
  bl : Nat
  bc : Nat
  zs : List Nat
  m6 : Int
  ka : Option Addr
  kl : Nat
  kc : Nat
def Stp.cells (s : Stp) : List Value := [.int .i64 s.op, .int .i64 s.i, .int .i64 s.at2, .int .i64 s.n3, .string s.nm, .slice s.ba s.bl s.bc, .int .u8 s.m6, .slice s.ka s.kl s.kc]
def Sts (w : World) (a : Option Addr) (len : Nat) (l : List Stp) : Prop :=
  l.length = len ∧ len ≤ maxLen ∧ (a = none → len = 0) ∧ (∀ s ∈ l, s.nm.size ≤ maxLen ∧ Bs w s.ba s.bl s.zs) ∧ ∀ x, a = some x → ∀ j s, l[j]? = some s → ∀ k v, s.cells[k]? = some v → w.cell? (x.add (j * 8 + k)) = some v
theorem Sts.below {w w' : World} {a : Option Addr} {len : Nat} {l : List Stp} (h : Sts w a len l) (hb : Below w.heap.size w w') : Sts w' a len l := by
  obtain ⟨h1, h2, h3, h4, h5⟩ := h
  refine ⟨h1, h2, h3, fun s hs => ⟨(h4 s hs).1, (h4 s hs).2.below hb⟩, fun x hx j s hs k v hv => ?_⟩
  have := h5 x hx j s hs k v hv
  exact (hb.cell (block_lt_of_cell this)).trans this
/-- The place of a step: its eight cells. -/
theorem Sts.at {w : World} {a : Option Addr} {len j : Nat} {l : List Stp} {s : Stp} (h : Sts w a len l) (hs : l[j]? = some s) :
    ∃ b off, a = some ⟨b, off, none⟩ ∧ w.cell? ⟨b, off + j * 8, none⟩ = some (.int .i64 s.op) ∧ w.cell? ⟨b, off + j * 8 + 1, none⟩ = some (.int .i64 s.i) ∧ w.cell? ⟨b, off + j * 8 + 2, none⟩ = some (.int .i64 s.at2) ∧ w.cell? ⟨b, off + j * 8 + 3, none⟩ = some (.int .i64 s.n3) ∧
      w.cell? ⟨b, off + j * 8 + 4, none⟩ = some (.string s.nm) ∧ w.cell? ⟨b, off + j * 8 + 5, none⟩ = some (.slice s.ba s.bl s.bc) ∧ w.cell? ⟨b, off + j * 8 + 6, none⟩ = some (.int .u8 s.m6) ∧ w.cell? ⟨b, off + j * 8 + 7, none⟩ = some (.slice s.ka s.kl s.kc) := by
  obtain ⟨h1, h2, h3, h4, h5⟩ := h
  cases a with
  | none =>
    have := h3 rfl
    have := (List.getElem?_eq_some_iff.1 hs).1
    omega
  | some x =>
    obtain ⟨b, off, spot⟩ := x
    have h := h5 _ rfl j s hs
    obtain ⟨s0, hs0⟩ : ∃ s0, l[0]? = some s0 := ⟨_, List.getElem?_eq_getElem (by have := (List.getElem?_eq_some_iff.1 hs).1; omega)⟩
    have hspot : spot = none := by simpa [Addr.add] using World.cell?_spot (h5 _ rfl 0 s0 hs0 0 _ rfl)
    subst hspot
    have e : ∀ k, (⟨b, off, none⟩ : Addr).add (j * 8 + k) = ⟨b, off + j * 8 + k, none⟩ := fun k => by rw [add_none, Nat.add_assoc]
    simp only [e] at h
    exact ⟨b, off, rfl, h 0 _ rfl, h 1 _ rfl, h 2 _ rfl, h 3 _ rfl, h 4 _ rfl, h 5 _ rfl, h 6 _ rfl, h 7 _ rfl⟩
set_option maxHeartbeats 2000000 in
theorem full_pad (w : World) (y0 y1 y2 y3 y4 y6 y7 : Value) (a : Option Addr) (len cap : Nat) (zs : List Nat) (hB : Bs w a len zs) :
    Calls Try.prog 27 #[.agg #[y0, y1, y2, y3, y4, .slice a len cap, y6, y7]] w fun e w' => ∃ b, e = .returned (.slice (some ⟨b, 0, none⟩) 128 128) ∧ w.heap.size ≤ b ∧ b < w'.heap.size ∧ Bs w' (some ⟨b, 0, none⟩) 128 (padTo zs) ∧ Below w.heap.size w w' := by
  have hmk := mk128
  obtain ⟨w1, hw1⟩ : ∃ w1, w1 = w.alloc (.cells #[y0, y1, y2, y3, y4, .slice a len cap, y6, y7] 34) := ⟨_, rfl⟩
  have hb1 : Below w.heap.size w w1 := by rw [hw1]; exact (Below.refl _ _).alloc (Nat.le_refl _) _
  have hs1 : w1.heap.size = w.heap.size + 1 := by rw [hw1, World.size_alloc]
  have hb2 : Below w.heap.size w (w1.alloc (.cells zero128 5)) := hb1.alloc hb1.size _
  obtain ⟨w3, m, hcp, hb3, hg3⟩ := copy128 _ w1.heap.size a len cap zs (heap_alloc_new w1 _) (hB.below hb2)
  have B3 := hb2.trans (hb3 w.heap.size hb1.size)
  have hbs := row_bs hg3 (padTo_length zs) (by decide) (padTo_lt hB.2.2.1)
  have HF := hidn (show w.heap.size ≤ w1.heap.size ∧ w1.heap.size < w3.heap.size ∧ Bs w3 (some ⟨w1.heap.size, 0, none⟩) 128 (padTo zs) ∧ Below w.heap.size w w3 from ⟨hb1.size, (Array.getElem?_eq_some_iff.1 hg3).1, hbs, B3⟩)
  rw [hs1] at hcp HF
  rw [hw1] at hcp
  clear hb1 hb2 hb3 hg3 B3 hbs hw1 hs1 hB
  go_enter Try.func27, Try.ntmps27
  go_wp2
  go_ret
  exact ⟨_, rfl, HF.out⟩
end Go.Proofs.Ytpiohhljcjobfaa
