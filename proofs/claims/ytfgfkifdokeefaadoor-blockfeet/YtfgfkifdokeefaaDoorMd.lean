/- The reader of bits: what it holds; goOn, take, takeInt. -/
import Derived.Test.YtfgfkifdokeefaaDoorTiMath
namespace Go.Proofs.YtfgfkifdokeefaaDoor.Cd
open Go.RowKit Go.Joins
set_option linter.unusedVariables false
set_option linter.unusedSimpArgs false

theorem can_full {zs : List Nat} : canB zs ((8 * zs.length : Nat) : Int) = true := by
  rw [canB_iff]
  exact ⟨by omega, by rw [Int.toNat_natCast]; unfold nb; omega, fun i h1 h2 => by rw [Int.toNat_natCast] at h2; omega⟩

/-- All blocks but the reader's are as they were. -/
def Kr (r : Nat) (w w' : World) : Prop := w'.os = w.os ∧ w'.tape = w.tape ∧ w'.output = w.output ∧ w.heap.size ≤ w'.heap.size ∧ ∀ k, k < w.heap.size → k ≠ r → w'.heap[k]? = w.heap[k]?

theorem Kr.refl (r : Nat) (w : World) : Kr r w w := ⟨rfl, rfl, rfl, Nat.le_refl _, fun _ _ _ => rfl⟩

theorem Kr.trans {r : Nat} {a b c : World} (h : Kr r a b) (k : Kr r b c) : Kr r a c :=
  ⟨k.1.trans h.1, k.2.1.trans h.2.1, k.2.2.1.trans h.2.2.1, Nat.le_trans h.2.2.2.1 k.2.2.2.1, fun i hi hn => (k.2.2.2.2 i (Nat.lt_of_lt_of_le hi h.2.2.2.1) hn).trans (h.2.2.2.2 i hi hn)⟩

theorem Kr.of_below {r : Nat} {w w' : World} (h : Below w.heap.size w w') : Kr r w w' := ⟨h.os, h.tape, h.output, h.size, fun i hi _ => h.block i hi⟩

theorem Kr.setCell {r : Nat} {a w : World} (h : Kr r a w) (o : Nat) (u : Value) : Kr r a (w.setCell ⟨r, o, none⟩ u) :=
  h.trans ⟨rfl, rfl, rfl, by simp [World.setCell], fun k _ hk => Below.heap_setCell _ _ _ _ hk⟩

theorem Kr.below {r n : Nat} {w w' : World} (h : Kr r w w') (hn : n ≤ w.heap.size) (hr : n ≤ r) : Below n w w' :=
  ⟨h.1, h.2.1, h.2.2.1, h.2.2.2.1, fun i hi => h.2.2.2.2 i (by omega) (by omega)⟩

end Go.Proofs.YtfgfkifdokeefaaDoor.Cd

namespace Go.Proofs.YtfgfkifdokeefaaDoor.Cd
open Go.RowKit Go.Joins
set_option linter.unusedVariables false
set_option linter.unusedSimpArgs false

/-- What taking c bits at q answers, the place behind, whether the reader is broken. -/
def tkV (zs : List Nat) (q c : Nat) : Nat := if q + c ≤ 8 * zs.length then numOf (win zs q c) else 0

def tkQ (zs : List Nat) (q c : Nat) : Nat := if q + c ≤ 8 * zs.length then q + c else q

def tkB (zs : List Nat) (q c : Nat) (bad : Bool) : Bool := if q + c ≤ 8 * zs.length then bad else true

theorem tkV_lt (zs : List Nat) (q c : Nat) : tkV zs q c < 2 ^ c := by
  unfold tkV
  split
  · have := numOf_lt (win zs q c); rwa [win_length] at this
  · exact Nat.two_pow_pos c

theorem turned_some (x : Nat) (h : x ≠ 0) : turned x = lowBits 1 1 ++ (lowBits (hiZ x) 6 ++ (lowBits (widZ x - 1) 6 ++ lowBits (x / 2 ^ loZ x) (widZ x))) := by
  unfold turned; rw [if_neg h]

theorem turned_zero : turned 0 = lowBits 0 1 := rfl

theorem at_of_low {zs : List Nat} {n q c x : Nat} (h : numOf (win zs q c) = x) (hn : q + c ≤ n) : At zs n q (lowBits x c) :=
  at_of_win (lowBits_length _ _) (by rw [← h]; exact win_low zs q c) hn

theorem tu_good {zs : List Nat} {N q h c t : Nat} (hb : numOf (win zs q 1) = 1) (h1 : numOf (win zs (q + 1) 6) = h) (h2 : numOf (win zs (q + 7) 6) = c) (f3 : q + 13 + (c + 1) ≤ N) (h3 : numOf (win zs (q + 13) (c + 1)) = t)
    (hl : h + (c + 1) ≤ 64) (ht : t / 2 ^ c = 1) (ho : t % 2 = 1) :
    t * 2 ^ (64 - h - (c + 1)) < 18446744073709551616 ∧ At zs N q (turned (t * 2 ^ (64 - h - (c + 1)))) ∧ (turned (t * 2 ^ (64 - h - (c + 1)))).length = 14 + c := by
  have htl : t < 2 ^ (c + 1) := by rw [← h3]; have := numOf_lt (win zs (q + 13) (c + 1)); rwa [win_length] at this
  have ht2 : 2 ^ c ≤ t := by
    by_cases hh : 2 ^ c ≤ t
    · exact hh
    · rw [Nat.div_eq_of_lt (by omega)] at ht; cases ht
  obtain ⟨z1, z2, z3, z4, z5, z6⟩ := zz_make t (c + 1) (64 - h - (c + 1)) (by omega) (by omega) (by simpa using ht2) htl ho
  generalize t * 2 ^ (64 - h - (c + 1)) = x at *
  rw [turned_some x z2, z3, z4, z5, z6, show 64 - (64 - h - (c + 1)) - (c + 1) = h from by omega, show c + 1 - 1 = c from by omega]
  refine ⟨z1, at_app.2 ⟨at_of_low hb (by omega), ?_⟩, by simp [lowBits_length]; omega⟩
  rw [lowBits_length]
  refine at_app.2 ⟨at_of_low h1 (by omega), ?_⟩
  rw [lowBits_length]
  refine at_app.2 ⟨at_of_low h2 (by omega), ?_⟩
  rw [lowBits_length]
  exact at_of_low h3 (by omega)

theorem tu_must {zs : List Nat} {N q y : Nat} (hb : numOf (win zs q 1) = 1) (hy : y < 18446744073709551616) (h : At zs N q (turned y)) :
    ∃ h c t, numOf (win zs (q + 1) 6) = h ∧ numOf (win zs (q + 7) 6) = c ∧ q + 13 + (c + 1) ≤ N ∧ numOf (win zs (q + 13) (c + 1)) = t ∧ h + (c + 1) ≤ 64 ∧ t / 2 ^ c = 1 ∧ t % 2 = 1 ∧ y = t * 2 ^ (64 - h - (c + 1)) := by
  have h0 : y ≠ 0 := by
    rintro rfl
    rw [turned_zero] at h
    have := (at_low h).2
    rw [hb] at this
    cases this
  obtain ⟨z1, z2, z3, z4, z5, z6, z7, z8, z9⟩ := zz_spec y h0 hy
  rw [turned_some y h0] at h
  obtain ⟨a1, a2⟩ := at_app.1 h
  rw [lowBits_length] at a2
  obtain ⟨a3, a4⟩ := at_app.1 a2
  rw [lowBits_length] at a4
  obtain ⟨a5, a6⟩ := at_app.1 a4
  rw [lowBits_length] at a6
  have e1 := (at_low a3).2
  have e2 := (at_low a5).2
  have e3 := at_low a6
  obtain ⟨wm, hwm⟩ : ∃ wm, widZ y = wm + 1 := ⟨widZ y - 1, by omega⟩
  rw [hwm] at e2 e3 z8 z9 z5
  rw [show wm + 1 - 1 = wm from rfl] at e2 z9
  rw [Nat.mod_eq_of_lt (by show hiZ y < 64; omega)] at e1
  rw [Nat.mod_eq_of_lt (by show wm < 64; omega)] at e2
  rw [Nat.mod_eq_of_lt z8] at e3
  refine ⟨hiZ y, wm, y / 2 ^ loZ y, e1, e2, e3.1, e3.2, by omega, ?_, z7, ?_⟩
  · rw [Nat.pow_succ] at z8
    have hp := Nat.two_pow_pos wm
    exact Nat.div_eq_of_lt_le (by omega) (by omega)
  · rw [show 64 - hiZ y - (wm + 1) = loZ y from by omega, Nat.mul_comm]; exact z6

end Go.Proofs.YtfgfkifdokeefaaDoor.Cd
