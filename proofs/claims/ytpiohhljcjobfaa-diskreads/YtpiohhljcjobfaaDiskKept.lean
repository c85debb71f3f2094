/- A map from spots to numbers: what is kept of each at a crash. -/
import Derived.Test.YtpiohhljcjobfaaDiskCrash
import Derived.DeepKeys4
import Derived.Maps.RangeWalk
namespace Go.Proofs.Ytpiohhljcjobfaa
open Go.RowKit Go.Maps
set_option linter.unusedVariables false

theorem spotRow : (69 : TypeId) < Try.prog.types.size := of_decide_eq_true (by kernel_rfl)
theorem laidOutP : laidOutB Try.prog = true := by kernel_rfl
theorem lawSpot : Keyed Try.prog 69 := Keyed.of_law (deep_law_laid laidOutP (m := 3) (by decide) spotRow (by kernel_rfl) (by kernel_rfl))
def spk (s : List UInt8) (i : Int) : List UInt8 := keyBytes [.string s, .int .i64 i]
theorem spotKeyType : Try.prog.keyType 69 = true := by kernel_rfl
theorem spotCells : Try.prog.cellsOf 69 = 2 := by kernel_rfl
theorem spotSize : ∃ m, Try.prog.types.size = m + 1 := ⟨_, (Nat.sub_add_cancel (Nat.succ_le_of_lt (Nat.lt_of_le_of_lt (Nat.zero_le _) spotRow))).symm⟩
theorem cellsStr : Try.prog.cellsOf 9 = 1 := by kernel_rfl
theorem cellsInt : Try.prog.cellsOf 3 = 1 := by kernel_rfl
theorem keyOf_spot (s : ByteArray) (i : Int) (hs : s.size ≤ maxLen) (hi : (Lit.int .i64 i).wf = true) : keyOf Try.prog 69 (.agg #[.string s, .int .i64 i]) = some (.string (spk s.data.toList i)) := by
  obtain ⟨m, hm⟩ := spotSize
  have hu := Try.underlying69
  have hus := Try.underlying9
  have hui := Try.underlying3
  have k1 : Try.prog.keyLits (m + 1) 9 [.string s] = some [.string s.data.toList] := by simp [Program.keyLits, hus, hs]
  have k2 : Try.prog.keyLits (m + 1) 3 [.int .i64 i] = some [.int .i64 i] := by simp [Program.keyLits, hui, hi]
  have k3 : Try.prog.keyLits (m + 1 + 1) 69 [.string s, .int .i64 i] = some [.string s.data.toList, .int .i64 i] := by
    unfold Program.keyLits
    simp only [hu]
    simp [spotCells, cellsStr, cellsInt, k1, k2]
  unfold keyOf
  rw [hu]
  simp [spotKeyType, Value.formed, hu, spotCells, hm, k3, spk, Value.cells]
theorem spk_inj {s s' : ByteArray} {i i' : Int} (hs : s.size ≤ maxLen) (hi : (Lit.int .i64 i).wf = true) (hs' : s'.size ≤ maxLen) (hi' : (Lit.int .i64 i').wf = true) (h : spk s.data.toList i = spk s'.data.toList i') : s = s' ∧ i = i' := by
  have h1 := keyOf_spot s i hs hi
  have h2 := keyOf_spot s' i' hs' hi'
  rw [h] at h1
  have := lawSpot.inj h1 h2
  simpa using this

/-- Block b holds what is kept of each spot. -/
def KeptMap (w : World) (b : Nat) (kf : List UInt8 → Int → Int) : Prop :=
  ∃ N D, w.ownsMap (H := Unit) Try.prog 69 (plainElem Try.prog 3) b N D ∧ N ≤ maxLen ∧ (∀ (s : ByteArray) (i : Int), s.size ≤ maxLen → (Lit.int .i64 i).wf = true → D.atKey (.string (spk s.data.toList i)) (.lit (.int .i64 0)) = .lit (.int .i64 (kf s.data.toList i)))
theorem zeroInt (w : World) : (zeroValue 3).run Try.prog w = .ok (.int .i64 0) w := by kernel_rfl
theorem KeptMap.look {w : World} {b : Nat} {kf : List UInt8 → Int → Int} (h : KeptMap w b kf) (s : ByteArray) (i : Int) (hs : s.size ≤ maxLen) (hi : (Lit.int .i64 i).wf = true) :
    (Instr.lookup 96 (.map (some b)) (.agg #[.string s, .int .i64 i]) false).run Try.prog w = .ok (.int .i64 (kf s.data.toList i)) w := by
  obtain ⟨N, D, h1, _, h2⟩ := h
  obtain ⟨c, hrun, hat, _⟩ := h1.lookup_int lawSpot Try.underlying96 Try.underlying3 (zeroInt w) (keyOf_spot s i hs hi)
  rw [h2 s i hs hi] at hat
  have : kf s.data.toList i = c := by simpa using hat
  rw [this]
  exact hrun
theorem KeptMap.kept {w w' : World} {b : Nat} {kf : List UInt8 → Int → Int} (h : KeptMap w b kf) (hb : w'.heap[b]? = w.heap[b]?) : KeptMap w' b kf := by
  obtain ⟨N, D, ⟨es, clock, h1, h2⟩, h3⟩ := h
  exact ⟨N, D, ⟨es, clock, hb.trans h1, h2⟩, h3⟩
theorem KeptMap.lt {w : World} {b : Nat} {kf : List UInt8 → Int → Int} (h : KeptMap w b kf) : b < w.heap.size := by
  obtain ⟨N, D, h1, _⟩ := h
  exact h1.lt

theorem makeMap_hint {t k e : TypeId} (hu : Try.prog.underlying t = some (.map k e)) (n : Int) (w : World) : (Instr.makeMap t (some (.int .i64 n))).run Try.prog w = .ok (.map (some w.heap.size)) (w.alloc (.map #[] 0)) := by
  simp [Instr.makeMap, run_underlying hu, asInt, asIntOf]

set_option maxHeartbeats 1000000 in
theorem firstKept_none (w : World) (a : Option Addr) (cap : Nat) :
    Calls Try.prog 56 #[.slice a 0 cap] w fun e w' => ∃ b, e = .returned (.map (some b)) ∧ w.heap.size ≤ b ∧ KeptMap w' b (fun _ _ => 0) ∧ Below w.heap.size w w' := by
  have hmm := fun n w => makeMap_hint Try.underlying96 n w
  go_enter Try.func56, Try.ntmps56
  go_wp2_with fail
  go_loop [14] (fun iv => iv = .int .i64 0) (fun _ => 0)
  case atStart => rfl
  case round =>
    subst hrel
    have hlt : decide ((0 : Int) < 0) = false := by simp
    go_wp2
    go_ret
    refine ⟨_, rfl, Nat.le_refl _, ⟨0, .map [], World.ownsMap_made _ _ _ _, Nat.zero_le _, fun s i _ _ => rfl⟩, (Below.refl _ _).alloc (Nat.le_refl _) _⟩
end Go.Proofs.Ytpiohhljcjobfaa
