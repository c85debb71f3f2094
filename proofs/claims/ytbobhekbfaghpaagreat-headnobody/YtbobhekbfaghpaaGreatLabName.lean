/- labels.Name, labels.Value: contracts at every text. -/
import Derived.Test.YtbobhekbfaghpaaGreatChecked
import Derived.WalkKit
import Derived.WalkLawsBesides
import Derived.KernelRfl
import Derived.BigCall
import Derived.Lib.OthersKept
import Derived.Test.YtbobhekbfaghpaaGreatLabMath
namespace Go.Proofs.YtbobhekbfaghpaaGreat
open Go.RowKit
set_option linter.unusedVariables false

set_option maxHeartbeats 1000000 in
theorem isLetter_any (r : Int) (w : World) :
    Calls Tryz.prog 44 #[.int .i32 r] w fun e w' => e = .returned (.bool (letZ r)) ∧ w' = w := by
  have e : ∀ b, letZ r = b → (Ending.returned (.bool b) = Ending.returned (.bool (letZ r))) := fun b h => by rw [h]
  by_cases h1 : 97 ≤ r <;> by_cases h2 : r ≤ 122 <;> by_cases h3 : 65 ≤ r <;> by_cases h4 : r ≤ 90 <;> by_cases h5 : r = 95
  all_goals first
    | (exfalso; omega)
    | (go_enter Tryz.func44, Tryz.ntmps44
       go_wp2
       go_ret
       exact ⟨e _ (by unfold letZ; rw [Bool.eq_iff_iff]; simp <;> omega), rfl⟩)

set_option maxHeartbeats 1000000 in
theorem isDigit_any (r : Int) (w : World) :
    Calls Tryz.prog 45 #[.int .i32 r] w fun e w' => e = .returned (.bool (digZ r)) ∧ w' = w := by
  have e : ∀ b, digZ r = b → (Ending.returned (.bool b) = Ending.returned (.bool (digZ r))) := fun b h => by rw [h]
  by_cases h1 : 48 ≤ r <;> by_cases h2 : r ≤ 57
  all_goals first
    | (exfalso; omega)
    | (go_enter Tryz.func45, Tryz.ntmps45
       go_wp2
       go_ret
       exact ⟨e _ (by unfold digZ; rw [Bool.eq_iff_iff]; simp <;> omega), rfl⟩)

/-- The rune at a place, as the contracts of Name want it. -/
theorem name_rune (s : ByteArray) (pos : Nat) (h : pos < s.size) :
    (nameAt pos (byteAt s pos) = (letZ ((Utf8.decode s pos).1 : Int) || (decide (pos ≠ 0) && digZ ((Utf8.decode s pos).1 : Int)))) ∧ (nameAt pos (byteAt s pos) = true → (Utf8.decode s pos).2 = 1) := by
  rcases rune_low s pos h with ⟨h1, h2, h3⟩ | ⟨h1, h2, h3⟩
  · rw [h1]; exact ⟨rfl, fun _ => h2⟩
  · rw [nameAt_high _ _ h3, letZ_high _ (by omega), digZ_high _ (by omega)]; simp

set_option maxHeartbeats 2000000 in
set_option maxRecDepth 100000 in
theorem name_any (s : ByteArray) (w : World) (hs : s.size ≤ maxLen) :
    Calls Tryz.prog 25 #[.string s] w fun e w' => e = .returned (.bool (nameOK s)) ∧ Below w.heap.size w w' := by
  unfold maxLen at hs
  have e : ∀ b, nameOK s = b → (Ending.returned (.bool b) = Ending.returned (.bool (nameOK s))) := fun b h => by rw [h]
  by_cases h0 : s.size = 0
  · go_enter Tryz.func25, Tryz.ntmps25
    go_wp2
    go_ret
    exact ⟨e _ (nameOK_size s (.inl h0)), Below.refl _ _⟩
  by_cases h24 : 24 < s.size
  · go_enter Tryz.func25, Tryz.ntmps25
    go_wp2
    go_ret
    exact ⟨e _ (nameOK_size s (.inr h24)), Below.refl _ _⟩
  have g0 : ((s.size : Int) == 0) = false := beq_eq_false_iff_ne.2 (by omega)
  have g24 : decide (24 < (s.size : Int)) = false := by simp; omega
  go_enter Tryz.func25, Tryz.ntmps25
  go_wp2
  go_loopw [] (fun wr => ∃ pos : Nat, pos ≤ s.size ∧ wr.heap[w.heap.size]? = some (.stringIter s pos) ∧ Below w.heap.size w wr ∧ Hid (nameTo s pos = true)) (fun wr => s.size - wr.iterPos w.heap.size)
  case atStart =>
    refine ⟨0, Nat.zero_le _, ?_, (Below.refl _ w).alloc (Nat.le_refl _) _, rfl⟩
    have := World.iter_heap w s 0
    simpa using this
  case round =>
    obtain ⟨pos, hp0, hit, hbw, hn⟩ := hrel
    have hsz : w.heap.size < wr.heap.size := (Array.getElem?_eq_some_iff.1 hit).1
    by_cases hp : pos < s.size
    · have hnx : ∀ ty, (Instr.next (.pointer (some ⟨w.heap.size, 0, none⟩)) true ty).run Tryz.prog wr = _ := fun ty => Lib.run_next_any_at wr w.heap.size s pos ty hit hp
      have hwd := width_pos s pos hp
      have hd1 := decode_le s pos
      obtain ⟨hr1, hr2⟩ := name_rune s pos hp
      have hit2 := Lib.iterAt_heap wr w.heap.size s pos (pos + (Utf8.decode s pos).2) hit
      have hbw2 := Lib.below_iterAt hbw (k := w.heap.size) (by omega) s (pos + (Utf8.decode s pos).2)
      have hr : Hid (nameAt pos (byteAt s pos) = (letZ ((Utf8.decode s pos).1 : Int) || (decide (pos ≠ 0) && digZ ((Utf8.decode s pos).1 : Int)))) := hr1
      clear hr1
      generalize hW : wr.iterAt w.heap.size s (pos + (Utf8.decode s pos).2) = wi at *
      have HW : Hid (_ = wi) := hW
      clear hW
      generalize hR : ((Utf8.decode s pos).1 : Int) = r at *
      have HR : Hid (_ = r) := hR
      clear hR
      have hgo : ∀ W : World, W.heap[w.heap.size]? = some (.stringIter s (pos + (Utf8.decode s pos).2)) → Below w.heap.size w W → nameAt pos (byteAt s pos) = true → (∃ pos : Nat, pos ≤ s.size ∧ W.heap[w.heap.size]? = some (.stringIter s pos) ∧ Below w.heap.size w W ∧ Hid (nameTo s pos = true)) ∧ s.size - W.iterPos w.heap.size < s.size - wr.iterPos w.heap.size := by
        intro W h1 h2 h3
        rw [hr2 h3] at h1
        refine ⟨⟨pos + 1, by omega, h1, h2, ?_⟩, ?_⟩
        · show nameTo s (pos + 1) = true
          rw [nameTo_succ, hn, h3]; rfl
        · simp only [World.iterPos, h1, hit]; omega
      have hstop : nameAt pos (byteAt s pos) = false → nameOK s = false := nameOK_false s pos hp
      clear hr2 hn
      by_cases hl : letZ r = true
      · go_wp2_with (go_at_call 44; refine (isLetter_any r _).mono ?_; rintro e w' ⟨rfl, rfl⟩)
        exact hgo _ hit2 hbw2 (by rw [hr, hl]; rfl)
      · have hl' : letZ r = false := by simpa using hl
        by_cases hz : pos = 0
        · subst hz
          go_wp2_with (go_at_call 44; refine (isLetter_any r _).mono ?_; rintro e w' ⟨rfl, rfl⟩)
          go_ret
          exact ⟨e _ (hstop (by rw [hr, hl']; rfl)), hbw2⟩
        · have hz' : ((pos : Int) == 0) = false := beq_eq_false_iff_ne.2 (by omega)
          by_cases hd : digZ r = true
          · go_wp2_with (first | (go_at_call 44; refine (isLetter_any r _).mono ?_; rintro e w' ⟨rfl, rfl⟩) | (go_at_call 45; refine (isDigit_any r _).mono ?_; rintro e w' ⟨rfl, rfl⟩))
            exact hgo _ hit2 hbw2 (by rw [hr, hl', hd]; simp [hz])
          · have hd' : digZ r = false := by simpa using hd
            go_wp2_with (first | (go_at_call 44; refine (isLetter_any r _).mono ?_; rintro e w' ⟨rfl, rfl⟩) | (go_at_call 45; refine (isDigit_any r _).mono ?_; rintro e w' ⟨rfl, rfl⟩))
            go_ret
            exact ⟨e _ (hstop (by rw [hr, hl', hd']; simp)), hbw2⟩
    · have hnx : ∀ ty, (Instr.next (.pointer (some ⟨w.heap.size, 0, none⟩)) true ty).run Tryz.prog wr = _ := fun ty => Lib.run_next_end_at wr w.heap.size s pos ty hit hp
      go_wp2
      go_ret
      obtain rfl : pos = s.size := by omega
      exact ⟨e _ (nameOK_true s (by omega) (by omega) hn), hbw⟩

theorem plainZ_cases (r : Nat) : (plainZ r = true ∧ ¬ (r : Int) < 32 ∧ ((r : Int) == 127) = false ∧ ((r : Int) == 65533) = false) ∨ (plainZ r = false ∧ (r : Int) < 32) ∨ (plainZ r = false ∧ ¬ (r : Int) < 32 ∧ ((r : Int) == 127) = true) ∨ (plainZ r = false ∧ ¬ (r : Int) < 32 ∧ ((r : Int) == 127) = false ∧ ((r : Int) == 65533) = true) := by
  unfold plainZ
  simp only [decide_eq_true_eq, decide_eq_false_iff_not, beq_iff_eq, beq_eq_false_iff_ne, ne_eq]
  omega

set_option maxHeartbeats 2000000 in
set_option maxRecDepth 100000 in
theorem value_any (s : ByteArray) (w : World) (hs : s.size ≤ maxLen) :
    Calls Tryz.prog 26 #[.string s] w fun e w' => e = .returned (.bool (valueOK s)) ∧ Below w.heap.size w w' := by
  unfold maxLen at hs
  have e : ∀ b, valueOK s = b → (Ending.returned (.bool b) = Ending.returned (.bool (valueOK s))) := fun b h => by rw [h]
  by_cases h0 : s.size = 0
  · go_enter Tryz.func26, Tryz.ntmps26
    go_wp2
    go_ret
    exact ⟨e _ (valueOK_size s (.inl h0)), Below.refl _ _⟩
  by_cases h24 : 40 < s.size
  · go_enter Tryz.func26, Tryz.ntmps26
    go_wp2
    go_ret
    exact ⟨e _ (valueOK_size s (.inr h24)), Below.refl _ _⟩
  have g0 : ((s.size : Int) == 0) = false := beq_eq_false_iff_ne.2 (by omega)
  have g24 : decide (40 < (s.size : Int)) = false := by simp; omega
  have e2 := valueOK_plain s (by omega) (by omega)
  rw [e2] at e ⊢
  clear e2
  go_enter Tryz.func26, Tryz.ntmps26
  go_wp2
  go_loopw [] (fun wr => ∃ pos fuel : Nat, wr.heap[w.heap.size]? = some (.stringIter s pos) ∧ Below w.heap.size w wr ∧ s.size ≤ pos + fuel ∧ Hid (plainS s = plainFrom s fuel pos)) (fun wr => s.size - wr.iterPos w.heap.size)
  case atStart =>
    refine ⟨0, s.size, ?_, (Below.refl _ w).alloc (Nat.le_refl _) _, by omega, rfl⟩
    have := World.iter_heap w s 0
    simpa using this
  case round =>
    obtain ⟨pos, fuel, hit, hbw, hfu, hn⟩ := hrel
    have hsz : w.heap.size < wr.heap.size := (Array.getElem?_eq_some_iff.1 hit).1
    by_cases hp : pos < s.size
    · have hnx : ∀ ty, (Instr.next (.pointer (some ⟨w.heap.size, 0, none⟩)) true ty).run Tryz.prog wr = _ := fun ty => Lib.run_next_any_at wr w.heap.size s pos ty hit hp
      have hwd := width_pos s pos hp
      obtain ⟨f, rfl⟩ : ∃ f, fuel = f + 1 := ⟨fuel - 1, by omega⟩
      have hit2 := Lib.iterAt_heap wr w.heap.size s pos (pos + (Utf8.decode s pos).2) hit
      have hbw2 := Lib.below_iterAt hbw (k := w.heap.size) (by omega) s (pos + (Utf8.decode s pos).2)
      have hcs := plainZ_cases (Utf8.decode s pos).1
      have hr : Hid (plainS s = (plainZ (Utf8.decode s pos).1 && plainFrom s f (pos + (Utf8.decode s pos).2))) := hn.trans (plainFrom_step s f pos hp)
      have hme : s.size - (wr.iterAt w.heap.size s (pos + (Utf8.decode s pos).2)).iterPos w.heap.size < s.size - wr.iterPos w.heap.size := by
        simp only [World.iterPos, hit2, hit]; omega
      clear hn
      generalize hW : wr.iterAt w.heap.size s (pos + (Utf8.decode s pos).2) = wi at *
      have HW : Hid (_ = wi) := hW
      clear hW
      rcases hcs with ⟨c0, c1, c2, c3⟩ | ⟨c0, c1⟩ | ⟨c0, c1, c2⟩ | ⟨c0, c1, c2, c3⟩
      · go_wp2
        exact ⟨⟨_, f, hit2, hbw2, by omega, by show plainS s = _; rw [hr, c0]; rfl⟩, hme⟩
      all_goals
        go_wp2
        go_ret
        exact ⟨e _ (by rw [hr, c0]; rfl), hbw2⟩
    · have hnx : ∀ ty, (Instr.next (.pointer (some ⟨w.heap.size, 0, none⟩)) true ty).run Tryz.prog wr = _ := fun ty => Lib.run_next_end_at wr w.heap.size s pos ty hit hp
      go_wp2
      go_ret
      exact ⟨e _ (hn.trans (plainFrom_end s fuel pos hp)), hbw⟩

end Go.Proofs.YtbobhekbfaghpaaGreat
