/- RegexAny: the law. -/
import Derived.Test.YtopnhboncacpdaaRxAny
namespace Go.Proofs.Ytopnhboncacpdaa
open Go.RowKit Go.Joins
set_option linter.unusedVariables false
set_option maxHeartbeats 2000000 in
theorem short_any (s : ByteArray) (w : World) (hs : s.size ≤ maxLen) :
    Calls Try.prog 7 #[.string s] w fun e w' => (∃ r : ByteArray, e = .returned (.string r) ∧ r.size ≤ 60) ∧ Below w.heap.size w w' := by
  unfold maxLen at hs
  by_cases h : s.size ≤ 60
  · have g3 : (s.size : Int) ≤ 60 := by omega
    go_enter Try.func7, Try.ntmps7
    go_wp2
    exact bodyPost_ret (v := .string (s.extract 0 (min (s.size : Int) 60).toNat)) (by simp [results, Try.results7, go_sem]) rfl ⟨⟨_, rfl, by rw [ByteArray.size_extract]; omega⟩, Below.refl _ _⟩
  · have g3 : ¬ (s.size : Int) ≤ 60 := by omega
    have g4 : (60 : Int) ≤ (s.size : Int) := by omega
    go_enter Try.func7, Try.ntmps7
    go_wp2
    exact bodyPost_ret (v := .string (s.extract 0 (min (s.size : Int) 60).toNat)) (by simp [results, Try.results7, go_sem]) rfl ⟨⟨_, rfl, by rw [ByteArray.size_extract]; omega⟩, Below.refl _ _⟩

theorem match_dotC (s : ByteArray) (w : World) (hs : s.size ≤ 60) :
    Calls Try.prog 8 #[.string ⟨#[46, 42]⟩, .string s] w fun e w' => e = .returned (.tuple #[.bool true, .int .i64 0]) ∧ Below w.heap.size w w' := by
  have h := match_any ⟨#[46, 42]⟩ s w (by decide) (by omega)
  rw [match_dot] at h
  exact h
theorem match_notC (s : ByteArray) (w : World) (hs : s.size ≤ 60) (B : Bool) (hB : B = notA s (s.size + 1) 0) :
    Calls Try.prog 8 #[.string ⟨#[91, 94, 97, 93, 42]⟩, .string s] w fun e w' => e = .returned (.tuple #[.bool B, .int .i64 0]) ∧ Below w.heap.size w w' := by
  have h := match_any ⟨#[91, 94, 97, 93, 42]⟩ s w (by decide) (by omega)
  rw [match_not, ← hB] at h
  exact h

set_option maxHeartbeats 2000000 in
set_option maxRecDepth 100000 in
theorem regexAny_walk (s0 : ByteArray) (w : World) (hs0 : s0.size ≤ maxLen) :
    Calls Try.prog 3 #[.string s0] w fun e w' => e = .returned (.bool true) ∧ Below w.heap.size w w' := by
  go_enter Try.func3, Try.ntmps3
  go_wp2_with fail
  refine (short_any s0 _ hs0).mono ?_
  rintro e w1 ⟨⟨s, rfl, hs⟩, b1⟩
  obtain ⟨B, hB⟩ : ∃ B, B = notA s (s.size + 1) 0 := ⟨_, rfl⟩
  have HB := hidn hB
  clear hB
  go_wp2_with fail
  refine (match_dotC s _ hs).mono ?_
  rintro e w2 ⟨rfl, b2⟩
  have B2 := b1.trans (b2.mono b1.size)
  go_wp2_with fail
  refine (match_notC s _ hs B HB.out).mono ?_
  rintro e w3 ⟨rfl, b3⟩
  have B3 := B2.trans (b3.mono B2.size)
  clear b2 b3 B2 b1
  go_wp2_with fail
  go_loopw [7] (fun hv wr => ∃ (pos fuel : Nat) (h : Bool), hv = .bool h ∧ wr.heap[w3.heap.size]? = some (.stringIter s pos) ∧ Below w.heap.size w wr ∧ (s.size < pos + fuel ∧ 1 ≤ fuel) ∧ Hid (B = (!h && notA s fuel pos))) (fun _ wr => s.size - wr.iterPos w3.heap.size)
  case atStart =>
    have bi : Below w3.heap.size w3 (w3.iter s 0) := (Below.refl _ w3).alloc (Nat.le_refl _) _
    refine ⟨0, s.size + 1, false, rfl, ?_, B3.trans (bi.mono B3.size), ⟨by omega, by omega⟩, hidn (by rw [HB.out]; rfl)⟩
    have := World.iter_heap w3 s 0
    simpa using this
  case round =>
    obtain ⟨pos, fuel, h, rfl, hit, hbw, ⟨hfu, hfu1⟩, HPk⟩ := hrel
    by_cases hp : pos < s.size
    · have hnx : ∀ ty, (Instr.next (.pointer (some ⟨w3.heap.size, 0, none⟩)) true ty).run Try.prog wr = _ := fun ty => Lib.run_next_any_at wr w3.heap.size s pos ty hit hp
      have hwd := width_pos s pos hp
      obtain ⟨fu, rfl⟩ : ∃ fu, fuel = fu + 1 := ⟨fuel - 1, by omega⟩
      have hit2 := Lib.iterAt_heap wr w3.heap.size s pos (pos + (Utf8.decode s pos).2) hit
      have hbw2 := Lib.below_iterAt hbw (k := w3.heap.size) B3.size s (pos + (Utf8.decode s pos).2)
      have hme : ∀ W : World, W.heap[w3.heap.size]? = some (.stringIter s (pos + (Utf8.decode s pos).2)) → s.size - W.iterPos w3.heap.size < s.size - wr.iterPos w3.heap.size := by
        intro W h; simp only [World.iterPos, h, hit]; omega
      have HME := hidn hme
      clear hme
      generalize hW : wr.iterAt w3.heap.size s (pos + (Utf8.decode s pos).2) = wi at *
      have HW := hidn hW
      clear hW
      have HS : Hid (B = (!h && (decide ((Utf8.decode s pos).1 ≠ 97) && notA s fu (pos + (Utf8.decode s pos).2)))) := hidn (by rw [HPk.out]; unfold notA; simp only [runesAll]; rw [if_pos hp])
      generalize hR : (Utf8.decode s pos).1 = rn at *
      have HR := hidn hR
      clear hR HPk
      obtain ⟨q, hq⟩ : ∃ q, q = pos + (Utf8.decode s pos).2 := ⟨_, rfl⟩
      rw [← hq] at hit2 HS HME
      have hq1 : pos + 1 ≤ q := by omega
      clear hq hit
      cases h with
      | true =>
        have hS2 : Hid (B = (!true && notA s fu q)) := hidn (by rw [HS.out]; rfl)
        go_wp2_with fail
        exact ⟨⟨q, fu, true, rfl, hit2, hbw2, ⟨by omega, by omega⟩, hS2⟩, HME.out _ hit2⟩
      | false =>
        by_cases c : rn = 97
        · have g1 : ((rn : Int) == 97) = true := by simp; omega
          have hS2 : Hid (B = (!true && notA s fu q)) := hidn (by rw [HS.out]; simp [c])
          clear c
          go_wp2_with fail
          exact ⟨⟨q, fu, true, rfl, hit2, hbw2, ⟨by omega, by omega⟩, hS2⟩, HME.out _ hit2⟩
        · have g1 : ((rn : Int) == 97) = false := by simp; omega
          have hS2 : Hid (B = (!false && notA s fu q)) := hidn (by rw [HS.out]; simp [c])
          clear c
          go_wp2_with fail
          exact ⟨⟨q, fu, false, rfl, hit2, hbw2, ⟨by omega, by omega⟩, hS2⟩, HME.out _ hit2⟩
    · have hnx : ∀ ty, (Instr.next (.pointer (some ⟨w3.heap.size, 0, none⟩)) true ty).run Try.prog wr = _ := fun ty => Lib.run_next_end_at wr w3.heap.size s pos ty hit hp
      have hBv : B = !h := by
        rw [HPk.out]
        cases fuel with
        | zero => omega
        | succ f => unfold notA; simp only [runesAll]; rw [if_neg hp]; simp
      subst hBv
      cases h with
      | true =>
        go_wp2_with fail
        exact bodyPost_ret (v := .bool true) (by simp [results, Try.results3, go_sem]) rfl ⟨rfl, hbw⟩
      | false =>
        go_wp2_with fail
        exact bodyPost_ret (v := .bool true) (by simp [results, Try.results3, go_sem]) rfl ⟨rfl, hbw⟩
end Go.Proofs.Ytopnhboncacpdaa
