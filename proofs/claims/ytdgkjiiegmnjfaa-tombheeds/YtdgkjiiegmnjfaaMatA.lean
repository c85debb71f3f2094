/- match: which matchers may be. -/
import Derived.Test.YtdgkjiiegmnjfaaRxAny
import Derived.Test.YtdgkjiiegmnjfaaLabName
namespace Go.Proofs.Ytdgkjiiegmnjfaa
open Go.RowKit Go.Joins
set_option linter.unusedVariables false

structure Mat where
  k : Int
  n : ByteArray
  v : ByteArray
def plainM (s : ByteArray) : Bool := runesAll (fun r => decide (¬ r < 32 ∧ r ≠ 127)) s (s.size + 1) 0
def valM (k : Int) (v : ByteArray) : Bool := if k = 1 ∨ k = 2 then decide (v.size = 0) || valueOK v else if k = 3 ∨ k = 4 then decide (checkS v = 0) && plainM v else false
def canM (m : Mat) : Bool := nameOK m.n && valM m.k m.v

set_option maxHeartbeats 2000000 in
set_option maxRecDepth 100000 in
theorem isPlain_any (s : ByteArray) (w : World) (hs : s.size ≤ maxLen) :
    Calls Try.prog 37 #[.string s] w fun e w' => e = .returned (.bool (plainM s)) ∧ Below w.heap.size w w' := by
  unfold maxLen at hs
  obtain ⟨Z, hZ⟩ : ∃ Z, Z = plainM s := ⟨_, rfl⟩
  rw [← hZ]
  have HZ : Hid (Z = runesAll (fun r => decide (¬ r < 32 ∧ r ≠ 127)) s (s.size + 1) 0) := hidn hZ
  clear hZ
  go_enter Try.func37, Try.ntmps37
  go_wp2
  go_loopw [] (fun wr => ∃ pos fuel : Nat, wr.heap[w.heap.size]? = some (.stringIter s pos) ∧ Below w.heap.size w wr ∧ (s.size < pos + fuel ∧ 1 ≤ fuel) ∧ Hid (Z = runesAll (fun r => decide (¬ r < 32 ∧ r ≠ 127)) s fuel pos)) (fun wr => s.size - wr.iterPos w.heap.size)
  case atStart =>
    refine ⟨0, s.size + 1, ?_, (Below.refl _ w).alloc (Nat.le_refl _) _, ⟨by omega, by omega⟩, HZ⟩
    have := World.iter_heap w s 0
    simpa using this
  case round =>
    obtain ⟨pos, fuel, hit, hbw, ⟨hfu, hfu1⟩, HPk⟩ := hrel
    by_cases hp : pos < s.size
    · have hnx : ∀ ty, (Instr.next (.pointer (some ⟨w.heap.size, 0, none⟩)) true ty).run Try.prog wr = _ := fun ty => Lib.run_next_any_at wr w.heap.size s pos ty hit hp
      have hwd := width_pos s pos hp
      obtain ⟨fu, rfl⟩ : ∃ fu, fuel = fu + 1 := ⟨fuel - 1, by omega⟩
      have hit2 := Lib.iterAt_heap wr w.heap.size s pos (pos + (Utf8.decode s pos).2) hit
      have hbw2 := Lib.below_iterAt hbw (k := w.heap.size) (Nat.le_refl _) s (pos + (Utf8.decode s pos).2)
      have hme : ∀ W : World, W.heap[w.heap.size]? = some (.stringIter s (pos + (Utf8.decode s pos).2)) → s.size - W.iterPos w.heap.size < s.size - wr.iterPos w.heap.size := by
        intro W h; simp only [World.iterPos, h, hit]; omega
      have HME := hidn hme
      clear hme
      generalize hW : wr.iterAt w.heap.size s (pos + (Utf8.decode s pos).2) = wi at *
      have HW := hidn hW
      clear hW
      have HS : Hid (Z = (decide (¬ (Utf8.decode s pos).1 < 32 ∧ (Utf8.decode s pos).1 ≠ 127) && runesAll (fun r => decide (¬ r < 32 ∧ r ≠ 127)) s fu (pos + (Utf8.decode s pos).2))) := hidn (by rw [HPk.out]; simp only [runesAll]; rw [if_pos hp])
      generalize hR : (Utf8.decode s pos).1 = rn at *
      have HR := hidn hR
      clear hR HPk
      obtain ⟨q, hq⟩ : ∃ q, q = pos + (Utf8.decode s pos).2 := ⟨_, rfl⟩
      rw [← hq] at hit2 HS HME
      have hq1 : pos + 1 ≤ q := by omega
      clear hq hit
      by_cases c1 : rn < 32
      · have g1 : (rn : Int) < 32 := by omega
        have hS2 : Hid (Z = false) := hidn (by rw [HS.out]; simp [c1])
        clear c1
        go_wp2
        exact bodyPost_ret (v := .bool false) (by simp [results, Try.results37, go_sem]) rfl ⟨by rw [hS2.out], hbw2⟩
      · have g1 : ¬ (rn : Int) < 32 := by omega
        have g1' : decide ((rn : Int) < 32) = false := decide_eq_false g1
        by_cases c2 : rn = 127
        · have g2 : ((rn : Int) == 127) = true := by simp; omega
          have hS2 : Hid (Z = false) := hidn (by rw [HS.out]; simp [c2])
          clear c2 c1
          go_wp2
          exact bodyPost_ret (v := .bool false) (by simp [results, Try.results37, go_sem]) rfl ⟨by rw [hS2.out], hbw2⟩
        · have g2 : ((rn : Int) == 127) = false := by simp; omega
          have hS2 : Hid (Z = runesAll (fun r => decide (¬ r < 32 ∧ r ≠ 127)) s fu q) := hidn (by rw [HS.out, decide_eq_true ⟨c1, c2⟩]; rfl)
          clear c2 c1
          go_wp2
          exact ⟨⟨q, fu, hit2, hbw2, ⟨by omega, by omega⟩, hS2⟩, HME.out _ hit2⟩
    · have hnx : ∀ ty, (Instr.next (.pointer (some ⟨w.heap.size, 0, none⟩)) true ty).run Try.prog wr = _ := fun ty => Lib.run_next_end_at wr w.heap.size s pos ty hit hp
      have hPv : Hid (Z = true) := hidn (by
        rw [HPk.out]
        cases fuel with
        | zero => rfl
        | succ f => simp only [runesAll]; rw [if_neg hp])
      go_wp2
      exact bodyPost_ret (v := .bool true) (by simp [results, Try.results37, go_sem]) rfl ⟨by rw [hPv.out], hbw⟩
end Go.Proofs.Ytdgkjiiegmnjfaa
