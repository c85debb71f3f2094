/- The walks of crc.Put and of the document's Put: whatever number and width, the bytes of the number lie in new memory. -/
import Derived.Test.YtidlogeeophogaaDoorChecked
import Derived.WalkKit
import Derived.WalkLawsBesides
import Derived.KernelRfl
import Derived.Test.YtidlogeeophogaaDoorBytes
namespace Go.Proofs.YtidlogeeophogaaDoor
open Go.RowKit
set_option linter.unusedVariables false

set_option maxHeartbeats 1000000 in
theorem put_any (n : Nat) (wd : Int) (k : Nat) (w : World) (hn : n < 18446744073709551616) (hk : (wd < 0 ∧ k = 0) ∨ (0 ≤ wd ∧ wd ≤ 8 ∧ wd = k) ∨ (8 < wd ∧ k = 8)) :
    Calls Tryd.prog 96 #[.int .u64 n, .int .i64 wd] w fun e w' => e = .returned (.slice (some ⟨w.heap.size, 0, none⟩) k k) ∧ w'.ownsRow w.heap.size 5 1 (.slice (some ⟨w.heap.size, 0, none⟩) k k) k (vb (putB n k)) ∧ Below w.heap.size w w' := by
  obtain ⟨i0, hi, hz0, hz1, hz2⟩ := info_parts Tryd.info5
  have h8 : k ≤ 8 := by omega
  rcases hk with ⟨c1, c2⟩ | ⟨c1, c2, rfl⟩ | ⟨c1, c2⟩
  all_goals
    have hkk : Hid _ := c2
    clear c2
    try have hneg : ¬ wd < 0 := by omega
    try have hneg2 : ¬ wd < 8 := by omega
    go_enter Tryd.func96, Tryd.ntmps96
    go_wp2_with (at_make; refine wpList_make_full _ rfl _ _ 79 rfl w.heap.size 5 i0 (.int .u8 0) 1 Tryd.underlying79 hi hz0 hz1 _ _ _ _ k rfl rfl (by have := hkk.out; omega) (by have := hkk.out; omega) (by rw [hz2]; omega) (by unfold maxLen; omega) (Nat.le_refl _) ?_; intro w1 hown1 hgrow1)
    go_loopw [0, 6] (fun nv iv wr => ∃ (m nj : Nat) (suf : List Nat), nv = .int .u64 nj ∧ iv = .int .i64 ((m : Int) - 1) ∧ m ≤ k ∧ nj < 18446744073709551616 ∧ putB nj m ++ suf = putB n k ∧
        wr.ownsRow w.heap.size 5 1 (Value.slice (some { block := w.heap.size, off := 0 }) k k) k (List.replicate m (.int .u8 0) ++ vb suf) ∧ Below w.heap.size w wr)
      (fun _ iv _ => (intOf iv + 1).toNat)
    case atStart =>
      refine ⟨k, n, [], rfl, congrArg (Value.int .i64) (by have := hkk.out; omega), Nat.le_refl _, hn, by simp, ?_, (Below.refl _ _).grown hgrow1 (Nat.le_refl _) (by simp)⟩
      have e : (madeCells (Value.int IntKind.u8 0).cells (k * 1)).toList = List.replicate k (Value.int .u8 0) := by rw [Nat.mul_one]; exact toList_madeCells_one _ _
      rw [e] at hown1
      simpa [vb] using hown1
    case round =>
      obtain ⟨m, nj, suf, rfl, rfl, hm, hnj, hput, hown, hbel⟩ := hrel
      have hput1 : Hid (_ = _) := hput
      clear hput
      by_cases hm0 : 0 < m
      · obtain ⟨m', rfl⟩ : ∃ m', m = m' + 1 := ⟨m - 1, by omega⟩
        have hfz := hown.frozenAt m'
        have hce := hown.cellAt m' (by omega)
        rw [List.getElem?_append_left (by simp), List.getElem?_replicate_of_lt (by omega)] at hce
        go_wp2
        go_roundw
        case rel =>
          have hst := hown.stored m' (.int .u8 ((nj % 256 : Nat) : Int))
          rw [put_set] at hst
          refine ⟨m', nj / 256, (nj % 256) :: suf, by go_num, rfl, by omega, by omega, ?_, hst.1, hbel.setCell (by simp) _⟩
          rw [← hput1.out, putB]; simp
        case measure => simp [intOf]
      · obtain rfl : m = 0 := by omega
        go_wp2
        go_ret
        have := hput1.out
        simp only [putB, List.nil_append] at this
        subst this
        exact ⟨rfl, by simpa using hown, hbel⟩

end Go.Proofs.YtidlogeeophogaaDoor
