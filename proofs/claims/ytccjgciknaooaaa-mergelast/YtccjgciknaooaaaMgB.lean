/- merge: rise, canMerge, ahead, above. -/
import Derived.Test.YtccjgciknaooaaaMgA
namespace Go.Proofs.Ytccjgciknaooaaa
open Go.RowKit Go.Joins
set_option linter.unusedVariables false

/-- Whether the samples' times rise. -/
def riseB (l : List Sam) : Bool := (List.range l.length).all fun i => decide (i = 0) || decide ((samD l (i - 1)).t < (samD l i).t)

theorem riseB_no {l : List Sam} (k : Nat) (hk : k + 1 < l.length) (h : (samD l (k + 1)).t ≤ (samD l k).t) : riseB l = false := by
  unfold riseB
  rw [List.all_eq_false]
  exact ⟨k + 1, by simpa using hk, by simp; omega⟩

theorem riseB_yes {l : List Sam} (h : ∀ k, k + 1 < l.length → (samD l k).t < (samD l (k + 1)).t) : riseB l = true := by
  unfold riseB
  rw [List.all_eq_true]
  intro i hi
  cases i with
  | zero => rfl
  | succ k =>
    have := h k (by simpa using hi)
    simp; omega

set_option maxHeartbeats 4000000 in
set_option maxRecDepth 100000 in
theorem rise_any (a : Option Addr) (len cap : Nat) (l : List Sam) (w : World) (h : Sm w a len l) :
    Calls Try.prog 28 #[.slice a len cap] w fun e w' => e = .returned (.bool (riseB l)) ∧ Below w.heap.size w w' := by
  have HL := hidn h.1
  have H := hidn h
  have hlm := h.2.1
  unfold maxLen at hlm
  clear h
  go_enter Try.func28, Try.ntmps28
  go_wp2_with fail
  go_loopw [7] (fun iv wr => ∃ k : Nat, k ≤ len ∧ iv = .int .i64 (k : Int) ∧ Hid (Below w.heap.size w wr) ∧ Hid (∀ i, i + 1 < k → (samD l i).t < (samD l (i + 1)).t)) (fun iv _ => len - (intOf iv).toNat)
  case atStart => exact ⟨0, Nat.zero_le _, rfl, hidn (Below.refl _ _), hidn (fun i hi => by omega)⟩
  case round =>
    obtain ⟨k, hk, rfl, HB, HK⟩ := hrel
    by_cases hlt : k < len
    · have hlt2 : (k : Int) < (len : Int) := by omega
      obtain ⟨b, off, rfl, hb, hcl⟩ := H.out.pos (by omega)
      have hcw : ∀ w' : World, Below w.heap.size w w' → ∀ j, j < len → w'.cell? ⟨b, off + j * 2, none⟩ = some (.int .i64 (samD l j).t) ∧ w'.cell? ⟨b, off + j * 2 + 1, none⟩ = some (.int .u64 ((samD l j).v : Int)) := fun w' hw' j hj => ⟨(hw'.cell (p := ⟨b, off + j * 2, none⟩) hb).trans (hcl j hj).1, (hw'.cell (p := ⟨b, off + j * 2 + 1, none⟩) hb).trans (hcl j hj).2⟩
      have HCW := hidn hcw
      obtain ⟨c0, c1⟩ := hcw wr HB.out k hlt
      obtain ⟨tk, htk⟩ : ∃ tk, tk = (samD l k).t := ⟨_, rfl⟩
      obtain ⟨vk, hvk⟩ : ∃ vk, vk = (samD l k).v := ⟨_, rfl⟩
      rw [← htk] at c0
      rw [← hvk] at c1
      obtain ⟨w1, hw1⟩ : ∃ w1, w1 = wr.alloc (.cells #[.int .i64 tk, .int .u64 (vk : Int)] 36) := ⟨_, rfl⟩
      have hb1 : Below w.heap.size wr w1 := by rw [hw1]; exact (Below.refl _ wr).alloc HB.out.size _
      have q1 : w1.heap[wr.heap.size]? = some (.cells #[.int .i64 tk, .int .u64 (vk : Int)] 36 (0, 0)) := by rw [hw1]; exact heap_alloc_new wr _
      have HB1 := hidn (HB.out.trans hb1)
      have HW1 := hidn hw1
      have HTK := hidn htk
      cases k with
      | zero =>
        have HK1 : Hid (∀ i, i + 1 < 1 → (samD l i).t < (samD l (i + 1)).t) := hidn (fun i hi => by omega)
        have c0' : wr.cell? ⟨b, off, none⟩ = some (.int .i64 tk) := c0
        have c1' : wr.cell? ⟨b, off + 1, none⟩ = some (.int .u64 (vk : Int)) := c1
        clear htk hvk hcl hcw c0 c1 hw1 hb1
        go_wp2_with fail
        rw [← HW1.out]
        go_region
        go_wp2_with fail
        go_roundw
        case rel => exact ⟨1, by omega, by first | rfl | simp, hidn (HB1.out.trans ⟨rfl, rfl, rfl, Nat.le_refl _, fun _ _ => rfl⟩), HK1⟩
        case measure => simp [intOf]; omega
      | succ j =>
        have hjl : j < len := by omega
        have hjl2 : (j : Int) < (len : Int) := by omega
        have hj0 : (0 : Int) < (j : Int) + 1 := by omega
        have hjn : ¬ (j : Int) < 0 := by omega
        have hj1 : (j : Int) + 1 - 1 = (j : Int) := by omega
        obtain ⟨d0, _⟩ := hcw w1 HB1.out j hjl
        obtain ⟨tj, htj⟩ : ∃ tj, tj = (samD l j).t := ⟨_, rfl⟩
        rw [← htj] at d0
        have e0 : w1.cell? ⟨wr.heap.size, 0, none⟩ = some (.int .i64 tk) := cell_of_row _ _ _ _ _ _ q1
        have HTJ := hidn htj
        by_cases hge : tk ≤ tj
        · have HC : Hid (riseB l = false) := hidn (riseB_no j (by rw [HL.out]; exact hlt) (by rw [← HTJ.out, ← HTK.out]; exact hge))
          clear htk hvk hcl hcw hw1 hb1 htj q1
          go_wp2_with fail
          rw [← HW1.out]
          go_region
          go_wp2_with fail
          go_ret
          exact ⟨by rw [HC.out]; rfl, HB1.out.trans ⟨rfl, rfl, rfl, Nat.le_refl _, fun _ _ => rfl⟩⟩
        · have HK1 : Hid (∀ i, i + 1 < j + 1 + 1 → (samD l i).t < (samD l (i + 1)).t) := hidn (fun i hi => by
            by_cases hij : i = j
            · subst hij
              rw [← HTJ.out, ← HTK.out]; omega
            · exact HK.out i (by omega))
          clear htk hvk hcl hcw hw1 hb1 htj q1
          go_wp2_with fail
          rw [← HW1.out]
          go_region
          go_wp2_with fail
          go_roundw
          case rel => exact ⟨j + 1 + 1, by omega, by first | rfl | simp, hidn (HB1.out.trans ⟨rfl, rfl, rfl, Nat.le_refl _, fun _ _ => rfl⟩), HK1⟩
          case measure => simp [intOf]; omega
    · have hlt2 : ¬ (k : Int) < (len : Int) := by omega
      have HC : Hid (riseB l = true) := hidn (riseB_yes (fun i hi => HK.out i (by rw [HL.out] at hi; omega)))
      go_wp2_with fail
      go_ret
      exact ⟨by rw [HC.out]; rfl, HB.out⟩
end Go.Proofs.Ytccjgciknaooaaa
