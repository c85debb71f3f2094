/- PostingsNobody: a cursor that no call made tells nothing. -/
import Derived.Test.YthmknpdhgfmogabPgG
namespace Go.Proofs.Ythmknpdhgfmogab
open Go.RowKit
set_option linter.unusedVariables false

/-- A cursor that no call made. -/
def NobC (w : World) (v : Value) : Prop := v = .pointer none ∨ ∃ e, v = .pointer (some ⟨e, 0, none⟩) ∧ w.cell? ⟨e, 0, none⟩ = some .nilIface

theorem nobMade (w : World) (v : Value) (h : NobC w v) : Calls Try.prog 32 #[v] w fun e w' => e = .returned (.bool false) ∧ w' = w := by
  have hpn := fun (wx : World) (p : Option Addr) => run_neq_pointer_nil (P := Try.prog) wx 22 p (by kernel_rfl)
  rcases h with rfl | ⟨e, rfl, he⟩
  · go_enter Try.func32, Try.ntmps32
    go_wp2
    go_ret
    exact ⟨rfl, rfl⟩
  · go_enter Try.func32, Try.ntmps32
    go_wp2
    go_ret
    exact ⟨rfl, rfl⟩

theorem nobSeek (w : World) (v : Value) (n : Int) (h : NobC w v) : Calls Try.prog 10 #[v, .int .i64 n] w fun e w' => e = .returned (.tuple #[.int .i64 0, .bool false]) ∧ w' = w := by
  have HM := hidn (nobMade w v h)
  go_enter Try.func10, Try.ntmps10
  go_wp2_with fail
  refine HM.out.mono ?_
  rintro e w1 ⟨rfl, rfl⟩
  go_wp2_with fail
  go_ret2
  exact ⟨rfl, rfl⟩

theorem nobNext (w : World) (v : Value) (h : NobC w v) : Calls Try.prog 9 #[v] w fun e w' => e = .returned (.tuple #[.int .i64 0, .bool false]) ∧ w' = w := by
  have HM := hidn (nobSeek w v (-9223372036854775808) h)
  go_enter Try.func9, Try.ntmps9
  go_wp2_with fail
  refine HM.out.mono ?_
  rintro e w1 ⟨rfl, rfl⟩
  go_wp2_with fail
  go_ret2
  exact ⟨rfl, rfl⟩

theorem nobAll (w : World) (v : Value) (h : NobC w v) : Calls Try.prog 11 #[v] w fun e w' => e = .returned (.slice none 0 0) ∧ w' = w := by
  have HM := hidn (nobNext w v h)
  go_enter Try.func11, Try.ntmps11
  go_wp2_with fail
  refine HM.out.mono ?_
  rintro e w1 ⟨rfl, rfl⟩
  go_wp2_with fail
  go_loopw [3, 5] (fun al ok wr => al = .slice none 0 0 ∧ ok = .bool false ∧ Hid (wr = w1)) (fun _ _ _ => 0)
  case atStart => exact ⟨rfl, rfl, hidn rfl⟩
  case round =>
    obtain ⟨rfl, rfl, HW⟩ := hrel
    have hw := HW.out
    subst hw
    go_wp2_with fail
    go_ret
    exact ⟨rfl, rfl⟩

set_option maxHeartbeats 2000000 in
set_option maxRecDepth 100000 in
theorem postingsNobody_walk (n : Int) (w : World) : Calls Try.prog 3 #[.int .i64 n] w fun e w' => e = .returned (.bool true) ∧ Below w.heap.size w w' := by
  obtain ⟨w1, hw1⟩ : ∃ w1, w1 = (w.alloc (.cells #[.nilIface, .int .i64 0] 26)).alloc (.cells #[.pointer none, .pointer (some ⟨w.heap.size, 0, none⟩)] 22) := ⟨_, rfl⟩
  have b1 : Below w.heap.size w w1 := by rw [hw1]; exact ((Below.refl _ w).alloc (Nat.le_refl _) _).alloc (by simp) _
  have qC : w1.heap[w.heap.size]? = some (.cells #[.nilIface, .int .i64 0] 26 (0, 0)) := by rw [hw1]; exact heap_alloc2_old w _ _
  have qS : w1.heap[w.heap.size + 1]? = some (.cells #[.pointer none, .pointer (some ⟨w.heap.size, 0, none⟩)] 22 (0, 0)) := by rw [hw1]; exact heap_alloc2_new w _ _
  have s0 : w1.cell? ⟨w.heap.size + 1, 0, none⟩ = some (.pointer none) := cell_of_row _ _ _ _ _ _ qS
  have s1 : w1.cell? ⟨w.heap.size + 1, 1, none⟩ = some (.pointer (some ⟨w.heap.size, 0, none⟩)) := cell_of_row _ _ _ _ _ _ qS
  have hc : w1.cell? ⟨w.heap.size, 0, none⟩ = some .nilIface := cell_of_row _ _ _ _ _ _ qC
  have HN : Hid (∀ v, v = .pointer none ∨ v = .pointer (some ⟨w.heap.size, 0, none⟩) → NobC w1 v) := hidn (fun v hv => by
    rcases hv with rfl | rfl
    · exact .inl rfl
    · exact .inr ⟨_, rfl, hc⟩)
  have HW1 := hidn hw1
  have HB1 := hidn b1
  clear hw1 qC qS hc b1
  go_enter Try.func3, Try.ntmps3
  go_wp2_with fail
  rw [← HW1.out]
  go_loopw [13] (fun iv wr => ∃ k : Nat, k ≤ 2 ∧ iv = .int .i64 (k : Int) ∧ Hid (wr = w1)) (fun iv _ => 2 - (intOf iv).toNat)
  case atStart => exact ⟨0, by omega, rfl, hidn rfl⟩
  case round =>
    obtain ⟨k, hk, rfl, HW⟩ := hrel
    have hw := HW.out
    subst hw
    by_cases hlt : k < 2
    · have hlt2 : (k : Int) < 2 := by omega
      obtain ⟨v, hv, hcv⟩ : ∃ v, (v = Value.pointer none ∨ v = .pointer (some ⟨w.heap.size, 0, none⟩)) ∧ wr.cell? ⟨w.heap.size + 1, k, none⟩ = some v := by
        rcases (by omega : k = 0 ∨ k = 1) with rfl | rfl
        · exact ⟨_, .inl rfl, s0⟩
        · exact ⟨_, .inr rfl, s1⟩
      have h1 := hidn (nobNext wr v (HN.out v hv))
      have h2 := hidn (nobSeek wr v n (HN.out v hv))
      have h3 := hidn (nobAll wr v (HN.out v hv))
      clear s0 s1 hv
      go_wp2_with fail
      refine h1.out.mono ?_
      rintro e w2 ⟨rfl, rfl⟩
      go_wp2_with fail
      refine h2.out.mono ?_
      rintro e w3 ⟨rfl, rfl⟩
      go_wp2_with fail
      refine h3.out.mono ?_
      rintro e w4 ⟨rfl, rfl⟩
      go_wp2_with fail
      go_roundw
      case rel => exact ⟨k + 1, by omega, by first | rfl | simp, hidn trivial⟩
      case measure => simp [intOf]; omega
    · have hlt2 : ¬ (k : Int) < 2 := by omega
      have HA := hidn (awake25 wr)
      go_wp2_with fail
      refine HA.out.mono ?_
      rintro e w2 ⟨rfl, b2⟩
      have HB2 := hidn (HB1.out.trans (b2.mono HB1.out.size))
      clear b2
      go_wp2_with fail
      go_ret
      exact ⟨rfl, HB2.out⟩
end Go.Proofs.Ythmknpdhgfmogab
