/- ScrubNobody: the law's walk. -/
import Derived.Test.YtcakogfoohbfoaaDoorScD
namespace Go.Proofs.YtcakogfoohbfoaaDoor
open Go.RowKit Go.Maps
set_option linter.unusedVariables false

theorem doCellsG : Tryd.prog.cellsOf 32 = 4 := by kernel_rfl
theorem doCellsA : Tryd.prog.cellsOf 34 = 10 := by kernel_rfl

/-- The group, the anchor, the zero disk and the row of both disks. -/
def NB2 (w : World) (n : Nat) (gs ys : Array Value) : Prop := w.heap[n]? = some (.cells gs 32 (0, 0)) ∧ w.heap[n + 1]? = some (.cells ys 34 (0, 0)) ∧ w.heap[n + 1 + 1]? = some (.cells #[.map none, .int .i64 0, .int .i64 0] 38 (0, 0)) ∧ w.heap[n + 1 + 1 + 1]? = some (.cells #[.pointer none, .pointer (some ⟨n + 1 + 1, 0, none⟩)] 35 (0, 0))

theorem NB2.below {w w' : World} {n : Nat} {gs ys : Array Value} (h : NB2 w n gs ys) (hb : Below w.heap.size w w') : NB2 w' n gs ys := by
  obtain ⟨h1, h2, h3, h4⟩ := h
  exact ⟨(hb.block _ (Array.getElem?_eq_some_iff.1 h1).1).trans h1, (hb.block _ (Array.getElem?_eq_some_iff.1 h2).1).trans h2, (hb.block _ (Array.getElem?_eq_some_iff.1 h3).1).trans h3, (hb.block _ (Array.getElem?_eq_some_iff.1 h4).1).trans h4⟩

theorem NB2.disk {w : World} {n : Nat} {gs ys : Array Value} (h : NB2 w n gs ys) (k : Nat) (hk : k < 2) : ∃ v, w.cell? ⟨n + 1 + 1 + 1, k, none⟩ = some v ∧ Unmade w v := by
  have hc : w.cell? ⟨n + 1 + 1 + 1, k, none⟩ = (#[.pointer none, .pointer (some ⟨n + 1 + 1, 0, none⟩)] : Array Value)[k]? := cell_of_row _ _ _ _ _ _ h.2.2.2
  match k, hk with
  | 0, _ => exact ⟨_, hc, .inl rfl⟩
  | 1, _ => exact ⟨_, hc, .inr ⟨n + 1 + 1, rfl, by rw [cell_of_row _ _ _ _ _ _ h.2.2.1]; rfl, (Array.getElem?_eq_some_iff.1 h.2.2.1).1⟩⟩

theorem NB2.new (w : World) (gs ys : Array Value) : NB2 ((((w.alloc (.cells gs 32)).alloc (.cells ys 34)).alloc (.cells #[.map none, .int .i64 0, .int .i64 0] 38)).alloc (.cells #[.pointer none, .pointer (some ⟨w.heap.size + 1 + 1, 0, none⟩)] 35)) w.heap.size gs ys := by
  have hs : ∀ (w : World) (o : Obj), (w.alloc o).heap = w.heap.push o := fun w o => rfl
  refine ⟨?_, ?_, ?_, ?_⟩ <;> simp only [hs, Array.getElem?_push, Array.size_push]
  · simp
    rw [if_neg (by omega), if_neg (by omega)]
  · simp
  · simp
  · simp

theorem cells4 {w : World} {b : Nat} {t : TypeId} {x0 x1 x2 x3 : Value} (h : w.heap[b]? = some (.cells #[x0, x1, x2, x3] t (0, 0))) :
    w.cell? ⟨b, 0, none⟩ = some x0 ∧ w.cell? ⟨b, 1, none⟩ = some x1 ∧ w.cell? ⟨b, 2, none⟩ = some x2 ∧ w.cell? ⟨b, 3, none⟩ = some x3 :=
  ⟨cell_of_row _ _ _ _ _ _ h, cell_of_row _ _ _ _ _ _ h, cell_of_row _ _ _ _ _ _ h, cell_of_row _ _ _ _ _ _ h⟩

set_option maxHeartbeats 4000000 in
set_option maxRecDepth 100000 in
theorem scrubNobody_walk (x0 x1 x2 x3 y0 y1 y2 y3 y4 y5 y6 y7 y8 y9 : Value) (w : World) :
    Calls Tryd.prog 5 #[.agg #[x0, x1, x2, x3], .agg #[y0, y1, y2, y3, y4, y5, y6, y7, y8, y9]] w fun e w' => e = .returned (.bool true) ∧ Below w.heap.size w w' := by
  go_enter Tryd.func5, Tryd.ntmps5
  go_wp2_with fail
  go_loopw [13] (fun i wr => ∃ k : Nat, k ≤ 2 ∧ i = .int .i64 k ∧ Hid (NB2 wr w.heap.size #[x0, x1, x2, x3] #[y0, y1, y2, y3, y4, y5, y6, y7, y8, y9]) ∧ Hid (Below w.heap.size w wr)) (fun i wr => 2 - (intOf i).toNat)
  case atStart => exact ⟨0, Nat.zero_le _, rfl, hidn (NB2.new w _ _), hidn (((((Below.refl _ w).alloc (Nat.le_refl _) _).alloc (by simp) _).alloc (by simp; omega) _).alloc (by simp; omega) _)⟩
  case round =>
    obtain ⟨k, hk, rfl, HN, HB⟩ := hrel
    by_cases hlt : k < 2
    · obtain ⟨v, hcv, hun⟩ := HN.out.disk k hlt
      have HU := hidn hun
      have hk2 : (k : Int) < 2 := by omega
      obtain ⟨q0, q1, q2, q3⟩ := cells4 HN.out.1
      clear hun
      go_wp2_with fail
      refine (scMend_un _ v HU.out x0 x1 x2 x3).mono ?_
      clear q0 q1 q2 q3
      rintro e w1 ⟨rfl, hb1⟩
      have HU1 := hidn (HU.out.below hb1)
      have HN1 := hidn (HN.out.below hb1)
      have HB1 := hidn (HB.out.trans (hb1.mono HB.out.size))
      clear hb1 hcv
      obtain ⟨q0, q1, q2, q3⟩ := cells4 HN1.out.1
      go_wp2_with fail
      refine (scBad_un _ v HU1.out x0 x1 x2 x3).mono ?_
      clear q0 q1 q2 q3
      rintro e w2 ⟨rfl, hb2⟩
      have HU2 := hidn (HU1.out.below hb2)
      have HN2 := hidn (HN1.out.below hb2)
      have HB2 := hidn (HB1.out.trans (hb2.mono HB1.out.size))
      clear hb2
      obtain ⟨c0, c1, c2, c3, c4, c5, c6, c7, c8, c9⟩ := cells10 HN2.out.2.1
      go_wp2_with fail
      refine (scGroups_un _ v HU2.out y0 y1 y2 y3 y4 y5 y6 y7 y8 y9).mono ?_
      clear c0 c1 c2 c3 c4 c5 c6 c7 c8 c9
      rintro e w3 ⟨rfl, hb3⟩
      have HN3 := hidn (HN2.out.below hb3)
      have HB3 := hidn (HB2.out.trans (hb3.mono HB2.out.size))
      clear hb3
      go_wp2
      go_roundw
      case rel => exact ⟨k + 1, hlt, by simp, HN3, HB3⟩
      case measure => simp [intOf]; omega
    · have hk2 : ¬ (k : Int) < 2 := by omega
      go_wp2_with fail
      refine (awake20_any _).mono ?_
      rintro e w2 ⟨rfl, hb2⟩
      have HB2 := hidn (HB.out.trans (hb2.mono HB.out.size))
      clear hb2
      go_wp2
      go_ret
      exact ⟨rfl, HB2.out⟩
end Go.Proofs.YtcakogfoohbfoaaDoor
