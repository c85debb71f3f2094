/- StripeNobody: the law's walk. -/
import Derived.Test.YthnnpgleljfgjaaDoorNobody
namespace Go.Proofs.YthnnpgleljfgjaaDoor
open Go.RowKit Go.Maps
set_option linter.unusedVariables false

theorem hidz {p : Prop} (h : p) : Hid p := h
theorem len_cons {n : Nat} (l : List Value) (h : l.length = n + 1) : ∃ a t, l = a :: t ∧ t.length = n := by
  cases l with
  | nil => simp at h
  | cons a t => exact ⟨a, t, rfl, by simpa using h⟩
theorem doCells6 : Tryd.prog.cellsOf 47 = 15 := by kernel_rfl

def NB (w : World) (n : Nat) (T : TypeId) (ys : Array Value) : Prop := w.heap[n]? = some (.cells ys T (0, 0)) ∧ w.heap[n + 1]? = some (.cells #[.map none, .int .i64 0, .int .i64 0] 31 (0, 0)) ∧ w.heap[n + 1 + 1]? = some (.cells #[.pointer none, .pointer (some ⟨n + 1, 0, none⟩)] 28 (0, 0))
theorem NB.below {w w' : World} {n : Nat} {T : TypeId} {ys : Array Value} (h : NB w n T ys) (hb : Below w.heap.size w w') : NB w' n T ys := by
  obtain ⟨h1, h2, h3⟩ := h
  exact ⟨(hb.block _ (Array.getElem?_eq_some_iff.1 h1).1).trans h1, (hb.block _ (Array.getElem?_eq_some_iff.1 h2).1).trans h2, (hb.block _ (Array.getElem?_eq_some_iff.1 h3).1).trans h3⟩
theorem NB.field {w : World} {n : Nat} {T : TypeId} {ys : Array Value} (h : NB w n T ys) (j : Nat) {y : Value} (hj : ys[j]? = some y) : w.cell? ⟨n, j, none⟩ = some y := by
  rw [cell_of_row _ _ _ _ _ _ h.1]; exact hj
theorem NB.disk {w : World} {n : Nat} {T : TypeId} {ys : Array Value} (h : NB w n T ys) (k : Nat) (hk : k < 2) : ∃ v, w.cell? ⟨n + 1 + 1, k, none⟩ = some v ∧ Unmade w v := by
  have hc : w.cell? ⟨n + 1 + 1, k, none⟩ = (#[.pointer none, .pointer (some ⟨n + 1, 0, none⟩)] : Array Value)[k]? := cell_of_row _ _ _ _ _ _ h.2.2
  match k, hk with
  | 0, _ => exact ⟨_, hc, .inl rfl⟩
  | 1, _ => exact ⟨_, hc, .inr ⟨n + 1, rfl, by rw [cell_of_row _ _ _ _ _ _ h.2.1]; rfl, (Array.getElem?_eq_some_iff.1 h.2.1).1⟩⟩
theorem NB.new (w : World) (T : TypeId) (ys : Array Value) : NB (((w.alloc (.cells ys T)).alloc (.cells #[.map none, .int .i64 0, .int .i64 0] 31)).alloc (.cells #[.pointer none, .pointer (some ⟨w.heap.size + 1, 0, none⟩)] 28)) w.heap.size T ys := by
  have hs : ∀ (w : World) (o : Obj), (w.alloc o).heap = w.heap.push o := fun w o => rfl
  refine ⟨?_, ?_, ?_⟩
  · rw [hs, Array.getElem?_push, if_neg (by rw [hs, hs, Array.size_push, Array.size_push]; omega), hs, Array.getElem?_push, if_neg (by rw [hs, Array.size_push]; omega), hs, Array.getElem?_push, if_pos rfl]
  · rw [hs, Array.getElem?_push, if_neg (by rw [hs, hs, Array.size_push, Array.size_push]; omega), hs, Array.getElem?_push, if_pos (by rw [hs, Array.size_push])]
  · rw [hs, Array.getElem?_push, if_pos (by rw [hs, hs, Array.size_push, Array.size_push])]

set_option maxHeartbeats 4000000 in
set_option maxRecDepth 100000 in
theorem stripeNobody_walk (y0 y1 y2 y3 y4 y5 y6 y7 y8 y9 y10 y11 y12 y13 y14 : Value) (w : World)
    (haw : ∀ w', Below w.heap.size w w' → Calls Tryd.prog 16 #[] w' fun e w'' => e = .returned (.bool true) ∧ Below w'.heap.size w' w'') :
    Calls Tryd.prog 4 #[.agg #[y0, y1, y2, y3, y4, y5, y6, y7, y8, y9, y10, y11, y12, y13, y14]] w fun e w' => e = .returned (.bool true) ∧ Below w.heap.size w w' := by
  have HAW := hidz haw
  clear haw
  go_enter Tryd.func4, Tryd.ntmps4
  go_wp2
  go_loopw [13] (fun i wr => ∃ k : Nat, k ≤ 2 ∧ i = .int .i64 k ∧ Hid (NB wr w.heap.size 47 #[y0, y1, y2, y3, y4, y5, y6, y7, y8, y9, y10, y11, y12, y13, y14]) ∧ Below w.heap.size w wr) (fun i wr => 2 - (intOf i).toNat)
  case atStart => exact ⟨0, Nat.zero_le _, rfl, hidz (NB.new w _ _), ((((Below.refl _ w).alloc (Nat.le_refl _) _).alloc (by simp) _).alloc (by simp; omega) _)⟩
  case round =>
    obtain ⟨k, hk, rfl, hN, hbl⟩ := hrel
    by_cases hlt : k < 2
    · obtain ⟨v, hcv, hun⟩ := hN.out.disk k hlt
      have hUN := hidz hun
      clear hun
      have ca1 := hN.out.field 1 (y := y1) rfl
      have ca2 := hN.out.field 2 (y := y2) rfl
      have ca3 := hN.out.field 3 (y := y3) rfl
      have ca4 := hN.out.field 4 (y := y4) rfl
      have ca5 := hN.out.field 5 (y := y5) rfl
      have ca6 := hN.out.field 6 (y := y6) rfl
      go_wp2_with fail
      refine (sPart_un _ v hUN.out y5 y2 y3 y4).mono ?_
      rintro e w1 ⟨rfl, b1⟩
      have B1 := hbl.trans (b1.mono hbl.size)
      have hN1 := hidz (hN.out.below b1)
      have hU1 := hidz (hUN.out.below b1)
      clear hcv
      clear ca1 ca2 ca3 ca4 ca5 ca6
      have cb1 := hN1.out.field 1 (y := y1) rfl
      have cb2 := hN1.out.field 2 (y := y2) rfl
      have cb3 := hN1.out.field 3 (y := y3) rfl
      have cb4 := hN1.out.field 4 (y := y4) rfl
      have cb5 := hN1.out.field 5 (y := y5) rfl
      have cb6 := hN1.out.field 6 (y := y6) rfl
      go_wp2_with fail
      refine (sMend_un _ v hU1.out y5 y2 y1).mono ?_
      rintro e w2 ⟨rfl, b2⟩
      have B2 := B1.trans (b2.mono B1.size)
      have hN2 := hidz (hN1.out.below b2)
      have hU2 := hidz (hU1.out.below b2)
      clear cb1 cb2 cb3 cb4 cb5 cb6
      have cc1 := hN2.out.field 1 (y := y1) rfl
      have cc2 := hN2.out.field 2 (y := y2) rfl
      have cc3 := hN2.out.field 3 (y := y3) rfl
      have cc4 := hN2.out.field 4 (y := y4) rfl
      have cc5 := hN2.out.field 5 (y := y5) rfl
      have cc6 := hN2.out.field 6 (y := y6) rfl
      go_wp2_with fail
      refine (sStore_un _ v hU2.out y5 y2 y6).mono ?_
      rintro e w3 ⟨rfl, b3⟩
      have B3 := B2.trans (b3.mono B2.size)
      have hN3 := hidz (hN2.out.below b3)
      have hU3 := hidz (hU2.out.below b3)
      clear cc1 cc2 cc3 cc4 cc5 cc6
      have cd1 := hN3.out.field 1 (y := y1) rfl
      have cd2 := hN3.out.field 2 (y := y2) rfl
      have cd3 := hN3.out.field 3 (y := y3) rfl
      have cd4 := hN3.out.field 4 (y := y4) rfl
      have cd5 := hN3.out.field 5 (y := y5) rfl
      have cd6 := hN3.out.field 6 (y := y6) rfl
      go_wp2_with fail
      refine (sDrop_un _ v hU3.out y5).mono ?_
      rintro e w4 ⟨rfl, b4⟩
      have B4 := B3.trans (b4.mono B3.size)
      have hN4 := hidz (hN3.out.below b4)
      have hU4 := hidz (hU3.out.below b4)
      clear cd1 cd2 cd3 cd4 cd5 cd6
      go_wp2
      exact ⟨⟨k + 1, by omega, by go_num, hN4, B4⟩, by simp [intOf]; omega⟩
    · have hnl : ¬ (k : Int) < 2 := by omega
      go_wp2_with fail
      refine (HAW.out _ hbl).mono ?_
      rintro e w1 ⟨rfl, b1⟩
      go_wp2
      go_ret
      exact ⟨rfl, hbl.trans (b1.mono hbl.size)⟩
end Go.Proofs.YthnnpgleljfgjaaDoor
