/- The log: a disk that no call made; a record that is cut. -/
import Derived.Test.YtplielcjfmomlaaDoorMh
import Derived.Test.YtplielcjfmomlaaDoorNobody
import Derived.Test.YtplielcjfmomlaaDoorSNobodyWalk
import Derived.Test.YtplielcjfmomlaaDoorDrawn
namespace Go.Proofs.YtplielcjfmomlaaDoor
open Go.RowKit Go.Maps
set_option linter.unusedVariables false

set_option maxHeartbeats 1000000 in
theorem wMade_un (w : World) (v : Value) (h : Unmade w v) :
    Calls Tryd.prog 25 #[v] w fun e w' => e = .returned (.bool false) ∧ Below w.heap.size w w' := by
  go_enter Tryd.func25, Tryd.ntmps25
  go_wp2_with fail
  refine (read_un _ v h _ _).mono ?_
  rintro e w1 ⟨rfl, hb⟩
  go_wp2
  go_ret
  exact ⟨rfl, hb⟩

set_option maxHeartbeats 1000000 in
theorem wAppend_un (w : World) (v : Value) (h : Unmade w v) (y0 y1 y2 y3 : Value) :
    Calls Tryd.prog 9 #[v, y0, y1, y2, y3] w fun e w' => e = .returned (.tuple #[.int .i64 0, .int .i64 2]) ∧ Below w.heap.size w w' := by
  go_enter Tryd.func9, Tryd.ntmps9
  go_wp2_with fail
  refine (wMade_un _ v h).mono ?_
  rintro e w1 ⟨rfl, hb⟩
  go_wp2
  go_ret2
  exact ⟨rfl, hb⟩

set_option maxHeartbeats 1000000 in
theorem wRead_un (w : World) (v : Value) (h : Unmade w v) (y0 y1 : Value) :
    Calls Tryd.prog 20 #[v, y0, y1] w fun e w' => e = .returned (.tuple #[.slice none 0 0, .int .i64 2]) ∧ Below w.heap.size w w' := by
  go_enter Tryd.func20, Tryd.ntmps20
  go_wp2_with fail
  refine (wMade_un _ v h).mono ?_
  rintro e w1 ⟨rfl, hb⟩
  go_wp2
  go_ret2
  exact ⟨rfl, hb⟩

set_option maxHeartbeats 1000000 in
theorem cut_any (w : World) (y0 y1 y2 : Value) (a : Option Addr) (l c : Nat) (hlc : l ≤ c) (m : Nat) (HM : Hid (m = min l 500)) :
    Calls Tryd.prog 16 #[.agg #[y0, y1, y2, .slice a l c]] w fun e w' => e = .returned (.slice a m c) ∧ Below w.heap.size w w' := by
  have m1 : min (l : Int) 500 = (m : Int) := by have := HM.out; omega
  have m2 : (if (500 : Int) < (l : Int) then (500 : Int) else (l : Int)) = (m : Int) := by have := HM.out; split <;> omega
  have m3 : (if 500 < l then (500 : Int) else (l : Int)) = (m : Int) := by have := HM.out; split <;> omega
  have h1 : (m : Int) ≤ (c : Int) := by have := HM.out; omega
  have h2 : m ≤ c := by omega
  have h3 : (0 : Int) ≤ (m : Int) := by omega
  clear HM
  go_enter Tryd.func16, Tryd.ntmps16
  go_wp2
  go_ret
  exact ⟨rfl, (Below.refl _ w).alloc (Nat.le_refl _) _⟩
end Go.Proofs.YtplielcjfmomlaaDoor

namespace Go.Proofs.YtplielcjfmomlaaDoor
open Go.RowKit Go.Maps
set_option linter.unusedVariables false

theorem wcall5 {o : Oper} {a : Act} {w : World} {x y z u s : Nat} {vx vy vz vu vs : Value} (ho : o.op = Op.call { callee := Callee.value (Operand.func 9), args := #[.tmp x, .tmp y, .tmp z, .tmp u, .tmp s], argTypes := #[23, 3, 3, 3, 22] }) (hx : a.eval (.tmp x) = vx) (hy : a.eval (.tmp y) = vy) (hz : a.eval (.tmp z) = vz) (hu : a.eval (.tmp u) = vu) (hs : a.eval (.tmp s) = vs) : (execOp a.eval o).run Tryd.prog w = .ok (.enter 9 #[vx, vy, vz, vu, vs]) w := by
  simp [go_sem, execOp, ho, resolve, invoke]
  exact ⟨by simpa [Act.eval] using hx, by simpa [Act.eval] using hy, by simpa [Act.eval] using hz, by simpa [Act.eval] using hu, by simpa [Act.eval] using hs⟩

theorem wcall1 {o : Oper} {a : Act} {w : World} {x : Nat} {vx : Value} (ho : o.op = Op.call { callee := Callee.value (Operand.func 16), args := #[.tmp x], argTypes := #[38] }) (hx : a.eval (.tmp x) = vx) : (execOp a.eval o).run Tryd.prog w = .ok (.enter 16 #[vx]) w := by
  simp [go_sem, execOp, ho, resolve, invoke]
  simpa [Act.eval] using hx

theorem doCellsc : Tryd.prog.cellsOf 38 = 4 := by kernel_rfl

theorem NB.drew {w : World} {n : Nat} {T : TypeId} {ys : Array Value} (h : NB w n T ys) : NB w.drew n T ys := h

theorem infoRec : (Tryd.prog.info? 38).map (·.size) = some 4 := by kernel_rfl

set_option maxHeartbeats 4000000 in
set_option maxRecDepth 100000 in
theorem walNobody_walk (y0 y1 y2 : Value) (a : Option Addr) (l c : Nat) (hlc : l ≤ c) (w : World)
    (haw : ∀ w', Below w.heap.size w w' → Calls Tryd.prog 15 #[] w' fun e w'' => e = .returned (.bool true) ∧ Below w'.heap.size w' w'') :
    Calls Tryd.prog 7 #[.agg #[y0, y1, y2, .slice a l c]] w fun e w' => e = .returned (.bool true) ∧ Below w.heap.size w w' := by
  have HAW := hidz haw
  clear haw
  obtain ⟨m, hm⟩ : ∃ m, m = min l 500 := ⟨_, rfl⟩
  have HM := hidn hm
  clear hm
  go_enter Tryd.func7, Tryd.ntmps7
  go_wp2
  go_loopw [13] (fun i wr => ∃ k : Nat, k ≤ 2 ∧ i = .int .i64 k ∧ Hid (NB wr w.heap.size 38 #[y0, y1, y2, .slice a l c]) ∧ Below w.heap.size w wr) (fun i wr => 2 - (intOf i).toNat)
  case atStart => exact ⟨0, Nat.zero_le _, rfl, hidz (NB.new w _ _), ((((Below.refl _ w).alloc (Nat.le_refl _) _).alloc (by simp) _).alloc (by simp; omega) _)⟩
  case round =>
    obtain ⟨k, hk, rfl, hN, hbl⟩ := hrel
    by_cases hlt : k < 2
    · obtain ⟨v, hcv, hun⟩ := hN.out.disk k hlt
      have hUN := hidz hun
      clear hun
      have hk2 : (k : Int) < 2 := by omega
      go_wp2_with fail
      refine wp_region_noPanic ?_
      refine wp_region_held_drew (S := fun w' => NB w' w.heap.size 38 #[y0, y1, y2, .slice a l c]) (by kernel_rfl) (hN.out.drew) (fun hHeld => ?_)
      refine drawn_take (i := 0) (v := v) (some 18) rfl rfl (by kernel_rfl) (by kernel_rfl) (by kernel_rfl) (fun _ _ _ h => h) (Or.inl ⟨by kernel_rfl, fun wq hw => by go_simp⟩) hHeld ?_
      simp only [Act.put, List.setIfInBounds_toArray, List.set_cons_succ, List.set_cons_zero]
      refine drawn_take (i := 1) (v := .pointer (some ⟨w.heap.size, 0, none⟩)) (some 19) rfl rfl (by kernel_rfl) (by kernel_rfl) (by kernel_rfl) (fun _ _ _ h => h) (Or.inl ⟨by kernel_rfl, fun wq hw => by go_simp⟩) hHeld ?_
      simp only [Act.put, List.setIfInBounds_toArray, List.set_cons_succ, List.set_cons_zero]
      refine drawn_take (i := 2) (v := y0) (some 20) rfl rfl (by kernel_rfl) (by kernel_rfl) (by kernel_rfl) (fun _ _ _ h => h) (Or.inl ⟨by kernel_rfl, fun wq hw => by have q := hw.field 0 (y := y0) rfl; go_simp⟩) hHeld ?_
      simp only [Act.put, List.setIfInBounds_toArray, List.set_cons_succ, List.set_cons_zero]
      refine drawn_take (i := 3) (v := .pointer (some ⟨w.heap.size, 1, none⟩)) (some 21) rfl rfl (by kernel_rfl) (by kernel_rfl) (by kernel_rfl) (fun _ _ _ h => h) (Or.inl ⟨by kernel_rfl, fun wq hw => by go_simp⟩) hHeld ?_
      simp only [Act.put, List.setIfInBounds_toArray, List.set_cons_succ, List.set_cons_zero]
      refine drawn_take (i := 4) (v := y1) (some 22) rfl rfl (by kernel_rfl) (by kernel_rfl) (by kernel_rfl) (fun _ _ _ h => h) (Or.inl ⟨by kernel_rfl, fun wq hw => by have q := hw.field 1 (y := y1) rfl; go_simp⟩) hHeld ?_
      simp only [Act.put, List.setIfInBounds_toArray, List.set_cons_succ, List.set_cons_zero]
      refine drawn_take (i := 5) (v := .pointer (some ⟨w.heap.size, 2, none⟩)) (some 23) rfl rfl (by kernel_rfl) (by kernel_rfl) (by kernel_rfl) (fun _ _ _ h => h) (Or.inl ⟨by kernel_rfl, fun wq hw => by go_simp⟩) hHeld ?_
      simp only [Act.put, List.setIfInBounds_toArray, List.set_cons_succ, List.set_cons_zero]
      refine drawn_take (i := 6) (v := y2) (some 24) rfl rfl (by kernel_rfl) (by kernel_rfl) (by kernel_rfl) (fun _ _ _ h => h) (Or.inl ⟨by kernel_rfl, fun wq hw => by have q := hw.field 2 (y := y2) rfl; go_simp⟩) hHeld ?_
      simp only [Act.put, List.setIfInBounds_toArray, List.set_cons_succ, List.set_cons_zero]
      refine drawn_take (i := 7) (v := .agg #[y0, y1, y2, .slice a l c]) (some 25) rfl rfl (by kernel_rfl) (by kernel_rfl) (by kernel_rfl) (fun _ _ _ h => h) (yieldsIf_load_mid (by kernel_rfl) 38 (.tmp 1) (by kernel_rfl) w.heap.size 0 (by kernel_rfl) [y0, y1, y2, .slice a l c] _ (fun w h j v hj => by rw [Nat.zero_add]; exact h.field j (by simpa using hj)) Tryd.underlying38 rfl infoRec) hHeld ?_
      simp only [Act.put, List.setIfInBounds_toArray, List.set_cons_succ, List.set_cons_zero]
      refine wpAnyH_ready (rs := [8]) (by kernel_rfl) (by simp) ?_
      refine rdy_call (i := 8) rfl rfl (some 26) rfl 16 #[.agg #[y0, y1, y2, .slice a l c]] (wcall1 (x := 25) rfl (by kernel_rfl)) (fun r w9 => r = .slice a m c ∧ Below wr.heap.size wr w9) ((cut_any _ y0 y1 y2 a l c hlc m HM).mono (by rintro e w9 ⟨rfl, hb9⟩; exact ⟨_, rfl, rfl, (Below.refl _ wr).drew.trans hb9⟩)) (fun r w9 hR => ?_) rdy_nil
      obtain ⟨rfl, hb9⟩ := hR
      refine ⟨hN.out.below hb9, fun hHeld => ?_⟩
      simp only [Act.put, List.setIfInBounds_toArray, List.set_cons_succ, List.set_cons_zero]
      refine wpAnyH_ready (rs := [9]) (by kernel_rfl) (by simp) ?_
      refine rdy_call (i := 9) rfl rfl (some 27) rfl 9 #[v, y0, y1, y2, .slice a m c] (wcall5 (x := 18) (y := 20) (z := 22) (u := 24) (s := 26) rfl (by kernel_rfl) (by kernel_rfl) (by kernel_rfl) (by kernel_rfl) (by kernel_rfl)) (fun r w8 => r = .tuple #[.int .i64 0, .int .i64 2] ∧ Below wr.heap.size wr w8) ((wAppend_un _ v (hUN.out.below hb9) y0 y1 y2 _).mono (by rintro e w8 ⟨rfl, hb8⟩; exact ⟨_, rfl, rfl, hb9.trans (hb8.mono hb9.size)⟩)) (fun r w9 hR => ?_) rdy_nil
      obtain ⟨rfl, hb8⟩ := hR
      refine ⟨hN.out.below hb8, fun hHeld => ?_⟩
      simp only [Act.put, List.setIfInBounds_toArray, List.set_cons_succ, List.set_cons_zero]
      refine drawn_take (i := 10) (v := .tuple #[.int .i64 0, .int .i64 2]) (some 17) rfl rfl (by kernel_rfl) (by kernel_rfl) (by kernel_rfl) (fun _ _ _ h => h) (Or.inl ⟨by kernel_rfl, fun wq hw => by go_simp⟩) hHeld ?_
      simp only [Act.put, List.setIfInBounds_toArray, List.set_cons_succ, List.set_cons_zero]
      refine drawn_take (i := 11) (v := .int .i64 0) (some 28) rfl rfl (by kernel_rfl) (by kernel_rfl) (by kernel_rfl) (fun _ _ _ h => h) (Or.inl ⟨by kernel_rfl, fun wq hw => by go_simp⟩) hHeld ?_
      simp only [Act.put, List.setIfInBounds_toArray, List.set_cons_succ, List.set_cons_zero]
      refine drawn_take (i := 12) (v := .int .i64 2) (some 29) rfl rfl (by kernel_rfl) (by kernel_rfl) (by kernel_rfl) (fun _ _ _ h => h) (Or.inl ⟨by kernel_rfl, fun wq hw => by go_simp⟩) hHeld ?_
      simp only [Act.put, List.setIfInBounds_toArray, List.set_cons_succ, List.set_cons_zero]
      refine drawn_take (i := 13) (v := .int .i64 0) (some 5) rfl rfl (by kernel_rfl) (by kernel_rfl) (by kernel_rfl) (fun _ _ _ h => h) (Or.inl ⟨by kernel_rfl, fun wq hw => by go_simp⟩) hHeld ?_
      simp only [Act.put, List.setIfInBounds_toArray, List.set_cons_succ, List.set_cons_zero]
      refine drawn_take (i := 14) (v := .int .i64 2) (some 6) rfl rfl (by kernel_rfl) (by kernel_rfl) (by kernel_rfl) (fun _ _ _ h => h) (Or.inl ⟨by kernel_rfl, fun wq hw => by go_simp⟩) hHeld ?_
      simp only [Act.put, List.setIfInBounds_toArray, List.set_cons_succ, List.set_cons_zero]
      refine wpAnyH_done (by kernel_rfl) ?_ _
      refine NoPanic.normal ?_
      clear hHeld
      have hN8 := hN.out.below hb8
      have q0 := hN8.field 0 (y := y0) rfl
      have q1 := hN8.field 1 (y := y1) rfl
      have hU8 := hidz (hUN.out.below hb8)
      have B8 := hbl.trans (hb8.mono hbl.size)
      clear hcv
      go_wp2_with fail
      refine (wRead_un _ v hU8.out y0 y1).mono ?_
      rintro e w7 ⟨rfl, hb7⟩
      have HN7 := hidz (hN8.below hb7)
      have B7 := B8.trans (hb7.mono B8.size)
      clear hN8 q0 q1 hb7 B8
      go_wp2
      go_roundw
      case rel => exact ⟨k + 1, hlt, by simp, HN7, B7⟩
      case measure => simp [intOf]; omega
    · have hk2 : ¬ (k : Int) < 2 := by omega
      go_wp2_with fail
      refine (HAW.out _ hbl).mono ?_
      rintro e w2 ⟨rfl, hb2⟩
      go_wp2
      go_ret
      exact ⟨rfl, hbl.trans (hb2.mono hbl.size)⟩
end Go.Proofs.YtplielcjfmomlaaDoor
