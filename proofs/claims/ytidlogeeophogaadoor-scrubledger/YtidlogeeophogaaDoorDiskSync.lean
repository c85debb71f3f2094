/- An extent's sync, and the disk's Sync. -/
import Derived.Test.YtidlogeeophogaaDoorDiskWrite
namespace Go.Proofs.YtidlogeeophogaaDoor
open Go.RowKit Go.Maps
set_option linter.unusedVariables false

/-- What a sync leaves of an extent. -/
def Ext.synced (x : Ext) : Ext := if x.waits then ⟨x.wri, x.wri, x.wri, false⟩ else x
theorem Ext.synced_ok {x : Ext} (h : x.ok) : x.synced.ok := by
  unfold Ext.synced
  split
  · exact ⟨h.2.2, h.2.2, h.2.2⟩
  · exact h
theorem store_run {o : Oper} {a : Act} {w w' : World} {ty : TypeId} {x y : Operand} {vx vy : Value} (ho : o.op = Op.store ty x y) (hx : a.eval x = vx) (hy : a.eval y = vy) (hr : (Instr.storeAt ty vx vy).run Tryd.prog w = .ok () w') : (execOp a.eval o).run Tryd.prog w = .ok .skip w' := by
  simp [execOp, ho, hx, hy, hr, Result.andThen]

set_option maxHeartbeats 2000000 in
theorem sync_wait (w : World) (g o : Nat) (wr : List Nat) (hl : wr.length = 128) (hR : w.rangeAt g (o + 256) (vb wr)) (hT1 : w.there g o 128) (hT2 : w.there g (o + 128) 128) (hT3 : w.there g (o + 384) 1) (hb : w.cell? ⟨g, o + 384, none⟩ = some (.bool true)) :
    Calls Tryd.prog 72 #[.pointer (some ⟨g, o, none⟩)] w fun e w' => e = .returned (.tuple #[]) ∧ w' = ((w.drew.setCells g o (vb wr)).setCells g (o + 128) (vb wr)).setCells g (o + 384) [.bool false] := by
  have HSL : Hid ((Tryd.prog.info? 116).map (·.size) = some (vb wr).length) := hidn (by rw [(zero_of_info Tryd.infoImage).2, length_vb, hl])
  have HSZ : Hid ((Tryd.prog.info? 116).map (·.size) = some (vb wr).toArray.size) := hidn (by rw [(zero_of_info Tryd.infoImage).2]; simp [length_vb, hl])
  have hlv : (vb wr).toArray.size = 128 := by simp [length_vb, hl]
  have e1 : (Instr.storeAt 116 (.pointer (some ⟨g, o, none⟩)) (.agg (vb wr).toArray)).run Tryd.prog w.drew = .ok () (w.drew.setCells g o (vb wr)) := run_storeAt_mid _ _ _ _ _ (by rw [hlv]; exact hT1) HSZ.out image_all
  have t2 : (w.drew.setCells g o (vb wr)).there g (o + 128) 128 := World.there_setCells (show w.drew.there g (o + 128) 128 from hT2) _ _ _
  have e2 : (Instr.storeAt 116 (.pointer (some ⟨g, o + 128, none⟩)) (.agg (vb wr).toArray)).run Tryd.prog (w.drew.setCells g o (vb wr)) = .ok () ((w.drew.setCells g o (vb wr)).setCells g (o + 128) (vb wr)) := run_storeAt_mid _ _ _ _ _ (by rw [hlv]; exact t2) HSZ.out image_all
  have t3 : ((w.drew.setCells g o (vb wr)).setCells g (o + 128) (vb wr)).there g (o + 384) 1 := World.there_setCells (World.there_setCells (show w.drew.there g (o + 384) 1 from hT3) _ _ _) _ _ _
  have HR0 := hidn (show w.drew.rangeAt g (o + 256) (vb wr) from hR)
  have HR1 := hidn (World.rangeAt_setCells_apart HR0.out g o (vb wr) (Or.inr (Or.inr (by rw [length_vb, hl]; omega))))
  have HR2 := hidn (World.rangeAt_setCells_apart HR1.out g (o + 128) (vb wr) (Or.inr (Or.inr (by rw [length_vb, hl]; omega))))
  have HR3 := hidn (World.rangeAt_setCells_apart HR2.out g (o + 384) [.bool false] (Or.inr (Or.inl (by rw [length_vb, hl]; omega))))
  have c3 : ∃ v, ((w.drew.setCells g o (vb wr)).setCells g (o + 128) (vb wr)).cell? ⟨g, o + 384, none⟩ = some v := Option.isSome_iff_exists.1 (by simpa using (t3 0 (by omega)).1)
  have f3 : ((w.drew.setCells g o (vb wr)).setCells g (o + 128) (vb wr)).frozen? ⟨g, o + 384, none⟩ = false := by simpa using (t3 0 (by omega)).2
  obtain ⟨v3, c3⟩ := c3
  have e3 : (Instr.storeAt 4 (.pointer (some ⟨g, o + 384, none⟩)) (.bool false)).run Tryd.prog ((w.drew.setCells g o (vb wr)).setCells g (o + 128) (vb wr)) = .ok () (((w.drew.setCells g o (vb wr)).setCells g (o + 128) (vb wr)).setCells g (o + 384) [.bool false]) := by
    generalize (w.drew.setCells g o (vb wr)).setCells g (o + 128) (vb wr) = wx at c3 f3 ⊢
    clear e1 e2 HR1 HR2 HR3 t2 t3 HR0
    show _ = Result.ok () (wx.setCell ⟨g, o + 384, none⟩ (.bool false))
    go_simp
  obtain ⟨w0, hw0⟩ : ∃ w0, w0 = w.drew := ⟨_, rfl⟩
  rw [← hw0] at e1 e2 e3 HR0 HR1 HR2 HR3 ⊢
  obtain ⟨w1, hw1⟩ : ∃ w1, w1 = w0.setCells g o (vb wr) := ⟨_, rfl⟩
  rw [← hw1] at e1 e2 e3 HR1 HR2 HR3 ⊢
  obtain ⟨w2, hw2⟩ : ∃ w2, w2 = w1.setCells g (o + 128) (vb wr) := ⟨_, rfl⟩
  rw [← hw2] at e2 e3 HR2 HR3 ⊢
  obtain ⟨w3, hw3⟩ : ∃ w3, w3 = w2.setCells g (o + 384) [.bool false] := ⟨_, rfl⟩
  rw [← hw3] at e3 HR3 ⊢
  have HW0 := hidn hw0
  clear hw0 hw1 hw2 hw3 c3 f3 t2 t3 hT1 hT2 hT3 hR hl hlv
  go_enter Tryd.func72, Tryd.ntmps72
  go_wp2_with fail
  refine wp_region_noPanic ?_
  refine wp_region_held_drew (S := fun w' => w'.rangeAt g (o + 256) (vb wr)) (by kernel_rfl) (HW0.out ▸ HR0.out) (fun hHeld => ?_)
  rw [← HW0.out]
  rw [← HW0.out] at hHeld
  refine wpAnyH_take (i := 0) (v := Value.pointer (some ⟨g, o, none⟩)) rfl (by kernel_rfl) (by kernel_rfl) (by kernel_rfl) (fun _ _ _ h => h) (Or.inl ⟨by rfl, fun w hw => by go_simp⟩) hHeld ?_
  refine wpAnyH_take (i := 1) (v := Value.pointer (some ⟨g, o, none⟩)) rfl (by kernel_rfl) (by kernel_rfl) (by kernel_rfl) (fun _ _ _ h => h) (Or.inl ⟨by rfl, fun w hw => by go_simp⟩) hHeld ?_
  refine wpAnyH_take (i := 2) (v := Value.pointer (some ⟨g, o, none⟩)) rfl (by kernel_rfl) (by kernel_rfl) (by kernel_rfl) (fun _ _ _ h => h) (Or.inl ⟨by rfl, fun w hw => by go_simp⟩) hHeld ?_
  refine wpAnyH_take (i := 3) (v := Value.pointer (some ⟨g, o, none⟩)) rfl (by kernel_rfl) (by kernel_rfl) (by kernel_rfl) (fun _ _ _ h => h) (Or.inl ⟨by rfl, fun w hw => by go_simp⟩) hHeld ?_
  refine wpAnyH_take (i := 4) (v := Value.pointer (some ⟨g, o, none⟩)) rfl (by kernel_rfl) (by kernel_rfl) (by kernel_rfl) (fun _ _ _ h => h) (Or.inl ⟨by rfl, fun w hw => by go_simp⟩) hHeld ?_
  refine wpAnyH_take (i := 5) (v := Value.pointer (some ⟨g, o + 256, none⟩)) rfl (by kernel_rfl) (by kernel_rfl) (by kernel_rfl) (fun _ _ _ h => h) (Or.inl ⟨by rfl, fun w hw => by go_simp⟩) hHeld ?_
  refine drawn_as (l' := #[true, true, true, true, true, true, false, false, false, false, false, false, false, false, false, false, false, false, false, false]) (by kernel_rfl) ?_
  refine drawn_act (a' := { tmps := #[.pointer (some ⟨g, o, none⟩), undef, .pointer (some ⟨g, o, none⟩), .pointer (some ⟨g, o, none⟩), .pointer (some ⟨g, o + 384, none⟩), .bool true, .pointer (some ⟨g, o, none⟩), .pointer (some ⟨g, o, none⟩), .pointer (some ⟨g, o, none⟩), .pointer (some ⟨g, o, none⟩), .pointer (some ⟨g, o, none⟩), .pointer (some ⟨g, o + 256, none⟩), undef, undef, undef, undef, undef, undef, undef, undef, undef, undef, undef], defers := [] }) (by kernel_rfl) ?_
  refine wpAnyH_take (i := 6) (v := Value.agg (vb wr).toArray) rfl (by kernel_rfl) (by kernel_rfl) (by kernel_rfl) (fun _ _ _ h => h) (yieldsIf_load_mid (by kernel_rfl) 116 (.tmp 11) (by kernel_rfl) g (o + 256) (by kernel_rfl) (vb wr) _ (fun w h => h) Tryd.underlying116 rfl HSL.out) hHeld ?_
  refine drawn_as (l' := #[true, true, true, true, true, true, true, false, false, false, false, false, false, false, false, false, false, false, false, false]) (by kernel_rfl) ?_
  refine drawn_act (a' := { tmps := #[.pointer (some ⟨g, o, none⟩), undef, .pointer (some ⟨g, o, none⟩), .pointer (some ⟨g, o, none⟩), .pointer (some ⟨g, o + 384, none⟩), .bool true, .pointer (some ⟨g, o, none⟩), .pointer (some ⟨g, o, none⟩), .pointer (some ⟨g, o, none⟩), .pointer (some ⟨g, o, none⟩), .pointer (some ⟨g, o, none⟩), .pointer (some ⟨g, o + 256, none⟩), .agg (vb wr).toArray, undef, undef, undef, undef, undef, undef, undef, undef, undef, undef], defers := [] }) (by kernel_rfl) ?_
  refine wpAnyH_take (i := 7) (v := Value.pointer (some ⟨g, o, none⟩)) rfl (by kernel_rfl) (by kernel_rfl) (by kernel_rfl) (fun _ _ _ h => h) (Or.inl ⟨by rfl, fun w hw => by go_simp⟩) hHeld ?_
  refine wpAnyH_take (i := 8) (v := Value.pointer (some ⟨g, o, none⟩)) rfl (by kernel_rfl) (by kernel_rfl) (by kernel_rfl) (fun _ _ _ h => h) (Or.inl ⟨by rfl, fun w hw => by go_simp⟩) hHeld ?_
  refine wpAnyH_take (i := 9) (v := Value.pointer (some ⟨g, o + 256, none⟩)) rfl (by kernel_rfl) (by kernel_rfl) (by kernel_rfl) (fun _ _ _ h => h) (Or.inl ⟨by rfl, fun w hw => by go_simp⟩) hHeld ?_
  refine drawn_as (l' := #[true, true, true, true, true, true, true, true, true, true, false, false, false, false, false, false, false, false, false, false]) (by kernel_rfl) ?_
  refine drawn_act (a' := { tmps := #[.pointer (some ⟨g, o, none⟩), undef, .pointer (some ⟨g, o, none⟩), .pointer (some ⟨g, o, none⟩), .pointer (some ⟨g, o + 384, none⟩), .bool true, .pointer (some ⟨g, o, none⟩), .pointer (some ⟨g, o, none⟩), .pointer (some ⟨g, o, none⟩), .pointer (some ⟨g, o, none⟩), .pointer (some ⟨g, o, none⟩), .pointer (some ⟨g, o + 256, none⟩), .agg (vb wr).toArray, .pointer (some ⟨g, o, none⟩), .pointer (some ⟨g, o, none⟩), .pointer (some ⟨g, o + 256, none⟩), undef, undef, undef, undef, undef, undef, undef], defers := [] }) (by kernel_rfl) ?_
  refine wpAnyH_take (i := 10) (v := Value.agg (vb wr).toArray) rfl (by kernel_rfl) (by kernel_rfl) (by kernel_rfl) (fun _ _ _ h => h) (yieldsIf_load_mid (by kernel_rfl) 116 (.tmp 15) (by kernel_rfl) g (o + 256) (by kernel_rfl) (vb wr) _ (fun w h => h) Tryd.underlying116 rfl HSL.out) hHeld ?_
  refine drawn_as (l' := #[true, true, true, true, true, true, true, true, true, true, true, false, false, false, false, false, false, false, false, false]) (by kernel_rfl) ?_
  refine drawn_act (a' := { tmps := #[.pointer (some ⟨g, o, none⟩), undef, .pointer (some ⟨g, o, none⟩), .pointer (some ⟨g, o, none⟩), .pointer (some ⟨g, o + 384, none⟩), .bool true, .pointer (some ⟨g, o, none⟩), .pointer (some ⟨g, o, none⟩), .pointer (some ⟨g, o, none⟩), .pointer (some ⟨g, o, none⟩), .pointer (some ⟨g, o, none⟩), .pointer (some ⟨g, o + 256, none⟩), .agg (vb wr).toArray, .pointer (some ⟨g, o, none⟩), .pointer (some ⟨g, o, none⟩), .pointer (some ⟨g, o + 256, none⟩), .agg (vb wr).toArray, undef, undef, undef, undef, undef, undef], defers := [] }) (by kernel_rfl) ?_
  refine wpAnyH_take (i := 11) (v := Value.pointer (some ⟨g, o, none⟩)) rfl (by kernel_rfl) (by kernel_rfl) (by kernel_rfl) (fun _ _ _ h => h) (Or.inl ⟨by rfl, fun w hw => by go_simp⟩) hHeld ?_
  refine wpAnyH_take (i := 12) (v := Value.pointer (some ⟨g, o, none⟩)) rfl (by kernel_rfl) (by kernel_rfl) (by kernel_rfl) (fun _ _ _ h => h) (Or.inl ⟨by rfl, fun w hw => by go_simp⟩) hHeld ?_
  refine drawn_as (l' := #[true, true, true, true, true, true, true, true, true, true, true, true, true, false, false, false, false, false, false, false]) (by kernel_rfl) ?_
  refine drawn_act (a' := { tmps := #[.pointer (some ⟨g, o, none⟩), undef, .pointer (some ⟨g, o, none⟩), .pointer (some ⟨g, o, none⟩), .pointer (some ⟨g, o + 384, none⟩), .bool true, .pointer (some ⟨g, o, none⟩), .pointer (some ⟨g, o, none⟩), .pointer (some ⟨g, o, none⟩), .pointer (some ⟨g, o, none⟩), .pointer (some ⟨g, o, none⟩), .pointer (some ⟨g, o + 256, none⟩), .agg (vb wr).toArray, .pointer (some ⟨g, o, none⟩), .pointer (some ⟨g, o, none⟩), .pointer (some ⟨g, o + 256, none⟩), .agg (vb wr).toArray, .pointer (some ⟨g, o, none⟩), .pointer (some ⟨g, o, none⟩), undef, undef, undef, undef], defers := [] }) (by kernel_rfl) ?_
  refine wpAnyH_ready (rs := [13]) (by kernel_rfl) (by simp) ?_
  refine rdy_unit (i := 13) rfl rfl none rfl w1 (store_run (ty := 116) (x := .tmp 18) (y := .tmp 12) (by kernel_rfl) (by kernel_rfl) (by kernel_rfl) e1) HR1.out (fun hHeld => ?_) rdy_nil
  refine drawn_as (l' := #[true, true, true, true, true, true, true, true, true, true, true, true, true, true, false, false, false, false, false, false]) (by kernel_rfl) ?_
  refine drawn_act (a' := { tmps := #[.pointer (some ⟨g, o, none⟩), undef, .pointer (some ⟨g, o, none⟩), .pointer (some ⟨g, o, none⟩), .pointer (some ⟨g, o + 384, none⟩), .bool true, .pointer (some ⟨g, o, none⟩), .pointer (some ⟨g, o, none⟩), .pointer (some ⟨g, o, none⟩), .pointer (some ⟨g, o, none⟩), .pointer (some ⟨g, o, none⟩), .pointer (some ⟨g, o + 256, none⟩), .agg (vb wr).toArray, .pointer (some ⟨g, o, none⟩), .pointer (some ⟨g, o, none⟩), .pointer (some ⟨g, o + 256, none⟩), .agg (vb wr).toArray, .pointer (some ⟨g, o, none⟩), .pointer (some ⟨g, o, none⟩), undef, undef, undef, undef], defers := [] }) (by kernel_rfl) ?_
  refine wpAnyH_take (i := 14) (v := Value.pointer (some ⟨g, o, none⟩)) rfl (by kernel_rfl) (by kernel_rfl) (by kernel_rfl) (fun _ _ _ h => h) (Or.inl ⟨by rfl, fun w hw => by go_simp⟩) hHeld ?_
  refine wpAnyH_take (i := 15) (v := Value.pointer (some ⟨g, o + 128, none⟩)) rfl (by kernel_rfl) (by kernel_rfl) (by kernel_rfl) (fun _ _ _ h => h) (Or.inl ⟨by rfl, fun w hw => by go_simp⟩) hHeld ?_
  refine drawn_as (l' := #[true, true, true, true, true, true, true, true, true, true, true, true, true, true, true, true, false, false, false, false]) (by kernel_rfl) ?_
  refine drawn_act (a' := { tmps := #[.pointer (some ⟨g, o, none⟩), undef, .pointer (some ⟨g, o, none⟩), .pointer (some ⟨g, o, none⟩), .pointer (some ⟨g, o + 384, none⟩), .bool true, .pointer (some ⟨g, o, none⟩), .pointer (some ⟨g, o, none⟩), .pointer (some ⟨g, o, none⟩), .pointer (some ⟨g, o, none⟩), .pointer (some ⟨g, o, none⟩), .pointer (some ⟨g, o + 256, none⟩), .agg (vb wr).toArray, .pointer (some ⟨g, o, none⟩), .pointer (some ⟨g, o, none⟩), .pointer (some ⟨g, o + 256, none⟩), .agg (vb wr).toArray, .pointer (some ⟨g, o, none⟩), .pointer (some ⟨g, o, none⟩), .pointer (some ⟨g, o, none⟩), .pointer (some ⟨g, o + 128, none⟩), undef, undef], defers := [] }) (by kernel_rfl) ?_
  refine wpAnyH_ready (rs := [16]) (by kernel_rfl) (by simp) ?_
  refine rdy_unit (i := 16) rfl rfl none rfl w2 (store_run (ty := 116) (x := .tmp 20) (y := .tmp 16) (by kernel_rfl) (by kernel_rfl) (by kernel_rfl) e2) HR2.out (fun hHeld => ?_) rdy_nil
  refine drawn_as (l' := #[true, true, true, true, true, true, true, true, true, true, true, true, true, true, true, true, true, false, false, false]) (by kernel_rfl) ?_
  refine drawn_act (a' := { tmps := #[.pointer (some ⟨g, o, none⟩), undef, .pointer (some ⟨g, o, none⟩), .pointer (some ⟨g, o, none⟩), .pointer (some ⟨g, o + 384, none⟩), .bool true, .pointer (some ⟨g, o, none⟩), .pointer (some ⟨g, o, none⟩), .pointer (some ⟨g, o, none⟩), .pointer (some ⟨g, o, none⟩), .pointer (some ⟨g, o, none⟩), .pointer (some ⟨g, o + 256, none⟩), .agg (vb wr).toArray, .pointer (some ⟨g, o, none⟩), .pointer (some ⟨g, o, none⟩), .pointer (some ⟨g, o + 256, none⟩), .agg (vb wr).toArray, .pointer (some ⟨g, o, none⟩), .pointer (some ⟨g, o, none⟩), .pointer (some ⟨g, o, none⟩), .pointer (some ⟨g, o + 128, none⟩), undef, undef], defers := [] }) (by kernel_rfl) ?_
  refine wpAnyH_take (i := 17) (v := Value.pointer (some ⟨g, o, none⟩)) rfl (by kernel_rfl) (by kernel_rfl) (by kernel_rfl) (fun _ _ _ h => h) (Or.inl ⟨by rfl, fun w hw => by go_simp⟩) hHeld ?_
  refine wpAnyH_take (i := 18) (v := Value.pointer (some ⟨g, o + 384, none⟩)) rfl (by kernel_rfl) (by kernel_rfl) (by kernel_rfl) (fun _ _ _ h => h) (Or.inl ⟨by rfl, fun w hw => by go_simp⟩) hHeld ?_
  refine drawn_as (l' := #[true, true, true, true, true, true, true, true, true, true, true, true, true, true, true, true, true, true, true, false]) (by kernel_rfl) ?_
  refine drawn_act (a' := { tmps := #[.pointer (some ⟨g, o, none⟩), undef, .pointer (some ⟨g, o, none⟩), .pointer (some ⟨g, o, none⟩), .pointer (some ⟨g, o + 384, none⟩), .bool true, .pointer (some ⟨g, o, none⟩), .pointer (some ⟨g, o, none⟩), .pointer (some ⟨g, o, none⟩), .pointer (some ⟨g, o, none⟩), .pointer (some ⟨g, o, none⟩), .pointer (some ⟨g, o + 256, none⟩), .agg (vb wr).toArray, .pointer (some ⟨g, o, none⟩), .pointer (some ⟨g, o, none⟩), .pointer (some ⟨g, o + 256, none⟩), .agg (vb wr).toArray, .pointer (some ⟨g, o, none⟩), .pointer (some ⟨g, o, none⟩), .pointer (some ⟨g, o, none⟩), .pointer (some ⟨g, o + 128, none⟩), .pointer (some ⟨g, o, none⟩), .pointer (some ⟨g, o + 384, none⟩)], defers := [] }) (by kernel_rfl) ?_
  refine wpAnyH_ready (rs := [19]) (by kernel_rfl) (by simp) ?_
  refine rdy_unit (i := 19) rfl rfl none rfl w3 (store_run (ty := 4) (x := .tmp 22) (y := .const (.bool false)) (by kernel_rfl) (by kernel_rfl) (by kernel_rfl) e3) HR3.out (fun hHeld => ?_) rdy_nil
  refine drawn_as (l' := #[true, true, true, true, true, true, true, true, true, true, true, true, true, true, true, true, true, true, true, true]) (by kernel_rfl) ?_
  refine drawn_act (a' := { tmps := #[.pointer (some ⟨g, o, none⟩), undef, .pointer (some ⟨g, o, none⟩), .pointer (some ⟨g, o, none⟩), .pointer (some ⟨g, o + 384, none⟩), .bool true, .pointer (some ⟨g, o, none⟩), .pointer (some ⟨g, o, none⟩), .pointer (some ⟨g, o, none⟩), .pointer (some ⟨g, o, none⟩), .pointer (some ⟨g, o, none⟩), .pointer (some ⟨g, o + 256, none⟩), .agg (vb wr).toArray, .pointer (some ⟨g, o, none⟩), .pointer (some ⟨g, o, none⟩), .pointer (some ⟨g, o + 256, none⟩), .agg (vb wr).toArray, .pointer (some ⟨g, o, none⟩), .pointer (some ⟨g, o, none⟩), .pointer (some ⟨g, o, none⟩), .pointer (some ⟨g, o + 128, none⟩), .pointer (some ⟨g, o, none⟩), .pointer (some ⟨g, o + 384, none⟩)], defers := [] }) (by kernel_rfl) ?_
  refine wpAnyH_done (by kernel_rfl) ?_ _
  refine NoPanic.normal ?_
  clear e1 e2 e3 hHeld
  go_wp2
  go_end0
  exact ⟨rfl, rfl⟩
end Go.Proofs.YtidlogeeophogaaDoor
