/- An extent's crash. -/
import Derived.Test.YtpiohhljcjobfaaMc
namespace Go.Proofs.Ytpiohhljcjobfaa
open Go.RowKit Go.Maps
set_option linter.unusedVariables false

/-- What a crash leaves of an extent that waits. -/
def Ext.crashed (x : Ext) (m : Nat) : Ext := { x with dur := x.wri.take m ++ x.dur.drop m, waits := false }
theorem Ext.crashed_ok {x : Ext} (h : x.ok) (m : Nat) : (x.crashed m).ok := by
  refine ⟨⟨?_, fun y hy => ?_⟩, h.2⟩
  · show (x.wri.take m ++ x.dur.drop m).length = 128
    simp [h.1.1, h.2.2.1]; omega
  · rcases List.mem_append.1 hy with hy | hy
    · exact h.2.2.2 y (List.mem_of_mem_take hy)
    · exact h.1.2 y (List.mem_of_mem_drop hy)
theorem copy_run {o : Oper} {a : Act} {w w' : World} {x y : Operand} {vx vy r : Value} (ho : o.op = Op.call { callee := .builtin .copy, args := #[x, y], argTypes := #[31, 31] }) (hx : a.eval x = vx) (hy : a.eval y = vy) (hr : (Builtin.copy_ #[31, 31] o.type #[vx, vy]).run Try.prog w = .ok r w') : (execOp a.eval o).run Try.prog w = .ok (.value r) w' := by
  unfold execOp
  simp only [ho, resolve, invoke, builtin, Sem.run_bind, Sem.run_pure, Result.andThen_ok, List.map_toArray, List.map_cons, List.map_nil, hx, hy, hr]

set_option maxHeartbeats 2000000 in
theorem crash_run (w : World) (g o m : Nat) (k km : Int) (hkm : (if k < 0 then (0 : Int) else k) = km) (hm : (if (128 : Int) < km then (128 : Int) else km) = (m : Int)) (wr : List Nat) (hl : wr.length = 128) (hR : w.rangeAt g (o + 256) (vb wr)) (hT1 : w.there g o 128) (hT3 : w.there g (o + 384) 1) :
    Calls Try.prog 57 #[.pointer (some ⟨g, o, none⟩), .int .i64 k] w fun e w' => e = .returned (.tuple #[]) ∧ w' = (w.drew.setCells g o (vb (wr.take m))).setCells g (o + 384) [.bool false] := by
  have hm0 : m ≤ 128 := by split at hm <;> omega
  have hlt : (vb (wr.take m)).length = m := by rw [length_vb, List.length_take, hl]; omega
  have hinfo : (Try.prog.info? 5).map (·.size) = some 1 := by kernel_rfl
  have e1 : ∀ ty, (Builtin.copy_ #[31, 31] ty #[.slice (some ⟨g, o, none⟩) m 128, .slice (some ⟨g, o + 256, none⟩) m 128]).run Try.prog w.drew = .ok (.int .i64 (m : Int)) (w.drew.setCells g o (vb (wr.take m))) := by
    intro ty
    have := run_copy_cells (P := Try.prog) w.drew 31 31 ty 5 g o m 128 ⟨g, o + 256, none⟩ m 128 (vb (wr.take m)) Try.underlying31 hinfo (by rw [hlt]; exact (Nat.min_self m).symm) (fun j v hj => ?_) (fun j hj => (hT1 j (by omega)).1) (fun j hj => (hT1 j (by omega)).2) (fun v hv => one_vb _ v hv)
    · rw [hlt] at this
      exact this
    · have hj' := (List.getElem?_eq_some_iff.1 hj).1
      rw [add_none]
      refine hR j v ?_
      rw [← hj]
      simp only [vb, List.getElem?_map, List.getElem?_take]
      rw [if_pos (by omega)]
  have t3 : (w.drew.setCells g o (vb (wr.take m))).there g (o + 384) 1 := World.there_setCells (show w.drew.there g (o + 384) 1 from hT3) _ _ _
  have c3 : ∃ v, (w.drew.setCells g o (vb (wr.take m))).cell? ⟨g, o + 384, none⟩ = some v := Option.isSome_iff_exists.1 (by simpa using (t3 0 (by omega)).1)
  have f3 : (w.drew.setCells g o (vb (wr.take m))).frozen? ⟨g, o + 384, none⟩ = false := by simpa using (t3 0 (by omega)).2
  obtain ⟨v3, c3⟩ := c3
  obtain ⟨w0, hw0⟩ : ∃ w0, w0 = w.drew := ⟨_, rfl⟩
  rw [← hw0] at e1 c3 f3 ⊢
  obtain ⟨w1, hw1⟩ : ∃ w1, w1 = w0.setCells g o (vb (wr.take m)) := ⟨_, rfl⟩
  have E1 := hidn e1
  rw [← hw1] at E1 c3 f3 ⊢
  have HW0 := hidn hw0
  clear hw0 hw1 t3 hT1 hT3 hR hl hlt e1 hinfo
  have hmm : (m : Int) ≤ 128 := by omega
  go_enter Try.func57, Try.ntmps57
  go_wp2_with fail
  refine wp_region_noPanic ?_
  refine wp_region_held_drew (S := fun w' => True) (by kernel_rfl) trivial (fun hHeld => ?_)
  rw [← HW0.out]
  refine wpAnyH_take (i := 0) (v := Value.pointer (some ⟨g, o, none⟩)) rfl (by kernel_rfl) (by kernel_rfl) (by kernel_rfl) (fun _ _ _ h => h) (Or.inl ⟨by rfl, fun w hw => by go_simp⟩) hHeld ?_
  refine wpAnyH_take (i := 1) (v := Value.pointer (some ⟨g, o, none⟩)) rfl (by kernel_rfl) (by kernel_rfl) (by kernel_rfl) (fun _ _ _ h => h) (Or.inl ⟨by rfl, fun w hw => by go_simp⟩) hHeld ?_
  refine wpAnyH_take (i := 2) (v := Value.pointer (some ⟨g, o, none⟩)) rfl (by kernel_rfl) (by kernel_rfl) (by kernel_rfl) (fun _ _ _ h => h) (Or.inl ⟨by rfl, fun w hw => by go_simp⟩) hHeld ?_
  refine wpAnyH_take (i := 3) (v := Value.int .i64 (m : Int)) rfl (by kernel_rfl) (by kernel_rfl) (by kernel_rfl) (fun _ _ _ h => h) (Or.inl ⟨by rfl, fun w hw => by go_simp⟩) hHeld ?_
  refine drawn_as (l' := #[true, true, true, true, false, false, false, false, false, false, false]) (by kernel_rfl) ?_
  refine drawn_act (a' := { tmps := #[.pointer (some ⟨g, o, none⟩), .int .i64 k, undef, undef, .int .i64 (m : Int), .int .i64 k, .int .i64 km, .int .i64 (m : Int), .pointer (some ⟨g, o, none⟩), .pointer (some ⟨g, o, none⟩), .pointer (some ⟨g, o, none⟩), .int .i64 (m : Int), undef, undef, undef, undef, undef, undef, undef, undef, undef, undef], defers := [] }) (by kernel_rfl) ?_
  refine wpAnyH_take (i := 4) (v := Value.slice (some ⟨g, o, none⟩) m 128) rfl (by kernel_rfl) (by kernel_rfl) (by kernel_rfl) (fun _ _ _ h => h) (Or.inl ⟨by rfl, fun w hw => by go_simp⟩) hHeld ?_
  refine drawn_as (l' := #[true, true, true, true, true, false, false, false, false, false, false]) (by kernel_rfl) ?_
  refine drawn_act (a' := { tmps := #[.pointer (some ⟨g, o, none⟩), .int .i64 k, undef, undef, .int .i64 (m : Int), .int .i64 k, .int .i64 km, .int .i64 (m : Int), .pointer (some ⟨g, o, none⟩), .pointer (some ⟨g, o, none⟩), .pointer (some ⟨g, o, none⟩), .int .i64 (m : Int), .slice (some ⟨g, o, none⟩) m 128, undef, undef, undef, undef, undef, undef, undef, undef, undef], defers := [] }) (by kernel_rfl) ?_
  refine wpAnyH_take (i := 5) (v := Value.pointer (some ⟨g, o, none⟩)) rfl (by kernel_rfl) (by kernel_rfl) (by kernel_rfl) (fun _ _ _ h => h) (Or.inl ⟨by rfl, fun w hw => by go_simp⟩) hHeld ?_
  refine wpAnyH_take (i := 6) (v := Value.pointer (some ⟨g, o, none⟩)) rfl (by kernel_rfl) (by kernel_rfl) (by kernel_rfl) (fun _ _ _ h => h) (Or.inl ⟨by rfl, fun w hw => by go_simp⟩) hHeld ?_
  refine wpAnyH_take (i := 7) (v := Value.pointer (some ⟨g, o + 256, none⟩)) rfl (by kernel_rfl) (by kernel_rfl) (by kernel_rfl) (fun _ _ _ h => h) (Or.inl ⟨by rfl, fun w hw => by go_simp⟩) hHeld ?_
  refine wpAnyH_take (i := 8) (v := Value.int .i64 (m : Int)) rfl (by kernel_rfl) (by kernel_rfl) (by kernel_rfl) (fun _ _ _ h => h) (Or.inl ⟨by rfl, fun w hw => by go_simp⟩) hHeld ?_
  refine drawn_as (l' := #[true, true, true, true, true, true, true, true, true, false, false]) (by kernel_rfl) ?_
  refine drawn_act (a' := { tmps := #[.pointer (some ⟨g, o, none⟩), .int .i64 k, undef, undef, .int .i64 (m : Int), .int .i64 k, .int .i64 km, .int .i64 (m : Int), .pointer (some ⟨g, o, none⟩), .pointer (some ⟨g, o, none⟩), .pointer (some ⟨g, o, none⟩), .int .i64 (m : Int), .slice (some ⟨g, o, none⟩) m 128, .pointer (some ⟨g, o, none⟩), .pointer (some ⟨g, o, none⟩), .pointer (some ⟨g, o + 256, none⟩), .int .i64 (m : Int), undef, undef, undef, undef, undef], defers := [] }) (by kernel_rfl) ?_
  refine wpAnyH_take (i := 9) (v := Value.slice (some ⟨g, o + 256, none⟩) m 128) rfl (by kernel_rfl) (by kernel_rfl) (by kernel_rfl) (fun _ _ _ h => h) (Or.inl ⟨by rfl, fun w hw => by go_simp⟩) hHeld ?_
  refine drawn_as (l' := #[true, true, true, true, true, true, true, true, true, true, false]) (by kernel_rfl) ?_
  refine drawn_act (a' := { tmps := #[.pointer (some ⟨g, o, none⟩), .int .i64 k, undef, undef, .int .i64 (m : Int), .int .i64 k, .int .i64 km, .int .i64 (m : Int), .pointer (some ⟨g, o, none⟩), .pointer (some ⟨g, o, none⟩), .pointer (some ⟨g, o, none⟩), .int .i64 (m : Int), .slice (some ⟨g, o, none⟩) m 128, .pointer (some ⟨g, o, none⟩), .pointer (some ⟨g, o, none⟩), .pointer (some ⟨g, o + 256, none⟩), .int .i64 (m : Int), .slice (some ⟨g, o + 256, none⟩) m 128, undef, undef, undef, undef], defers := [] }) (by kernel_rfl) ?_
  refine wpAnyH_ready (rs := [10]) (by kernel_rfl) (by simp) ?_
  refine rdy_val (i := 10) rfl rfl (some 18) rfl (.int .i64 (m : Int)) w1 (copy_run (x := .tmp 12) (y := .tmp 17) (by kernel_rfl) (by kernel_rfl) (by kernel_rfl) (E1.out _)) trivial (fun hHeld => ?_) rdy_nil
  refine drawn_as (l' := #[true, true, true, true, true, true, true, true, true, true, true]) (by kernel_rfl) ?_
  refine drawn_act (a' := { tmps := #[.pointer (some ⟨g, o, none⟩), .int .i64 k, undef, undef, .int .i64 (m : Int), .int .i64 k, .int .i64 km, .int .i64 (m : Int), .pointer (some ⟨g, o, none⟩), .pointer (some ⟨g, o, none⟩), .pointer (some ⟨g, o, none⟩), .int .i64 (m : Int), .slice (some ⟨g, o, none⟩) m 128, .pointer (some ⟨g, o, none⟩), .pointer (some ⟨g, o, none⟩), .pointer (some ⟨g, o + 256, none⟩), .int .i64 (m : Int), .slice (some ⟨g, o + 256, none⟩) m 128, .int .i64 (m : Int), undef, undef, undef], defers := [] }) (by kernel_rfl) ?_
  refine wpAnyH_done (by kernel_rfl) ?_ _
  refine NoPanic.normal ?_
  go_wp2
  go_end0
  exact ⟨rfl, rfl⟩
end Go.Proofs.Ytpiohhljcjobfaa
