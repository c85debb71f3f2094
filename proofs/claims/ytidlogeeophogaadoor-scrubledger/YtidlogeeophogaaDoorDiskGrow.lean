/- The disk's grow: a file has one extent more. -/
import Derived.Test.YtidlogeeophogaaDoorDiskGrowR
import Derived.Test.YtidlogeeophogaaDoorDrawn
namespace Go.Proofs.YtidlogeeophogaaDoor
open Go.RowKit Go.Maps
set_option linter.unusedVariables false

section
variable {o : Oper} {a : Act} {w : World}
theorem app_run {v x : Value} {r : Value} {w' : World} (ho : o.op = Op.call { callee := .builtin .append, args := #[.tmp 15, .tmp 17], argTypes := #[121, 121] }) (hs : a.eval (.tmp 15) = v) (hx : a.eval (.tmp 17) = x)
    (hr : (Builtin.append_ #[121, 121] o.type #[v, x]).run Tryd.prog w = .ok r w') : (execOp a.eval o).run Tryd.prog w = .ok (.value r) w' := by
  unfold execOp
  simp only [ho, resolve, invoke, builtin, Sem.run_bind, Sem.run_pure, Result.andThen_ok, List.map_toArray, List.map_cons, List.map_nil, hs, hx, hr]
theorem upd_run {m x v : Value} {w' : World} (ho : o.op = Op.mapUpdate 36 (.tmp 7) (.tmp 9) (.tmp 18)) (hm : a.eval (.tmp 7) = m) (hx : a.eval (.tmp 9) = x) (hv : a.eval (.tmp 18) = v)
    (hr : (Instr.mapUpdate 36 m x v).run Tryd.prog w = .ok () w') : (execOp a.eval o).run Tryd.prog w = .ok .skip w' := by
  simp [execOp, ho, hm, hx, hv, hr, Result.andThen]
end

set_option maxHeartbeats 4000000 in
theorem grow_any (w : World) (d : Nat) (F : Nat → Prop) (N : Nat) (M : List UInt8 → List Ext) (free fuse : Int) (h : DiskOf w d F N M free fuse) (s : ByteArray) (h0 : s.size ≠ 0) (hl : s.size ≤ 1000000) (n : Nat) (HN : Hid (n = (M s.data.toList).length)) (hn : n ≤ 1000000) (hNm : N < maxLen) (hfr : 1 ≤ free) (hfr2 : free ≤ 1000000) :
    Calls Tryd.prog 95 #[.pointer (some ⟨d, 0, none⟩), .string s] w fun e w' => e = .returned (.tuple #[]) ∧ ∃ F', DiskOf w' d F' (N + 1) (upd M s.data.toList (M s.data.toList ++ [zeroE])) (free - 1) fuse ∧ Gr F F' w w' := by
  obtain ⟨bm, D, G, C, hI⟩ := h.is
  have hs : s.size ≤ maxLen := by unfold maxLen; omega
  obtain ⟨V, hV, hVr, hVb⟩ := hI.any s hs
  rw [← HN.out] at hVr
  have hVB : ∀ g, V.ownBlock = some g → F g := by
    intro g hg
    obtain ⟨h1, h2⟩ := hVb g hg
    rw [h2]
    exact hI.2.2.1.2 _ h1
  have hkey := Go.WideMaps.keyOf_string_mk (P := Tryd.prog) Tryd.underlying9 hs
  have hdB := hI.2.1.1
  obtain ⟨i0, hi, hz0, hz1, hz2⟩ := info_parts Tryd.infoExt3
  obtain ⟨Z, hZ⟩ : ∃ Z, Z = zeroE.cells.toArray := ⟨_, rfl⟩
  rw [← hZ] at hz0
  have HZ : Hid (Z = zeroE.cells.toArray) := hZ
  have HZB : Hid (Tryd.prog.built 124 [] = some Z) := hidn (by rw [hZ]; exact builtExt)
  have HZS : Hid ((Value.agg Z).cells.size = 385) := hidn (by rw [hZ]; exact Ext.cells_length zeroE_ok)
  have HZL : Hid (Z.toList.length = 1 * 385) := hidn (by rw [hZ]; exact Ext.cells_length zeroE_ok)
  have HZ1 : Hid (∀ u ∈ Z.toList, u.oneCell' = true) := hidn (by rw [hZ]; exact zeroE.cells_one)
  have HZZ : Hid (Z.toList = zeroE.cells) := hidn (by rw [hZ])
  clear hZ
  have hn63 : n + 1 ≤ maxLen := by unfold maxLen; omega
  have hnby : (n + 1) * 385 ≤ 140737488355328 := by omega
  have hw1 : IntKind.i64.wrap (free - 1) = free - 1 := by rw [IntKind.wrap_i64]; omega
  have hS : ∀ w', Below w.heap.size w w' → w'.cell? ⟨d, 0, none⟩ = some (.map (some bm)) := fun w' hb => (hI.below hb).c0
  go_enter Tryd.func95, Tryd.ntmps95
  refine wp_seq ?_
  refine wp_region_noPanic ?_
  refine wp_region_held_drew (S := fun w' => w'.cell? ⟨d, 0, none⟩ = some (.map (some bm))) (by kernel_rfl) (hS _ ((Below.refl _ _).drew)) (fun hHeld => ?_)
  refine wpAnyH_take (i := 0) (v := Value.pointer (some ⟨d, 0, none⟩)) rfl (by kernel_rfl) (by kernel_rfl) (by kernel_rfl) (fun _ _ _ h => h) (Or.inl ⟨by rfl, fun w hw => by go_simp⟩) hHeld ?_
  refine wpAnyH_take (i := 1) (v := Value.pointer (some ⟨d, 0, none⟩)) rfl (by kernel_rfl) (by kernel_rfl) (by kernel_rfl) (fun _ _ _ h => h) (Or.inl ⟨by rfl, fun w hw => by go_simp⟩) hHeld ?_
  refine wpAnyH_take (i := 2) (v := Value.pointer (some ⟨d, 0, none⟩)) rfl (by kernel_rfl) (by kernel_rfl) (by kernel_rfl) (fun _ _ _ h => h) (Or.inl ⟨by rfl, fun w hw => by go_simp⟩) hHeld ?_
  refine wpAnyH_take (i := 3) (v := Value.map (some bm)) rfl (by kernel_rfl) (by kernel_rfl) (by kernel_rfl) (fun _ _ _ h => h) (Or.inl ⟨by rfl, fun w hw => by go_simp⟩) hHeld ?_
  refine wpAnyH_take (i := 4) (v := Value.string s) rfl (by kernel_rfl) (by kernel_rfl) (by kernel_rfl) (fun _ _ _ h => h) (Or.inl ⟨by rfl, fun w hw => by go_simp⟩) hHeld ?_
  refine wpAnyH_take (i := 6) (v := Value.pointer (some ⟨d, 0, none⟩)) rfl (by kernel_rfl) (by kernel_rfl) (by kernel_rfl) (fun _ _ _ h => h) (Or.inl ⟨by rfl, fun w hw => by go_simp⟩) hHeld ?_
  refine wpAnyH_take (i := 7) (v := Value.pointer (some ⟨d, 0, none⟩)) rfl (by kernel_rfl) (by kernel_rfl) (by kernel_rfl) (fun _ _ _ h => h) (Or.inl ⟨by rfl, fun w hw => by go_simp⟩) hHeld ?_
  refine wpAnyH_take (i := 8) (v := Value.pointer (some ⟨d, 0, none⟩)) rfl (by kernel_rfl) (by kernel_rfl) (by kernel_rfl) (fun _ _ _ h => h) (Or.inl ⟨by rfl, fun w hw => by go_simp⟩) hHeld ?_
  refine wpAnyH_take (i := 9) (v := Value.map (some bm)) rfl (by kernel_rfl) (by kernel_rfl) (by kernel_rfl) (fun _ _ _ h => h) (Or.inl ⟨by rfl, fun w hw => by go_simp⟩) hHeld ?_
  refine wpAnyH_take (i := 10) (v := Value.string s) rfl (by kernel_rfl) (by kernel_rfl) (by kernel_rfl) (fun _ _ _ h => h) (Or.inl ⟨by rfl, fun w hw => by go_simp⟩) hHeld ?_
  refine wpAnyH_take (i := 12) (v := Value.agg Z) rfl (by kernel_rfl) (by kernel_rfl) (by kernel_rfl) (fun _ _ _ h => h) (Or.inl ⟨by rfl, fun w hw => bld_run rfl HZB.out⟩) hHeld ?_
  have hb0 : Below w.heap.size w w.drew := (Below.refl _ _).drew
  generalize w.drew = w0 at *
  refine drawn_as (l' := #[true, true, true, true, true, false, true, true, true, true, true, false, true, false, false, false]) (by kernel_rfl) ?_
  refine drawn_act (a' := { tmps := #[.pointer (some ⟨d, 0, none⟩), .string s, undef, undef, .pointer (some ⟨d, 0, none⟩), .pointer (some ⟨d, 0, none⟩), .pointer (some ⟨d, 0, none⟩), .map (some bm), .string s, undef, .pointer (some ⟨d, 0, none⟩), .pointer (some ⟨d, 0, none⟩), .pointer (some ⟨d, 0, none⟩), .map (some bm), .string s, undef, .agg Z, undef, undef, undef, undef, undef, undef, undef, undef, undef], defers := [] }) (by kernel_rfl) ?_
  refine wpAnyH_ready (rs := [5, 11, 13]) (by kernel_rfl) (by simp) ?_
  refine rdy_call (i := 5) rfl rfl (some 9) rfl 105 #[.string s] (clone_run (by kernel_rfl) (by kernel_rfl)) (fun v w' => v = .string s ∧ Below w0.heap.size w0 w') ((str_clone s w0 h0 hl).mono fun e w' h => ⟨_, h.1, rfl, h.2⟩) (fun v w1 hR => ?_) ?_
  · obtain ⟨rfl, hc1⟩ := hR
    have hb1 : Below w.heap.size w w1 := hb0.trans (hc1.mono hb0.size)
    refine ⟨hS w1 hb1, fun hHeld => ?_⟩
    refine drawn_as (l' := #[true, true, true, true, true, true, true, true, true, true, true, false, true, false, false, false]) (by kernel_rfl) ?_
    refine drawn_act (a' := { tmps := #[.pointer (some ⟨d, 0, none⟩), .string s, undef, undef, .pointer (some ⟨d, 0, none⟩), .pointer (some ⟨d, 0, none⟩), .pointer (some ⟨d, 0, none⟩), .map (some bm), .string s, .string s, .pointer (some ⟨d, 0, none⟩), .pointer (some ⟨d, 0, none⟩), .pointer (some ⟨d, 0, none⟩), .map (some bm), .string s, undef, .agg Z, undef, undef, undef, undef, undef, undef, undef, undef, undef], defers := [] }) (by kernel_rfl) ?_
    refine wpAnyH_ready (rs := [11, 13]) (by kernel_rfl) (by simp) ?_
    refine rdy_val (i := 11) rfl rfl (some 15) rfl V w1 (look_run (by kernel_rfl) (by kernel_rfl) (by kernel_rfl) (hV w1 hb1)) (hS w1 hb1) (fun hHeld => ?_) ?_
    · refine drawn_as (l' := #[true, true, true, true, true, true, true, true, true, true, true, true, true, false, false, false]) (by kernel_rfl) ?_
      refine drawn_act (a' := { tmps := #[.pointer (some ⟨d, 0, none⟩), .string s, undef, undef, .pointer (some ⟨d, 0, none⟩), .pointer (some ⟨d, 0, none⟩), .pointer (some ⟨d, 0, none⟩), .map (some bm), .string s, .string s, .pointer (some ⟨d, 0, none⟩), .pointer (some ⟨d, 0, none⟩), .pointer (some ⟨d, 0, none⟩), .map (some bm), .string s, V, .agg Z, undef, undef, undef, undef, undef, undef, undef, undef, undef], defers := [] }) (by kernel_rfl) ?_
      refine wpAnyH_ready (rs := [13]) (by kernel_rfl) (by simp) ?_
      obtain ⟨w2, hwz⟩ : ∃ wz, wz = w1.alloc (.cells Z 124) := ⟨_, rfl⟩
      have hb2 : Below w.heap.size w w2 := by rw [hwz]; exact hb1.alloc hb1.size _
      have hZn : w2.heap[w1.heap.size]? = some (.cells Z 124 (0, 0)) := by rw [hwz]; exact heap_alloc_new w1 _
      refine rdy_val (i := 13) rfl rfl (some 17) rfl (.slice (some ⟨w1.heap.size, 0, none⟩) 1 1) w2 (by rw [hwz]; exact mk_run (by kernel_rfl) (by kernel_rfl) HZ) (hS _ hb2) (fun hHeld => ?_) rdy_nil
      · clear hwz
        refine drawn_as (l' := #[true, true, true, true, true, true, true, true, true, true, true, true, true, true, false, false]) (by kernel_rfl) ?_
        refine drawn_act (a' := { tmps := #[.pointer (some ⟨d, 0, none⟩), .string s, undef, undef, .pointer (some ⟨d, 0, none⟩), .pointer (some ⟨d, 0, none⟩), .pointer (some ⟨d, 0, none⟩), .map (some bm), .string s, .string s, .pointer (some ⟨d, 0, none⟩), .pointer (some ⟨d, 0, none⟩), .pointer (some ⟨d, 0, none⟩), .map (some bm), .string s, V, .agg Z, .slice (some ⟨w1.heap.size, 0, none⟩) 1 1, undef, undef, undef, undef, undef, undef, undef, undef], defers := [] }) (by kernel_rfl) ?_
        have hIk := hI.below hb2
        obtain ⟨g, c, w8, hrun8, hrow8, hg8, hat8, hlt8⟩ := run_append_lies (P := Tryd.prog) w2 121 121 0 124 i0 (.agg Z) 385 385 Tryd.underlying121 hi hz0 hz1 hz2 HZS.out (by decide) V n (cellsE (M s.data.toList)) (own_below hVr hb2) ⟨w1.heap.size, 0, none⟩ 1 1 Z.toList HZL.out (news_of hZn) HZ1.out (by decide) hn63 hnby (Nat.zero_le _) w2.heap.size rfl
        obtain ⟨w9, hrun9, hmap9, hg9⟩ := (hIk.map_kept hg8 hVb).update lawS Tryd.underlying36 hNm hkey (hd_mk g (n + 1) c)
        have hfin := hIk.grown s.data.toList zeroE zeroE_ok V hVb (by rw [← HN.out]; exact own_below hVr hb2) g c hg8 hat8 (by rw [← HN.out, cellsE_snoc]; exact HZZ.out ▸ hrow8) (by rw [← HN.out]; exact hmap9) hg9
        have hbel9 := gr_grow hb2 hg8 hVB hat8 hlt8 hg9 hI.2.2.1.1
        refine wpAnyH_ready (rs := [14]) (by kernel_rfl) (by simp) ?_
        refine rdy_val (i := 14) rfl rfl (some 18) rfl (.slice (some ⟨g, 0, none⟩) (n + 1) c) w8 (app_run (by kernel_rfl) (by kernel_rfl) (by kernel_rfl) hrun8) (hIk.cell_kept hg8 hVb) (fun hHeld => ?_) rdy_nil
        refine drawn_as (l' := #[true, true, true, true, true, true, true, true, true, true, true, true, true, true, true, false]) (by kernel_rfl) ?_
        refine drawn_act (a' := { tmps := #[.pointer (some ⟨d, 0, none⟩), .string s, undef, undef, .pointer (some ⟨d, 0, none⟩), .pointer (some ⟨d, 0, none⟩), .pointer (some ⟨d, 0, none⟩), .map (some bm), .string s, .string s, .pointer (some ⟨d, 0, none⟩), .pointer (some ⟨d, 0, none⟩), .pointer (some ⟨d, 0, none⟩), .map (some bm), .string s, V, .agg Z, .slice (some ⟨w1.heap.size, 0, none⟩) 1 1, .slice (some ⟨g, 0, none⟩) (n + 1) c, undef, undef, undef, undef, undef, undef, undef], defers := [] }) (by kernel_rfl) ?_
        refine wpAnyH_ready (rs := [15]) (by kernel_rfl) (by simp) ?_
        obtain ⟨G9, C9, hI9⟩ := hfin
        refine rdy_unit (i := 15) rfl rfl none rfl w9 (upd_run (by kernel_rfl) (by kernel_rfl) (by kernel_rfl) (by kernel_rfl) hrun9) hI9.c0 (fun hHeld => ?_) rdy_nil
        refine wpAnyH_done (by kernel_rfl) ?_ _
        refine NoPanic.normal ?_
        simp only [Act.put]
        have c1 := hI9.c1
        have f1 := frozen_of_row _ _ 1 _ _ hI9.1
        have HD9 := hidn (hI9.of.freed (free - 1))
        clear hmap9 hrow8 hg8 hat8 hlt8 hg9 hrun9 hrun8 hIk hHeld
        go_wp2
        go_end0
        exact ⟨rfl, _, HD9.out, hbel9.trans (Gr.of ((Keeps.refl _ _).setCell (Or.inl hdB) _))⟩
    obtain ⟨w2, hwz⟩ : ∃ wz, wz = w1.alloc (.cells Z 124) := ⟨_, rfl⟩
    have hb2 : Below w.heap.size w w2 := by rw [hwz]; exact hb1.alloc hb1.size _
    have hZn : w2.heap[w1.heap.size]? = some (.cells Z 124 (0, 0)) := by rw [hwz]; exact heap_alloc_new w1 _
    refine rdy_val (i := 13) rfl rfl (some 17) rfl (.slice (some ⟨w1.heap.size, 0, none⟩) 1 1) w2 (by rw [hwz]; exact mk_run (by kernel_rfl) (by kernel_rfl) HZ) (hS _ hb2) (fun hHeld => ?_) rdy_nil
    · clear hwz
      refine drawn_as (l' := #[true, true, true, true, true, true, true, true, true, true, true, false, true, true, false, false]) (by kernel_rfl) ?_
      refine drawn_act (a' := { tmps := #[.pointer (some ⟨d, 0, none⟩), .string s, undef, undef, .pointer (some ⟨d, 0, none⟩), .pointer (some ⟨d, 0, none⟩), .pointer (some ⟨d, 0, none⟩), .map (some bm), .string s, .string s, .pointer (some ⟨d, 0, none⟩), .pointer (some ⟨d, 0, none⟩), .pointer (some ⟨d, 0, none⟩), .map (some bm), .string s, undef, .agg Z, .slice (some ⟨w1.heap.size, 0, none⟩) 1 1, undef, undef, undef, undef, undef, undef, undef, undef], defers := [] }) (by kernel_rfl) ?_
      refine wpAnyH_ready (rs := [11]) (by kernel_rfl) (by simp) ?_
      refine rdy_val (i := 11) rfl rfl (some 15) rfl V w2 (look_run (by kernel_rfl) (by kernel_rfl) (by kernel_rfl) (hV w2 hb2)) (hS w2 hb2) (fun hHeld => ?_) rdy_nil
      · refine drawn_as (l' := #[true, true, true, true, true, true, true, true, true, true, true, true, true, true, false, false]) (by kernel_rfl) ?_
        refine drawn_act (a' := { tmps := #[.pointer (some ⟨d, 0, none⟩), .string s, undef, undef, .pointer (some ⟨d, 0, none⟩), .pointer (some ⟨d, 0, none⟩), .pointer (some ⟨d, 0, none⟩), .map (some bm), .string s, .string s, .pointer (some ⟨d, 0, none⟩), .pointer (some ⟨d, 0, none⟩), .pointer (some ⟨d, 0, none⟩), .map (some bm), .string s, V, .agg Z, .slice (some ⟨w1.heap.size, 0, none⟩) 1 1, undef, undef, undef, undef, undef, undef, undef, undef], defers := [] }) (by kernel_rfl) ?_
        have hIk := hI.below hb2
        obtain ⟨g, c, w8, hrun8, hrow8, hg8, hat8, hlt8⟩ := run_append_lies (P := Tryd.prog) w2 121 121 0 124 i0 (.agg Z) 385 385 Tryd.underlying121 hi hz0 hz1 hz2 HZS.out (by decide) V n (cellsE (M s.data.toList)) (own_below hVr hb2) ⟨w1.heap.size, 0, none⟩ 1 1 Z.toList HZL.out (news_of hZn) HZ1.out (by decide) hn63 hnby (Nat.zero_le _) w2.heap.size rfl
        obtain ⟨w9, hrun9, hmap9, hg9⟩ := (hIk.map_kept hg8 hVb).update lawS Tryd.underlying36 hNm hkey (hd_mk g (n + 1) c)
        have hfin := hIk.grown s.data.toList zeroE zeroE_ok V hVb (by rw [← HN.out]; exact own_below hVr hb2) g c hg8 hat8 (by rw [← HN.out, cellsE_snoc]; exact HZZ.out ▸ hrow8) (by rw [← HN.out]; exact hmap9) hg9
        have hbel9 := gr_grow hb2 hg8 hVB hat8 hlt8 hg9 hI.2.2.1.1
        refine wpAnyH_ready (rs := [14]) (by kernel_rfl) (by simp) ?_
        refine rdy_val (i := 14) rfl rfl (some 18) rfl (.slice (some ⟨g, 0, none⟩) (n + 1) c) w8 (app_run (by kernel_rfl) (by kernel_rfl) (by kernel_rfl) hrun8) (hIk.cell_kept hg8 hVb) (fun hHeld => ?_) rdy_nil
        refine drawn_as (l' := #[true, true, true, true, true, true, true, true, true, true, true, true, true, true, true, false]) (by kernel_rfl) ?_
        refine drawn_act (a' := { tmps := #[.pointer (some ⟨d, 0, none⟩), .string s, undef, undef, .pointer (some ⟨d, 0, none⟩), .pointer (some ⟨d, 0, none⟩), .pointer (some ⟨d, 0, none⟩), .map (some bm), .string s, .string s, .pointer (some ⟨d, 0, none⟩), .pointer (some ⟨d, 0, none⟩), .pointer (some ⟨d, 0, none⟩), .map (some bm), .string s, V, .agg Z, .slice (some ⟨w1.heap.size, 0, none⟩) 1 1, .slice (some ⟨g, 0, none⟩) (n + 1) c, undef, undef, undef, undef, undef, undef, undef], defers := [] }) (by kernel_rfl) ?_
        refine wpAnyH_ready (rs := [15]) (by kernel_rfl) (by simp) ?_
        obtain ⟨G9, C9, hI9⟩ := hfin
        refine rdy_unit (i := 15) rfl rfl none rfl w9 (upd_run (by kernel_rfl) (by kernel_rfl) (by kernel_rfl) (by kernel_rfl) hrun9) hI9.c0 (fun hHeld => ?_) rdy_nil
        refine wpAnyH_done (by kernel_rfl) ?_ _
        refine NoPanic.normal ?_
        simp only [Act.put]
        have c1 := hI9.c1
        have f1 := frozen_of_row _ _ 1 _ _ hI9.1
        have HD9 := hidn (hI9.of.freed (free - 1))
        clear hmap9 hrow8 hg8 hat8 hlt8 hg9 hrun9 hrun8 hIk hHeld
        go_wp2
        go_end0
        exact ⟨rfl, _, HD9.out, hbel9.trans (Gr.of ((Keeps.refl _ _).setCell (Or.inl hdB) _))⟩
  refine rdy_val (i := 11) rfl rfl (some 15) rfl V w0 (look_run (by kernel_rfl) (by kernel_rfl) (by kernel_rfl) (hV w0 hb0)) (hS w0 hb0) (fun hHeld => ?_) ?_
  · refine drawn_as (l' := #[true, true, true, true, true, false, true, true, true, true, true, true, true, false, false, false]) (by kernel_rfl) ?_
    refine drawn_act (a' := { tmps := #[.pointer (some ⟨d, 0, none⟩), .string s, undef, undef, .pointer (some ⟨d, 0, none⟩), .pointer (some ⟨d, 0, none⟩), .pointer (some ⟨d, 0, none⟩), .map (some bm), .string s, undef, .pointer (some ⟨d, 0, none⟩), .pointer (some ⟨d, 0, none⟩), .pointer (some ⟨d, 0, none⟩), .map (some bm), .string s, V, .agg Z, undef, undef, undef, undef, undef, undef, undef, undef, undef], defers := [] }) (by kernel_rfl) ?_
    refine wpAnyH_ready (rs := [5, 13]) (by kernel_rfl) (by simp) ?_
    refine rdy_call (i := 5) rfl rfl (some 9) rfl 105 #[.string s] (clone_run (by kernel_rfl) (by kernel_rfl)) (fun v w' => v = .string s ∧ Below w0.heap.size w0 w') ((str_clone s w0 h0 hl).mono fun e w' h => ⟨_, h.1, rfl, h.2⟩) (fun v w1 hR => ?_) ?_
    · obtain ⟨rfl, hc1⟩ := hR
      have hb1 : Below w.heap.size w w1 := hb0.trans (hc1.mono hb0.size)
      refine ⟨hS w1 hb1, fun hHeld => ?_⟩
      refine drawn_as (l' := #[true, true, true, true, true, true, true, true, true, true, true, true, true, false, false, false]) (by kernel_rfl) ?_
      refine drawn_act (a' := { tmps := #[.pointer (some ⟨d, 0, none⟩), .string s, undef, undef, .pointer (some ⟨d, 0, none⟩), .pointer (some ⟨d, 0, none⟩), .pointer (some ⟨d, 0, none⟩), .map (some bm), .string s, .string s, .pointer (some ⟨d, 0, none⟩), .pointer (some ⟨d, 0, none⟩), .pointer (some ⟨d, 0, none⟩), .map (some bm), .string s, V, .agg Z, undef, undef, undef, undef, undef, undef, undef, undef, undef], defers := [] }) (by kernel_rfl) ?_
      refine wpAnyH_ready (rs := [13]) (by kernel_rfl) (by simp) ?_
      obtain ⟨w2, hwz⟩ : ∃ wz, wz = w1.alloc (.cells Z 124) := ⟨_, rfl⟩
      have hb2 : Below w.heap.size w w2 := by rw [hwz]; exact hb1.alloc hb1.size _
      have hZn : w2.heap[w1.heap.size]? = some (.cells Z 124 (0, 0)) := by rw [hwz]; exact heap_alloc_new w1 _
      refine rdy_val (i := 13) rfl rfl (some 17) rfl (.slice (some ⟨w1.heap.size, 0, none⟩) 1 1) w2 (by rw [hwz]; exact mk_run (by kernel_rfl) (by kernel_rfl) HZ) (hS _ hb2) (fun hHeld => ?_) rdy_nil
      · clear hwz
        refine drawn_as (l' := #[true, true, true, true, true, true, true, true, true, true, true, true, true, true, false, false]) (by kernel_rfl) ?_
        refine drawn_act (a' := { tmps := #[.pointer (some ⟨d, 0, none⟩), .string s, undef, undef, .pointer (some ⟨d, 0, none⟩), .pointer (some ⟨d, 0, none⟩), .pointer (some ⟨d, 0, none⟩), .map (some bm), .string s, .string s, .pointer (some ⟨d, 0, none⟩), .pointer (some ⟨d, 0, none⟩), .pointer (some ⟨d, 0, none⟩), .map (some bm), .string s, V, .agg Z, .slice (some ⟨w1.heap.size, 0, none⟩) 1 1, undef, undef, undef, undef, undef, undef, undef, undef], defers := [] }) (by kernel_rfl) ?_
        have hIk := hI.below hb2
        obtain ⟨g, c, w8, hrun8, hrow8, hg8, hat8, hlt8⟩ := run_append_lies (P := Tryd.prog) w2 121 121 0 124 i0 (.agg Z) 385 385 Tryd.underlying121 hi hz0 hz1 hz2 HZS.out (by decide) V n (cellsE (M s.data.toList)) (own_below hVr hb2) ⟨w1.heap.size, 0, none⟩ 1 1 Z.toList HZL.out (news_of hZn) HZ1.out (by decide) hn63 hnby (Nat.zero_le _) w2.heap.size rfl
        obtain ⟨w9, hrun9, hmap9, hg9⟩ := (hIk.map_kept hg8 hVb).update lawS Tryd.underlying36 hNm hkey (hd_mk g (n + 1) c)
        have hfin := hIk.grown s.data.toList zeroE zeroE_ok V hVb (by rw [← HN.out]; exact own_below hVr hb2) g c hg8 hat8 (by rw [← HN.out, cellsE_snoc]; exact HZZ.out ▸ hrow8) (by rw [← HN.out]; exact hmap9) hg9
        have hbel9 := gr_grow hb2 hg8 hVB hat8 hlt8 hg9 hI.2.2.1.1
        refine wpAnyH_ready (rs := [14]) (by kernel_rfl) (by simp) ?_
        refine rdy_val (i := 14) rfl rfl (some 18) rfl (.slice (some ⟨g, 0, none⟩) (n + 1) c) w8 (app_run (by kernel_rfl) (by kernel_rfl) (by kernel_rfl) hrun8) (hIk.cell_kept hg8 hVb) (fun hHeld => ?_) rdy_nil
        refine drawn_as (l' := #[true, true, true, true, true, true, true, true, true, true, true, true, true, true, true, false]) (by kernel_rfl) ?_
        refine drawn_act (a' := { tmps := #[.pointer (some ⟨d, 0, none⟩), .string s, undef, undef, .pointer (some ⟨d, 0, none⟩), .pointer (some ⟨d, 0, none⟩), .pointer (some ⟨d, 0, none⟩), .map (some bm), .string s, .string s, .pointer (some ⟨d, 0, none⟩), .pointer (some ⟨d, 0, none⟩), .pointer (some ⟨d, 0, none⟩), .map (some bm), .string s, V, .agg Z, .slice (some ⟨w1.heap.size, 0, none⟩) 1 1, .slice (some ⟨g, 0, none⟩) (n + 1) c, undef, undef, undef, undef, undef, undef, undef], defers := [] }) (by kernel_rfl) ?_
        refine wpAnyH_ready (rs := [15]) (by kernel_rfl) (by simp) ?_
        obtain ⟨G9, C9, hI9⟩ := hfin
        refine rdy_unit (i := 15) rfl rfl none rfl w9 (upd_run (by kernel_rfl) (by kernel_rfl) (by kernel_rfl) (by kernel_rfl) hrun9) hI9.c0 (fun hHeld => ?_) rdy_nil
        refine wpAnyH_done (by kernel_rfl) ?_ _
        refine NoPanic.normal ?_
        simp only [Act.put]
        have c1 := hI9.c1
        have f1 := frozen_of_row _ _ 1 _ _ hI9.1
        have HD9 := hidn (hI9.of.freed (free - 1))
        clear hmap9 hrow8 hg8 hat8 hlt8 hg9 hrun9 hrun8 hIk hHeld
        go_wp2
        go_end0
        exact ⟨rfl, _, HD9.out, hbel9.trans (Gr.of ((Keeps.refl _ _).setCell (Or.inl hdB) _))⟩
    obtain ⟨w1, hwz⟩ : ∃ wz, wz = w0.alloc (.cells Z 124) := ⟨_, rfl⟩
    have hb1 : Below w.heap.size w w1 := by rw [hwz]; exact hb0.alloc hb0.size _
    have hZn : w1.heap[w0.heap.size]? = some (.cells Z 124 (0, 0)) := by rw [hwz]; exact heap_alloc_new w0 _
    refine rdy_val (i := 13) rfl rfl (some 17) rfl (.slice (some ⟨w0.heap.size, 0, none⟩) 1 1) w1 (by rw [hwz]; exact mk_run (by kernel_rfl) (by kernel_rfl) HZ) (hS _ hb1) (fun hHeld => ?_) rdy_nil
    · clear hwz
      refine drawn_as (l' := #[true, true, true, true, true, false, true, true, true, true, true, true, true, true, false, false]) (by kernel_rfl) ?_
      refine drawn_act (a' := { tmps := #[.pointer (some ⟨d, 0, none⟩), .string s, undef, undef, .pointer (some ⟨d, 0, none⟩), .pointer (some ⟨d, 0, none⟩), .pointer (some ⟨d, 0, none⟩), .map (some bm), .string s, undef, .pointer (some ⟨d, 0, none⟩), .pointer (some ⟨d, 0, none⟩), .pointer (some ⟨d, 0, none⟩), .map (some bm), .string s, V, .agg Z, .slice (some ⟨w0.heap.size, 0, none⟩) 1 1, undef, undef, undef, undef, undef, undef, undef, undef], defers := [] }) (by kernel_rfl) ?_
      refine wpAnyH_ready (rs := [5]) (by kernel_rfl) (by simp) ?_
      refine rdy_call (i := 5) rfl rfl (some 9) rfl 105 #[.string s] (clone_run (by kernel_rfl) (by kernel_rfl)) (fun v w' => v = .string s ∧ Below w1.heap.size w1 w') ((str_clone s w1 h0 hl).mono fun e w' h => ⟨_, h.1, rfl, h.2⟩) (fun v w2 hR => ?_) rdy_nil
      · obtain ⟨rfl, hc2⟩ := hR
        have hb2 : Below w.heap.size w w2 := hb1.trans (hc2.mono hb1.size)
        replace hZn := (hc2.block _ (Array.getElem?_eq_some_iff.1 hZn).1).trans hZn
        refine ⟨hS w2 hb2, fun hHeld => ?_⟩
        refine drawn_as (l' := #[true, true, true, true, true, true, true, true, true, true, true, true, true, true, false, false]) (by kernel_rfl) ?_
        refine drawn_act (a' := { tmps := #[.pointer (some ⟨d, 0, none⟩), .string s, undef, undef, .pointer (some ⟨d, 0, none⟩), .pointer (some ⟨d, 0, none⟩), .pointer (some ⟨d, 0, none⟩), .map (some bm), .string s, .string s, .pointer (some ⟨d, 0, none⟩), .pointer (some ⟨d, 0, none⟩), .pointer (some ⟨d, 0, none⟩), .map (some bm), .string s, V, .agg Z, .slice (some ⟨w0.heap.size, 0, none⟩) 1 1, undef, undef, undef, undef, undef, undef, undef, undef], defers := [] }) (by kernel_rfl) ?_
        have hIk := hI.below hb2
        obtain ⟨g, c, w8, hrun8, hrow8, hg8, hat8, hlt8⟩ := run_append_lies (P := Tryd.prog) w2 121 121 0 124 i0 (.agg Z) 385 385 Tryd.underlying121 hi hz0 hz1 hz2 HZS.out (by decide) V n (cellsE (M s.data.toList)) (own_below hVr hb2) ⟨w0.heap.size, 0, none⟩ 1 1 Z.toList HZL.out (news_of hZn) HZ1.out (by decide) hn63 hnby (Nat.zero_le _) w2.heap.size rfl
        obtain ⟨w9, hrun9, hmap9, hg9⟩ := (hIk.map_kept hg8 hVb).update lawS Tryd.underlying36 hNm hkey (hd_mk g (n + 1) c)
        have hfin := hIk.grown s.data.toList zeroE zeroE_ok V hVb (by rw [← HN.out]; exact own_below hVr hb2) g c hg8 hat8 (by rw [← HN.out, cellsE_snoc]; exact HZZ.out ▸ hrow8) (by rw [← HN.out]; exact hmap9) hg9
        have hbel9 := gr_grow hb2 hg8 hVB hat8 hlt8 hg9 hI.2.2.1.1
        refine wpAnyH_ready (rs := [14]) (by kernel_rfl) (by simp) ?_
        refine rdy_val (i := 14) rfl rfl (some 18) rfl (.slice (some ⟨g, 0, none⟩) (n + 1) c) w8 (app_run (by kernel_rfl) (by kernel_rfl) (by kernel_rfl) hrun8) (hIk.cell_kept hg8 hVb) (fun hHeld => ?_) rdy_nil
        refine drawn_as (l' := #[true, true, true, true, true, true, true, true, true, true, true, true, true, true, true, false]) (by kernel_rfl) ?_
        refine drawn_act (a' := { tmps := #[.pointer (some ⟨d, 0, none⟩), .string s, undef, undef, .pointer (some ⟨d, 0, none⟩), .pointer (some ⟨d, 0, none⟩), .pointer (some ⟨d, 0, none⟩), .map (some bm), .string s, .string s, .pointer (some ⟨d, 0, none⟩), .pointer (some ⟨d, 0, none⟩), .pointer (some ⟨d, 0, none⟩), .map (some bm), .string s, V, .agg Z, .slice (some ⟨w0.heap.size, 0, none⟩) 1 1, .slice (some ⟨g, 0, none⟩) (n + 1) c, undef, undef, undef, undef, undef, undef, undef], defers := [] }) (by kernel_rfl) ?_
        refine wpAnyH_ready (rs := [15]) (by kernel_rfl) (by simp) ?_
        obtain ⟨G9, C9, hI9⟩ := hfin
        refine rdy_unit (i := 15) rfl rfl none rfl w9 (upd_run (by kernel_rfl) (by kernel_rfl) (by kernel_rfl) (by kernel_rfl) hrun9) hI9.c0 (fun hHeld => ?_) rdy_nil
        refine wpAnyH_done (by kernel_rfl) ?_ _
        refine NoPanic.normal ?_
        simp only [Act.put]
        have c1 := hI9.c1
        have f1 := frozen_of_row _ _ 1 _ _ hI9.1
        have HD9 := hidn (hI9.of.freed (free - 1))
        clear hmap9 hrow8 hg8 hat8 hlt8 hg9 hrun9 hrun8 hIk hHeld
        go_wp2
        go_end0
        exact ⟨rfl, _, HD9.out, hbel9.trans (Gr.of ((Keeps.refl _ _).setCell (Or.inl hdB) _))⟩
  obtain ⟨w1, hwz⟩ : ∃ wz, wz = w0.alloc (.cells Z 124) := ⟨_, rfl⟩
  have hb1 : Below w.heap.size w w1 := by rw [hwz]; exact hb0.alloc hb0.size _
  have hZn : w1.heap[w0.heap.size]? = some (.cells Z 124 (0, 0)) := by rw [hwz]; exact heap_alloc_new w0 _
  refine rdy_val (i := 13) rfl rfl (some 17) rfl (.slice (some ⟨w0.heap.size, 0, none⟩) 1 1) w1 (by rw [hwz]; exact mk_run (by kernel_rfl) (by kernel_rfl) HZ) (hS _ hb1) (fun hHeld => ?_) rdy_nil
  · clear hwz
    refine drawn_as (l' := #[true, true, true, true, true, false, true, true, true, true, true, false, true, true, false, false]) (by kernel_rfl) ?_
    refine drawn_act (a' := { tmps := #[.pointer (some ⟨d, 0, none⟩), .string s, undef, undef, .pointer (some ⟨d, 0, none⟩), .pointer (some ⟨d, 0, none⟩), .pointer (some ⟨d, 0, none⟩), .map (some bm), .string s, undef, .pointer (some ⟨d, 0, none⟩), .pointer (some ⟨d, 0, none⟩), .pointer (some ⟨d, 0, none⟩), .map (some bm), .string s, undef, .agg Z, .slice (some ⟨w0.heap.size, 0, none⟩) 1 1, undef, undef, undef, undef, undef, undef, undef, undef], defers := [] }) (by kernel_rfl) ?_
    refine wpAnyH_ready (rs := [5, 11]) (by kernel_rfl) (by simp) ?_
    refine rdy_call (i := 5) rfl rfl (some 9) rfl 105 #[.string s] (clone_run (by kernel_rfl) (by kernel_rfl)) (fun v w' => v = .string s ∧ Below w1.heap.size w1 w') ((str_clone s w1 h0 hl).mono fun e w' h => ⟨_, h.1, rfl, h.2⟩) (fun v w2 hR => ?_) ?_
    · obtain ⟨rfl, hc2⟩ := hR
      have hb2 : Below w.heap.size w w2 := hb1.trans (hc2.mono hb1.size)
      replace hZn := (hc2.block _ (Array.getElem?_eq_some_iff.1 hZn).1).trans hZn
      refine ⟨hS w2 hb2, fun hHeld => ?_⟩
      refine drawn_as (l' := #[true, true, true, true, true, true, true, true, true, true, true, false, true, true, false, false]) (by kernel_rfl) ?_
      refine drawn_act (a' := { tmps := #[.pointer (some ⟨d, 0, none⟩), .string s, undef, undef, .pointer (some ⟨d, 0, none⟩), .pointer (some ⟨d, 0, none⟩), .pointer (some ⟨d, 0, none⟩), .map (some bm), .string s, .string s, .pointer (some ⟨d, 0, none⟩), .pointer (some ⟨d, 0, none⟩), .pointer (some ⟨d, 0, none⟩), .map (some bm), .string s, undef, .agg Z, .slice (some ⟨w0.heap.size, 0, none⟩) 1 1, undef, undef, undef, undef, undef, undef, undef, undef], defers := [] }) (by kernel_rfl) ?_
      refine wpAnyH_ready (rs := [11]) (by kernel_rfl) (by simp) ?_
      refine rdy_val (i := 11) rfl rfl (some 15) rfl V w2 (look_run (by kernel_rfl) (by kernel_rfl) (by kernel_rfl) (hV w2 hb2)) (hS w2 hb2) (fun hHeld => ?_) rdy_nil
      · refine drawn_as (l' := #[true, true, true, true, true, true, true, true, true, true, true, true, true, true, false, false]) (by kernel_rfl) ?_
        refine drawn_act (a' := { tmps := #[.pointer (some ⟨d, 0, none⟩), .string s, undef, undef, .pointer (some ⟨d, 0, none⟩), .pointer (some ⟨d, 0, none⟩), .pointer (some ⟨d, 0, none⟩), .map (some bm), .string s, .string s, .pointer (some ⟨d, 0, none⟩), .pointer (some ⟨d, 0, none⟩), .pointer (some ⟨d, 0, none⟩), .map (some bm), .string s, V, .agg Z, .slice (some ⟨w0.heap.size, 0, none⟩) 1 1, undef, undef, undef, undef, undef, undef, undef, undef], defers := [] }) (by kernel_rfl) ?_
        have hIk := hI.below hb2
        obtain ⟨g, c, w8, hrun8, hrow8, hg8, hat8, hlt8⟩ := run_append_lies (P := Tryd.prog) w2 121 121 0 124 i0 (.agg Z) 385 385 Tryd.underlying121 hi hz0 hz1 hz2 HZS.out (by decide) V n (cellsE (M s.data.toList)) (own_below hVr hb2) ⟨w0.heap.size, 0, none⟩ 1 1 Z.toList HZL.out (news_of hZn) HZ1.out (by decide) hn63 hnby (Nat.zero_le _) w2.heap.size rfl
        obtain ⟨w9, hrun9, hmap9, hg9⟩ := (hIk.map_kept hg8 hVb).update lawS Tryd.underlying36 hNm hkey (hd_mk g (n + 1) c)
        have hfin := hIk.grown s.data.toList zeroE zeroE_ok V hVb (by rw [← HN.out]; exact own_below hVr hb2) g c hg8 hat8 (by rw [← HN.out, cellsE_snoc]; exact HZZ.out ▸ hrow8) (by rw [← HN.out]; exact hmap9) hg9
        have hbel9 := gr_grow hb2 hg8 hVB hat8 hlt8 hg9 hI.2.2.1.1
        refine wpAnyH_ready (rs := [14]) (by kernel_rfl) (by simp) ?_
        refine rdy_val (i := 14) rfl rfl (some 18) rfl (.slice (some ⟨g, 0, none⟩) (n + 1) c) w8 (app_run (by kernel_rfl) (by kernel_rfl) (by kernel_rfl) hrun8) (hIk.cell_kept hg8 hVb) (fun hHeld => ?_) rdy_nil
        refine drawn_as (l' := #[true, true, true, true, true, true, true, true, true, true, true, true, true, true, true, false]) (by kernel_rfl) ?_
        refine drawn_act (a' := { tmps := #[.pointer (some ⟨d, 0, none⟩), .string s, undef, undef, .pointer (some ⟨d, 0, none⟩), .pointer (some ⟨d, 0, none⟩), .pointer (some ⟨d, 0, none⟩), .map (some bm), .string s, .string s, .pointer (some ⟨d, 0, none⟩), .pointer (some ⟨d, 0, none⟩), .pointer (some ⟨d, 0, none⟩), .map (some bm), .string s, V, .agg Z, .slice (some ⟨w0.heap.size, 0, none⟩) 1 1, .slice (some ⟨g, 0, none⟩) (n + 1) c, undef, undef, undef, undef, undef, undef, undef], defers := [] }) (by kernel_rfl) ?_
        refine wpAnyH_ready (rs := [15]) (by kernel_rfl) (by simp) ?_
        obtain ⟨G9, C9, hI9⟩ := hfin
        refine rdy_unit (i := 15) rfl rfl none rfl w9 (upd_run (by kernel_rfl) (by kernel_rfl) (by kernel_rfl) (by kernel_rfl) hrun9) hI9.c0 (fun hHeld => ?_) rdy_nil
        refine wpAnyH_done (by kernel_rfl) ?_ _
        refine NoPanic.normal ?_
        simp only [Act.put]
        have c1 := hI9.c1
        have f1 := frozen_of_row _ _ 1 _ _ hI9.1
        have HD9 := hidn (hI9.of.freed (free - 1))
        clear hmap9 hrow8 hg8 hat8 hlt8 hg9 hrun9 hrun8 hIk hHeld
        go_wp2
        go_end0
        exact ⟨rfl, _, HD9.out, hbel9.trans (Gr.of ((Keeps.refl _ _).setCell (Or.inl hdB) _))⟩
    refine rdy_val (i := 11) rfl rfl (some 15) rfl V w1 (look_run (by kernel_rfl) (by kernel_rfl) (by kernel_rfl) (hV w1 hb1)) (hS w1 hb1) (fun hHeld => ?_) rdy_nil
    · refine drawn_as (l' := #[true, true, true, true, true, false, true, true, true, true, true, true, true, true, false, false]) (by kernel_rfl) ?_
      refine drawn_act (a' := { tmps := #[.pointer (some ⟨d, 0, none⟩), .string s, undef, undef, .pointer (some ⟨d, 0, none⟩), .pointer (some ⟨d, 0, none⟩), .pointer (some ⟨d, 0, none⟩), .map (some bm), .string s, undef, .pointer (some ⟨d, 0, none⟩), .pointer (some ⟨d, 0, none⟩), .pointer (some ⟨d, 0, none⟩), .map (some bm), .string s, V, .agg Z, .slice (some ⟨w0.heap.size, 0, none⟩) 1 1, undef, undef, undef, undef, undef, undef, undef, undef], defers := [] }) (by kernel_rfl) ?_
      refine wpAnyH_ready (rs := [5]) (by kernel_rfl) (by simp) ?_
      refine rdy_call (i := 5) rfl rfl (some 9) rfl 105 #[.string s] (clone_run (by kernel_rfl) (by kernel_rfl)) (fun v w' => v = .string s ∧ Below w1.heap.size w1 w') ((str_clone s w1 h0 hl).mono fun e w' h => ⟨_, h.1, rfl, h.2⟩) (fun v w2 hR => ?_) rdy_nil
      · obtain ⟨rfl, hc2⟩ := hR
        have hb2 : Below w.heap.size w w2 := hb1.trans (hc2.mono hb1.size)
        replace hZn := (hc2.block _ (Array.getElem?_eq_some_iff.1 hZn).1).trans hZn
        refine ⟨hS w2 hb2, fun hHeld => ?_⟩
        refine drawn_as (l' := #[true, true, true, true, true, true, true, true, true, true, true, true, true, true, false, false]) (by kernel_rfl) ?_
        refine drawn_act (a' := { tmps := #[.pointer (some ⟨d, 0, none⟩), .string s, undef, undef, .pointer (some ⟨d, 0, none⟩), .pointer (some ⟨d, 0, none⟩), .pointer (some ⟨d, 0, none⟩), .map (some bm), .string s, .string s, .pointer (some ⟨d, 0, none⟩), .pointer (some ⟨d, 0, none⟩), .pointer (some ⟨d, 0, none⟩), .map (some bm), .string s, V, .agg Z, .slice (some ⟨w0.heap.size, 0, none⟩) 1 1, undef, undef, undef, undef, undef, undef, undef, undef], defers := [] }) (by kernel_rfl) ?_
        have hIk := hI.below hb2
        obtain ⟨g, c, w8, hrun8, hrow8, hg8, hat8, hlt8⟩ := run_append_lies (P := Tryd.prog) w2 121 121 0 124 i0 (.agg Z) 385 385 Tryd.underlying121 hi hz0 hz1 hz2 HZS.out (by decide) V n (cellsE (M s.data.toList)) (own_below hVr hb2) ⟨w0.heap.size, 0, none⟩ 1 1 Z.toList HZL.out (news_of hZn) HZ1.out (by decide) hn63 hnby (Nat.zero_le _) w2.heap.size rfl
        obtain ⟨w9, hrun9, hmap9, hg9⟩ := (hIk.map_kept hg8 hVb).update lawS Tryd.underlying36 hNm hkey (hd_mk g (n + 1) c)
        have hfin := hIk.grown s.data.toList zeroE zeroE_ok V hVb (by rw [← HN.out]; exact own_below hVr hb2) g c hg8 hat8 (by rw [← HN.out, cellsE_snoc]; exact HZZ.out ▸ hrow8) (by rw [← HN.out]; exact hmap9) hg9
        have hbel9 := gr_grow hb2 hg8 hVB hat8 hlt8 hg9 hI.2.2.1.1
        refine wpAnyH_ready (rs := [14]) (by kernel_rfl) (by simp) ?_
        refine rdy_val (i := 14) rfl rfl (some 18) rfl (.slice (some ⟨g, 0, none⟩) (n + 1) c) w8 (app_run (by kernel_rfl) (by kernel_rfl) (by kernel_rfl) hrun8) (hIk.cell_kept hg8 hVb) (fun hHeld => ?_) rdy_nil
        refine drawn_as (l' := #[true, true, true, true, true, true, true, true, true, true, true, true, true, true, true, false]) (by kernel_rfl) ?_
        refine drawn_act (a' := { tmps := #[.pointer (some ⟨d, 0, none⟩), .string s, undef, undef, .pointer (some ⟨d, 0, none⟩), .pointer (some ⟨d, 0, none⟩), .pointer (some ⟨d, 0, none⟩), .map (some bm), .string s, .string s, .pointer (some ⟨d, 0, none⟩), .pointer (some ⟨d, 0, none⟩), .pointer (some ⟨d, 0, none⟩), .map (some bm), .string s, V, .agg Z, .slice (some ⟨w0.heap.size, 0, none⟩) 1 1, .slice (some ⟨g, 0, none⟩) (n + 1) c, undef, undef, undef, undef, undef, undef, undef], defers := [] }) (by kernel_rfl) ?_
        refine wpAnyH_ready (rs := [15]) (by kernel_rfl) (by simp) ?_
        obtain ⟨G9, C9, hI9⟩ := hfin
        refine rdy_unit (i := 15) rfl rfl none rfl w9 (upd_run (by kernel_rfl) (by kernel_rfl) (by kernel_rfl) (by kernel_rfl) hrun9) hI9.c0 (fun hHeld => ?_) rdy_nil
        refine wpAnyH_done (by kernel_rfl) ?_ _
        refine NoPanic.normal ?_
        simp only [Act.put]
        have c1 := hI9.c1
        have f1 := frozen_of_row _ _ 1 _ _ hI9.1
        have HD9 := hidn (hI9.of.freed (free - 1))
        clear hmap9 hrow8 hg8 hat8 hlt8 hg9 hrun9 hrun8 hIk hHeld
        go_wp2
        go_end0
        exact ⟨rfl, _, HD9.out, hbel9.trans (Gr.of ((Keeps.refl _ _).setCell (Or.inl hdB) _))⟩
end Go.Proofs.YtidlogeeophogaaDoor
