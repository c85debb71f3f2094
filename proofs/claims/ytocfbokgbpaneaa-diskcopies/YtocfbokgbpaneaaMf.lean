/- The disk's Sync: its contracts. -/
import Derived.Test.YtocfbokgbpaneaaDiskSync
namespace Go.Proofs.Ytocfbokgbpaneaa
open Go.RowKit Go.Maps
set_option linter.unusedVariables false

section
variable {w : World} {d N : Nat} {F : Nat → Prop} {M : List UInt8 → List Ext} {free fuse : Int} {bm : Nat} {D : DataW Unit} {G C : List UInt8 → Nat}
theorem set_at {l : List Ext} {i : Nat} {x : Ext} (h : l[i]? = some x) : l.set i x = l := by
  obtain ⟨hi, he⟩ := List.getElem?_eq_some_iff.1 h
  rw [← he, List.set_getElem_self]
set_option maxHeartbeats 1000000 in
theorem sync_ext (h : DiskIs w d F N M free fuse bm D G C) (s : List UInt8) (i : Nat) (x : Ext) (hx : (M s)[i]? = some x) (o : Nat) (ho : i * 385 = o) :
    Calls Try.prog 46 #[.pointer (some ⟨G s, o, none⟩)] w fun e w' => e = .returned (.tuple #[]) ∧ DiskIs w' d F N (upd M s ((M s).set i x.synced)) free fuse bm D G C ∧ Gr F F w w' := by
  obtain ⟨p1, p2, p3, p4, p5, p6⟩ := h.parts s i x hx o ho
  have hsome : ∀ {l : List Ext} {y : Ext}, (M s).length = l.length → (upd M s (l.set i y) s)[i]? = some y := by
    intro l y hl
    obtain ⟨hi, _⟩ := List.getElem?_eq_some_iff.1 hx
    rw [upd_same, List.getElem?_set_self (by omega)]
  cases hw : x.waits with
  | true =>
    rw [hw] at p4
    refine (sync_wait w (G s) o x.wri p6.2.2.1 p3 (by simpa using h.thereAt s i x hx o ho 0 128 (by omega)) (h.thereAt s i x hx o ho 128 128 (by omega)) (h.thereAt s i x hx o ho 384 1 (by omega)) p4).mono ?_
    rintro e w' ⟨rfl, rfl⟩
    have hb : Below w.heap.size w w.drew := (Below.refl _ _).drew
    have h0 := h.below hb
    have hl := p6.2.2.1
    obtain ⟨h1, g1⟩ := h0.put s i x hx o ho 0 (vb x.wri) { x with dur := x.wri } ⟨p6.2.2, p6.2.1, p6.2.2⟩ (by rw [length_vb, hl]; omega) (cells_dur p6 _ hl)
    obtain ⟨h2, g2⟩ := h1.put s i _ (hsome rfl) o ho 128 (vb x.wri) { x with dur := x.wri, syn := x.wri } ⟨p6.2.2, p6.2.2, p6.2.2⟩ (by rw [length_vb, hl]; omega) (cells_syn (x := { x with dur := x.wri }) ⟨p6.2.2, p6.2.1, p6.2.2⟩ _ hl)
    rw [upd_upd, upd_same, List.set_set] at h2
    obtain ⟨h3, g3⟩ := h2.put s i _ (hsome rfl) o ho 384 [.bool false] ⟨x.wri, x.wri, x.wri, false⟩ ⟨p6.2.2, p6.2.2, p6.2.2⟩ (by simp) (cells_waits (x := { x with dur := x.wri, syn := x.wri }) ⟨p6.2.2, p6.2.2, p6.2.2⟩ false)
    rw [upd_upd, upd_same, List.set_set] at h3
    have e : x.synced = ⟨x.wri, x.wri, x.wri, false⟩ := by simp [Ext.synced, hw]
    rw [e]
    exact ⟨rfl, h3, (((Gr.of (Keeps.of_below hb)).trans g1).trans g2).trans g3⟩
  | false =>
    have e : x.synced = x := by simp [Ext.synced, hw]
    rw [e, set_at hx, upd_self M s _ rfl]
    rw [hw] at p4
    have H := hidn h
    clear h p1 p2 p3 p5 p6 hsome
    generalize G s = g at *
    go_enter Try.func46, Try.ntmps46
    go_wp2
    go_end0
    exact ⟨rfl, H.out, Gr.refl _ _⟩

theorem DiskIs.fused (h : DiskIs w d F N M free fuse bm D G C) (f' : Int) : DiskIs (w.setCell ⟨d, 2, none⟩ (.int .i64 f')) d F N M free f' bm D G C := by
  obtain ⟨h1, h2, h3, h4, h5, h6, h7⟩ := h
  refine ⟨?_, h2, h3, h4.setCell (map_ne h4 h1) _, h5, fun s hs => ?_, h7⟩
  · rw [setCell_eq_setRow _ _ _ _ _ _ _ h1]; exact setRow_heap _ _ _ _ _ _ h1
  · obtain ⟨a1, a2, a3⟩ := h6 s hs
    exact ⟨a1, own_setCell (a := ⟨d, 2, none⟩) a2 (fun e => row_ne a2 h1 (Option.some.inj e)) _, a3⟩
set_option maxHeartbeats 1000000 in
theorem burn_is (h : DiskIs w d F N M free fuse bm D G C) (h0 : fuse ≠ 0) (hf : -1 ≤ fuse) (hf2 : fuse ≤ 9223372036854775807) :
    Calls Try.prog 41 #[.pointer (some ⟨d, 0, none⟩)] w fun e w' => e = .returned (.bool true) ∧ DiskIs w' d F N M free (burnt fuse) bm D G C ∧ Gr F F w w' := by
  have hB := h.2.1.1
  have h' := hidn (h.fused (fuse - 1))
  have h'' := hidn h
  have h1 := h.1
  have c2 : w.cell? ⟨d, 2, none⟩ = some (.int .i64 fuse) := by rw [cell_of_row _ _ _ _ _ _ h1]; rfl
  have f2 := frozen_of_row _ _ 2 _ _ h1
  clear h1 h
  have e0 : (fuse == 0) = false := beq_eq_false_iff_ne.2 h0
  by_cases hm : fuse = -1
  · subst hm
    go_enter Try.func41, Try.ntmps41
    go_wp2
    go_ret
    exact ⟨rfl, h''.out, Gr.refl _ _⟩
  · have e1 : (fuse != -1) = true := bne_iff_ne.2 hm
    have hw : IntKind.i64.wrap (fuse - 1) = fuse - 1 := by rw [IntKind.wrap_i64]; omega
    have HE : Hid (burnt fuse = fuse - 1) := hidn (by unfold burnt; rw [if_neg hm])
    go_enter Try.func41, Try.ntmps41
    go_wp2
    go_ret
    rw [HE.out]
    exact ⟨rfl, h'.out, Gr.of ((Keeps.refl _ _).setCell hB _)⟩

theorem DiskIs.look2 (h : DiskIs w d F N M free fuse bm D G C) (s : ByteArray) (hs : s.size ≤ maxLen) (hne : M s.data.toList ≠ []) :
    (Instr.lookup 41 (.map (some bm)) (.string s) true).run Try.prog w = .ok (.tuple #[.slice (some ⟨G s.data.toList, 0, none⟩) (M s.data.toList).length (C s.data.toList), .bool true]) w := by
  obtain ⟨h1, h2, h3, h4, h5, h6, h7⟩ := h
  obtain ⟨v, ps, hrun, hv⟩ := h4.look_ok lawS Try.underlying41 (zeroSl w) hd_nil (Go.WideMaps.keyOf_string_mk Try.underlying9 hs)
  rw [(h6 _ hne).1] at hv
  rw [hd_inv hv, has_true_of_atKey (h6 _ hne).1] at hrun
  exact hrun
theorem DiskIs.look2_no (h : DiskIs w d F N M free fuse bm D G C) (s : ByteArray) (hs : s.size ≤ maxLen) (he : M s.data.toList = []) :
    (Instr.lookup 41 (.map (some bm)) (.string s) true).run Try.prog w = .ok (.tuple #[.slice none 0 0, .bool false]) w := by
  obtain ⟨h1, h2, h3, h4, h5, h6, h7⟩ := h
  obtain ⟨v, ps, hrun, hv⟩ := h4.look_ok lawS Try.underlying41 (zeroSl w) hd_nil (Go.WideMaps.keyOf_string_mk Try.underlying9 hs)
  rw [atKey_of_not_has (h5 _ he)] at hv
  rw [hd_inv_nil hv, h5 _ he] at hrun
  exact hrun
end

set_option maxHeartbeats 1000000 in
theorem sync_none (w : World) (d : Nat) (F : Nat → Prop) (N : Nat) (M : List UInt8 → List Ext) (free fuse : Int) (h : DiskOf w d F N M free fuse) (s : ByteArray) (hs : s.size ≤ maxLen) (he : M s.data.toList = []) :
    Calls Try.prog 17 #[.pointer (some ⟨d, 0, none⟩), .string s] w fun e w' => e = .returned (.int .i64 30) ∧ w' = w := by
  obtain ⟨bm, D, G, C, hI⟩ := h.is
  have hlk := hI.look2_no s hs he
  have c0 := hI.c0
  clear hI he
  go_enter Try.func17, Try.ntmps17
  go_wp2_with fail
  refine (isMade_any _ d F N M free fuse h).mono ?_
  rintro e w1 ⟨rfl, rfl⟩
  go_wp2
  go_ret
  exact ⟨rfl, rfl⟩

set_option maxHeartbeats 1000000 in
theorem sync_dead (w : World) (d : Nat) (F : Nat → Prop) (N : Nat) (M : List UInt8 → List Ext) (free : Int) (h : DiskOf w d F N M free 0) (s : ByteArray) (hs : s.size ≤ maxLen) (hne : M s.data.toList ≠ []) :
    Calls Try.prog 17 #[.pointer (some ⟨d, 0, none⟩), .string s] w fun e w' => e = .returned (.int .i64 31) ∧ w' = w := by
  obtain ⟨bm, D, G, C, hI⟩ := h.is
  have hlk := hI.look2 s hs hne
  have c0 := hI.c0
  clear hI hne
  go_enter Try.func17, Try.ntmps17
  go_wp2_with fail
  refine (isMade_any _ d F N M free 0 h).mono ?_
  rintro e w1 ⟨rfl, rfl⟩
  go_wp2_with fail
  refine (burn_zero _ d F N M free h).mono ?_
  rintro e w1 ⟨rfl, rfl⟩
  go_wp2
  go_ret
  exact ⟨rfl, rfl⟩

/-- A file with its first k extents synced. -/
def syncTo (l : List Ext) (k : Nat) : List Ext := (l.take k).map Ext.synced ++ l.drop k
theorem syncTo_zero (l : List Ext) : syncTo l 0 = l := by simp [syncTo]
theorem syncTo_all (l : List Ext) : syncTo l l.length = l.map Ext.synced := by simp [syncTo]
theorem syncTo_length (l : List Ext) (k : Nat) : (syncTo l k).length = l.length := by simp [syncTo]; omega
theorem syncTo_at (l : List Ext) (k : Nat) (hk : k < l.length) : (syncTo l k)[k]? = some l[k] := by
  unfold syncTo
  rw [List.getElem?_append_right (by simp; omega)]
  simp [Nat.min_eq_left (Nat.le_of_lt hk), List.getElem?_drop]
theorem syncTo_step (l : List Ext) (k : Nat) (hk : k < l.length) : (syncTo l k).set k l[k].synced = syncTo l (k + 1) := by
  unfold syncTo
  rw [List.set_append_right _ _ (by simp; omega), List.length_map, List.length_take, Nat.min_eq_left (by omega), Nat.sub_self, List.drop_eq_getElem_cons hk, List.set_cons_zero, List.take_succ_eq_append_getElem hk, List.map_append, List.append_assoc]
  rfl

set_option maxHeartbeats 2000000 in
theorem sync_disk (w : World) (d : Nat) (F : Nat → Prop) (N : Nat) (M : List UInt8 → List Ext) (free fuse : Int) (h : DiskOf w d F N M free fuse) (s : ByteArray) (hs : s.size ≤ maxLen) (hne : M s.data.toList ≠ []) (h0 : fuse ≠ 0) (hf : -1 ≤ fuse) (hf2 : fuse ≤ 9223372036854775807) :
    Calls Try.prog 17 #[.pointer (some ⟨d, 0, none⟩), .string s] w fun e w' => e = .returned (.int .i64 0) ∧ DiskOf w' d F N (upd M s.data.toList ((M s.data.toList).map Ext.synced)) free (burnt fuse) ∧ Gr F F w w' := by
  obtain ⟨bm, D, G, C, hI⟩ := h.is
  obtain ⟨n, hn⟩ : ∃ n, n = (M s.data.toList).length := ⟨_, rfl⟩
  have hlen := hI.len s.data.toList
  have hlk := hI.look2 s hs hne
  rw [← hn] at hlen hlk
  unfold maxLen at hlen
  have c0 := hI.c0
  have HN := hidn hn
  have HNE := hidn hne
  clear hne hn
  go_enter Try.func17, Try.ntmps17
  go_wp2_with fail
  refine (isMade_any _ d F N M free fuse h).mono ?_
  rintro e w1 ⟨rfl, rfl⟩
  go_wp2_with fail
  refine (burn_is hI h0 hf hf2).mono ?_
  rintro e w1 ⟨rfl, hI1, hG1⟩
  clear hlk c0 hI h
  obtain ⟨g, hg⟩ : ∃ g, g = G s.data.toList := ⟨_, rfl⟩
  rw [← hg]
  have HG := hidn hg
  clear hg
  generalize C s.data.toList = c
  have HI1 := hidn hI1
  have HG1 := hidn hG1
  clear hI1 hG1
  go_wp2_with fail
  go_loopw [27] (fun iv wr => ∃ k : Nat, k ≤ n ∧ iv = .int .i64 k ∧ Hid (DiskIs wr d F N (upd M s.data.toList (syncTo (M s.data.toList) k)) free (burnt fuse) bm D G C) ∧ Hid (Gr F F w1 wr)) (fun iv _ => n - (intOf iv).toNat)
  case atStart =>
    refine ⟨0, Nat.zero_le _, rfl, ?_, hidn (Gr.refl _ _)⟩
    rw [syncTo_zero, upd_self M _ _ rfl]
    exact HI1
  case round =>
    obtain ⟨k, hk, rfl, HK, HGK⟩ := hrel
    by_cases hlt : k < n
    · obtain ⟨o, ho⟩ : ∃ o, k * 385 = o := ⟨_, rfl⟩
      have hIX := ext_index g n c k o hlt ho
      have HO := hidn ho
      have hlt' : decide (k < n) = true := by simpa using hlt
      have HLT := hidn hlt
      clear ho
      go_wp2_with (with_reducible refine wpList_index (by rfl) 44 (.tmp 30) (.tmp 31) (by rfl) (.slice (some ⟨g, 0, none⟩) n c) (.int .i64 (k : Int)) (.pointer (some ⟨g, o, none⟩)) (by kernel_rfl) (by kernel_rfl) (hIX _) ?_)
      rw [HG.out]
      have hkl : k < (M s.data.toList).length := by rw [← HN.out]; exact HLT.out
      have hat : (upd M s.data.toList (syncTo (M s.data.toList) k) s.data.toList)[k]? = some (M s.data.toList)[k] := by rw [upd_same, syncTo_at _ _ hkl]
      refine (sync_ext HK.out s.data.toList k _ hat o HO.out).mono ?_
      rw [upd_upd, upd_same, syncTo_step _ _ hkl, ← HG.out]
      rintro e w5 ⟨rfl, hI5, hG5⟩
      have HI5 := hidn hI5
      have HG5 := hidn (HGK.out.trans hG5)
      clear hI5 hG5 hat hkl
      go_wp2
      go_roundw
      case rel => exact ⟨k + 1, HLT.out, by go_num, HI5, HG5⟩
      case measure => simp [intOf]; have := HLT.out; omega
    · obtain rfl : k = n := by omega
      have hlt' : decide (k < k) = false := by simp
      go_wp2
      go_ret
      have h1 := HK.out.of
      rw [HN.out, syncTo_all] at h1
      exact ⟨rfl, h1, HG1.out.trans HGK.out⟩
end Go.Proofs.Ytocfbokgbpaneaa

namespace Go.Proofs.Ytocfbokgbpaneaa
open Go.RowKit Go.Maps
set_option linter.unusedVariables false

/-- What a crash leaves of an extent that waits. -/
def Ext.crashed (x : Ext) (m : Nat) : Ext := { x with dur := x.wri.take m ++ x.dur.drop m, waits := false }
theorem Ext.crashed_ok {x : Ext} (h : x.ok) (m : Nat) : (x.crashed m).ok := by
  refine ⟨⟨?_, fun y hy => ?_⟩, h.2⟩
  · show (x.wri.take m ++ x.dur.drop m).length = 128
    simp [h.1.1, h.2.2.1]; omega
  · rcases List.mem_append.1 hy with hy | hy
    · exact h.2.2.2 y (List.mem_of_mem_take hy)
    · exact h.1.2 y (List.mem_of_mem_drop hy)
theorem copy_run {o : Oper} {a : Act} {w w' : World} {x y : Operand} {vx vy r : Value} (ho : o.op = Op.call { callee := .builtin .copy, args := #[x, y], argTypes := #[29, 29] }) (hx : a.eval x = vx) (hy : a.eval y = vy) (hr : (Builtin.copy_ #[29, 29] o.type #[vx, vy]).run Try.prog w = .ok r w') : (execOp a.eval o).run Try.prog w = .ok (.value r) w' := by
  unfold execOp
  simp only [ho, resolve, invoke, builtin, Sem.run_bind, Sem.run_pure, Result.andThen_ok, List.map_toArray, List.map_cons, List.map_nil, hx, hy, hr]

set_option maxHeartbeats 2000000 in
theorem crash_run (w : World) (g o m : Nat) (k km : Int) (hkm : (if k < 0 then (0 : Int) else k) = km) (hm : (if (128 : Int) < km then (128 : Int) else km) = (m : Int)) (wr : List Nat) (hl : wr.length = 128) (hR : w.rangeAt g (o + 256) (vb wr)) (hT1 : w.there g o 128) (hT3 : w.there g (o + 384) 1) :
    Calls Try.prog 49 #[.pointer (some ⟨g, o, none⟩), .int .i64 k] w fun e w' => e = .returned (.tuple #[]) ∧ w' = (w.drew.setCells g o (vb (wr.take m))).setCells g (o + 384) [.bool false] := by
  have hm0 : m ≤ 128 := by split at hm <;> omega
  have hlt : (vb (wr.take m)).length = m := by rw [length_vb, List.length_take, hl]; omega
  have hinfo : (Try.prog.info? 5).map (·.size) = some 1 := by kernel_rfl
  have e1 : ∀ ty, (Builtin.copy_ #[29, 29] ty #[.slice (some ⟨g, o, none⟩) m 128, .slice (some ⟨g, o + 256, none⟩) m 128]).run Try.prog w.drew = .ok (.int .i64 (m : Int)) (w.drew.setCells g o (vb (wr.take m))) := by
    intro ty
    have := run_copy_cells (P := Try.prog) w.drew 29 29 ty 5 g o m 128 ⟨g, o + 256, none⟩ m 128 (vb (wr.take m)) Try.underlying29 hinfo (by rw [hlt]; exact (Nat.min_self m).symm) (fun j v hj => ?_) (fun j hj => (hT1 j (by omega)).1) (fun j hj => (hT1 j (by omega)).2) (fun v hv => one_vb _ v hv)
    · rw [hlt] at this
      exact this
    · have hj' := (List.getElem?_eq_some_iff.1 hj).1
      rw [add_none]
      refine hR j v ?_
      rw [← hj]
      simp only [vb, List.getElem?_map, List.getElem?_take]
      rw [if_pos (by omega)]
  have t3 : (w.drew.setCells g o (vb (wr.take m))).there g (o + 384) 1 := World.there_setCells (show w.drew.there g (o + 384) 1 from hT3) _ _ _
  have c3 : ∃ v, (w.drew.setCells g o (vb (wr.take m))).cell? ⟨g, o + 384, none⟩ = some v := Option.isSome_iff_exists.1 (by simpa using (t3 0 (by omega)).1)
  have f3 : (w.drew.setCells g o (vb (wr.take m))).frozen? ⟨g, o + 384, none⟩ = false := by simpa using (t3 0 (by omega)).2
  obtain ⟨v3, c3⟩ := c3
  obtain ⟨w0, hw0⟩ : ∃ w0, w0 = w.drew := ⟨_, rfl⟩
  rw [← hw0] at e1 c3 f3 ⊢
  obtain ⟨w1, hw1⟩ : ∃ w1, w1 = w0.setCells g o (vb (wr.take m)) := ⟨_, rfl⟩
  have E1 := hidn e1
  rw [← hw1] at E1 c3 f3 ⊢
  have HW0 := hidn hw0
  clear hw0 hw1 t3 hT1 hT3 hR hl hlt e1 hinfo
  have hmm : (m : Int) ≤ 128 := by omega
  go_enter Try.func49, Try.ntmps49
  go_wp2_with fail
  refine wp_region_noPanic ?_
  refine wp_region_held_drew (S := fun w' => True) (by kernel_rfl) trivial (fun hHeld => ?_)
  rw [← HW0.out]
  refine wpAnyH_take (i := 0) (v := Value.pointer (some ⟨g, o, none⟩)) rfl (by kernel_rfl) (by kernel_rfl) (by kernel_rfl) (fun _ _ _ h => h) (Or.inl ⟨by rfl, fun w hw => by go_simp⟩) hHeld ?_
  refine wpAnyH_take (i := 1) (v := Value.pointer (some ⟨g, o, none⟩)) rfl (by kernel_rfl) (by kernel_rfl) (by kernel_rfl) (fun _ _ _ h => h) (Or.inl ⟨by rfl, fun w hw => by go_simp⟩) hHeld ?_
  refine wpAnyH_take (i := 2) (v := Value.pointer (some ⟨g, o, none⟩)) rfl (by kernel_rfl) (by kernel_rfl) (by kernel_rfl) (fun _ _ _ h => h) (Or.inl ⟨by rfl, fun w hw => by go_simp⟩) hHeld ?_
  refine wpAnyH_take (i := 3) (v := Value.int .i64 (m : Int)) rfl (by kernel_rfl) (by kernel_rfl) (by kernel_rfl) (fun _ _ _ h => h) (Or.inl ⟨by rfl, fun w hw => by go_simp⟩) hHeld ?_
  refine drawn_as (l' := #[true, true, true, true, false, false, false, false, false, false, false]) (by kernel_rfl) ?_
  refine drawn_act (a' := { tmps := #[.pointer (some ⟨g, o, none⟩), .int .i64 k, undef, undef, .int .i64 (m : Int), .int .i64 k, .int .i64 km, .int .i64 (m : Int), .pointer (some ⟨g, o, none⟩), .pointer (some ⟨g, o, none⟩), .pointer (some ⟨g, o, none⟩), .int .i64 (m : Int), undef, undef, undef, undef, undef, undef, undef, undef, undef, undef], defers := [] }) (by kernel_rfl) ?_
  refine wpAnyH_take (i := 4) (v := Value.slice (some ⟨g, o, none⟩) m 128) rfl (by kernel_rfl) (by kernel_rfl) (by kernel_rfl) (fun _ _ _ h => h) (Or.inl ⟨by rfl, fun w hw => by go_simp⟩) hHeld ?_
  refine drawn_as (l' := #[true, true, true, true, true, false, false, false, false, false, false]) (by kernel_rfl) ?_
  refine drawn_act (a' := { tmps := #[.pointer (some ⟨g, o, none⟩), .int .i64 k, undef, undef, .int .i64 (m : Int), .int .i64 k, .int .i64 km, .int .i64 (m : Int), .pointer (some ⟨g, o, none⟩), .pointer (some ⟨g, o, none⟩), .pointer (some ⟨g, o, none⟩), .int .i64 (m : Int), .slice (some ⟨g, o, none⟩) m 128, undef, undef, undef, undef, undef, undef, undef, undef, undef], defers := [] }) (by kernel_rfl) ?_
  refine wpAnyH_take (i := 5) (v := Value.pointer (some ⟨g, o, none⟩)) rfl (by kernel_rfl) (by kernel_rfl) (by kernel_rfl) (fun _ _ _ h => h) (Or.inl ⟨by rfl, fun w hw => by go_simp⟩) hHeld ?_
  refine wpAnyH_take (i := 6) (v := Value.pointer (some ⟨g, o, none⟩)) rfl (by kernel_rfl) (by kernel_rfl) (by kernel_rfl) (fun _ _ _ h => h) (Or.inl ⟨by rfl, fun w hw => by go_simp⟩) hHeld ?_
  refine wpAnyH_take (i := 7) (v := Value.pointer (some ⟨g, o + 256, none⟩)) rfl (by kernel_rfl) (by kernel_rfl) (by kernel_rfl) (fun _ _ _ h => h) (Or.inl ⟨by rfl, fun w hw => by go_simp⟩) hHeld ?_
  refine wpAnyH_take (i := 8) (v := Value.int .i64 (m : Int)) rfl (by kernel_rfl) (by kernel_rfl) (by kernel_rfl) (fun _ _ _ h => h) (Or.inl ⟨by rfl, fun w hw => by go_simp⟩) hHeld ?_
  refine drawn_as (l' := #[true, true, true, true, true, true, true, true, true, false, false]) (by kernel_rfl) ?_
  refine drawn_act (a' := { tmps := #[.pointer (some ⟨g, o, none⟩), .int .i64 k, undef, undef, .int .i64 (m : Int), .int .i64 k, .int .i64 km, .int .i64 (m : Int), .pointer (some ⟨g, o, none⟩), .pointer (some ⟨g, o, none⟩), .pointer (some ⟨g, o, none⟩), .int .i64 (m : Int), .slice (some ⟨g, o, none⟩) m 128, .pointer (some ⟨g, o, none⟩), .pointer (some ⟨g, o, none⟩), .pointer (some ⟨g, o + 256, none⟩), .int .i64 (m : Int), undef, undef, undef, undef, undef], defers := [] }) (by kernel_rfl) ?_
  refine wpAnyH_take (i := 9) (v := Value.slice (some ⟨g, o + 256, none⟩) m 128) rfl (by kernel_rfl) (by kernel_rfl) (by kernel_rfl) (fun _ _ _ h => h) (Or.inl ⟨by rfl, fun w hw => by go_simp⟩) hHeld ?_
  refine drawn_as (l' := #[true, true, true, true, true, true, true, true, true, true, false]) (by kernel_rfl) ?_
  refine drawn_act (a' := { tmps := #[.pointer (some ⟨g, o, none⟩), .int .i64 k, undef, undef, .int .i64 (m : Int), .int .i64 k, .int .i64 km, .int .i64 (m : Int), .pointer (some ⟨g, o, none⟩), .pointer (some ⟨g, o, none⟩), .pointer (some ⟨g, o, none⟩), .int .i64 (m : Int), .slice (some ⟨g, o, none⟩) m 128, .pointer (some ⟨g, o, none⟩), .pointer (some ⟨g, o, none⟩), .pointer (some ⟨g, o + 256, none⟩), .int .i64 (m : Int), .slice (some ⟨g, o + 256, none⟩) m 128, undef, undef, undef, undef], defers := [] }) (by kernel_rfl) ?_
  refine wpAnyH_ready (rs := [10]) (by kernel_rfl) (by simp) ?_
  refine rdy_val (i := 10) rfl rfl (some 18) rfl (.int .i64 (m : Int)) w1 (copy_run (x := .tmp 12) (y := .tmp 17) (by kernel_rfl) (by kernel_rfl) (by kernel_rfl) (E1.out _)) trivial (fun hHeld => ?_) rdy_nil
  refine drawn_as (l' := #[true, true, true, true, true, true, true, true, true, true, true]) (by kernel_rfl) ?_
  refine drawn_act (a' := { tmps := #[.pointer (some ⟨g, o, none⟩), .int .i64 k, undef, undef, .int .i64 (m : Int), .int .i64 k, .int .i64 km, .int .i64 (m : Int), .pointer (some ⟨g, o, none⟩), .pointer (some ⟨g, o, none⟩), .pointer (some ⟨g, o, none⟩), .int .i64 (m : Int), .slice (some ⟨g, o, none⟩) m 128, .pointer (some ⟨g, o, none⟩), .pointer (some ⟨g, o, none⟩), .pointer (some ⟨g, o + 256, none⟩), .int .i64 (m : Int), .slice (some ⟨g, o + 256, none⟩) m 128, .int .i64 (m : Int), undef, undef, undef], defers := [] }) (by kernel_rfl) ?_
  refine wpAnyH_done (by kernel_rfl) ?_ _
  refine NoPanic.normal ?_
  go_wp2
  go_end0
  exact ⟨rfl, rfl⟩
end Go.Proofs.Ytocfbokgbpaneaa
