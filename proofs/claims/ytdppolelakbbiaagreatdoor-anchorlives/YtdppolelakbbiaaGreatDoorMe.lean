/- The disk's Sync: its contracts. -/
import Derived.Test.YtdppolelakbbiaaGreatDoorMd
import Derived.DeepKeys4
import Derived.Maps.RangeWalk
namespace Go.Proofs.YtdppolelakbbiaaGreatDoor
open Go.RowKit Go.Maps
set_option linter.unusedVariables false
section
variable {w : World} {d N : Nat} {F : Nat → Prop} {M : List UInt8 → List Ext} {free fuse : Int} {bm : Nat} {D : DataW Unit} {G C : List UInt8 → Nat}
theorem set_at {l : List Ext} {i : Nat} {x : Ext} (h : l[i]? = some x) : l.set i x = l := by
 obtain ⟨hi, he⟩ := lQ4.1 h
 rw [← he, List.set_getElem_self]
set_option maxHeartbeats 1000000 in
theorem sync_ext (h : DiskIs w d F N M free fuse bm D G C) (s : List UInt8) (i : Nat) (x : Ext) (hx : (M s)[i]? = some x) (o : Nat) (ho : i * 385 = o) :
  Calls Tryz.prog 102 #[.pointer (some ⟨G s, o, none⟩)] w fun e w' => e = .returned (.tuple #[]) ∧ DiskIs w' d F N (upd M s ((M s).set i x.synced)) free fuse bm D G C ∧ Gr F F w w' := by
 obtain ⟨p1, p2, p3, p4, p5, p6⟩ := h.parts s i x hx o ho
 have hsome : ∀ {l : List Ext} {y : Ext}, (M s).length = l.length → (upd M s (l.set i y) s)[i]? = some y := by
  intro l y hl
  obtain ⟨hi, _⟩ := lQ4.1 hx
  rw [upd_same, List.getElem?_set_self (by omega)]
 cases hw : x.waits with
 | true =>
  rw [hw] at p4
  refine (sync_wait w (G s) o x.wri p6.2.2.1 p3 (by simpa using h.thereAt s i x hx o ho 0 128 (by omega)) (h.thereAt s i x hx o ho 128 128 (by omega)) (h.thereAt s i x hx o ho 384 1 (by omega)) p4).mono ?_
  rintro e w' ⟨rfl, rfl⟩
  have hb : Below w.heap.size w w.drew := (Below.refl _ _).drew
  have h0 := h.below hb
  have hl := p6.2.2.1
  obtain ⟨h1, g1⟩ := h0.put s i x hx o ho 0 (vb x.wri) { x with dur := x.wri } ⟨p6.2.2, p6.2.1, p6.2.2⟩ (by rw [length_vb, hl]; omega) (cells_dur p6 _ hl)
  obtain ⟨h2, g2⟩ := h1.put s i _ (hsome rfl) o ho 128 (vb x.wri) { x with dur := x.wri, syn := x.wri } ⟨p6.2.2, p6.2.2, p6.2.2⟩ (by rw [length_vb, hl]; omega) (cells_syn (x := { x with dur := x.wri }) ⟨p6.2.2, p6.2.1, p6.2.2⟩ _ hl)
  rw [upd_upd, upd_same, List.set_set] at h2
  obtain ⟨h3, g3⟩ := h2.put s i _ (hsome rfl) o ho 384 [.bool false] ⟨x.wri, x.wri, x.wri, false⟩ ⟨p6.2.2, p6.2.2, p6.2.2⟩ (by simp) (cells_waits (x := { x with dur := x.wri, syn := x.wri }) ⟨p6.2.2, p6.2.2, p6.2.2⟩ false)
  rw [upd_upd, upd_same, List.set_set] at h3
  have e : x.synced = ⟨x.wri, x.wri, x.wri, false⟩ := by simp [Ext.synced, hw]
  rw [e]
  exact ⟨rfl, h3, (((Gr.of (Keeps.of_below hb)).trans g1).trans g2).trans g3⟩
 | false =>
  have e : x.synced = x := by simp [Ext.synced, hw]
  rw [e, set_at hx, upd_self M s _ rfl]
  rw [hw] at p4
  have H := hidn h
  clear h p1 p2 p3 p5 p6 hsome
  generalize G s = g at *
  go_enter Tryz.func102, Tryz.ntmps102
  go_wp2
  go_end0
  exact ⟨rfl, H.out, Gr.refl _ _⟩
theorem DiskIs.fused (h : DiskIs w d F N M free fuse bm D G C) (f' : Int) : DiskIs (w.setCell ⟨d, 2, none⟩ (.int .i64 f')) d F N M free f' bm D G C := by
 obtain ⟨h1, h2, h3, h4, h5, h6, h7⟩ := h
 refine ⟨?_, h2, h3, h4.setCell (map_ne h4 h1) _, h5, fun s hs => ?_, h7⟩
 ·
  rw [setCell_eq_setRow _ _ _ _ _ _ _ h1]; exact setRow_heap _ _ _ _ _ _ h1
 ·
  obtain ⟨a1, a2, a3⟩ := h6 s hs
  exact ⟨a1, own_setCell (a := ⟨d, 2, none⟩) a2 (fun e => row_ne a2 h1 (lQ5 e)) _, a3⟩
set_option maxHeartbeats 1000000 in
theorem burn_is (h : DiskIs w d F N M free fuse bm D G C) (h0 : fuse ≠ 0) (hf : -1 ≤ fuse) (hf2 : fuse ≤ 9223372036854775807) :
  Calls Tryz.prog 101 #[.pointer (some ⟨d, 0, none⟩)] w fun e w' => e = .returned (.bool true) ∧ DiskIs w' d F N M free (burnt fuse) bm D G C ∧ Gr F F w w' := by
 have hB := h.2.1.1
 have h' := hidn (h.fused (fuse - 1))
 have h'' := hidn h
 have h1 := h.1
 have c2 : w.cell? ⟨d, 2, none⟩ = some (.int .i64 fuse) := by rw [cell_of_row _ _ _ _ _ _ h1]; rfl
 have f2 := frozen_of_row _ _ 2 _ _ h1
 clear h1 h
 have e0 : (fuse == 0) = false := beq_eq_false_iff_ne.2 h0
 by_cases hm : fuse = -1
 ·
  subst hm
  go_enter Tryz.func101, Tryz.ntmps101
  go_wp2
  go_ret
  exact ⟨rfl, h''.out, Gr.refl _ _⟩
 ·
  have e1 : (fuse != -1) = true := bne_iff_ne.2 hm
  have hw : IntKind.i64.wrap (fuse - 1) = fuse - 1 := by rw [IntKind.wrap_i64]; omega
  have HE : Hid (burnt fuse = fuse - 1) := hidn (by unfold burnt; rw [if_neg hm])
  go_enter Tryz.func101, Tryz.ntmps101
  go_wp2
  go_ret
  rw [HE.out]
  exact ⟨rfl, h'.out, Gr.of ((Keeps.refl _ _).setCell hB _)⟩
theorem DiskIs.look2 (h : DiskIs w d F N M free fuse bm D G C) (s : ByteArray) (hs : s.size ≤ maxLen) (hne : M s.data.toList ≠ []) :
  (Instr.lookup 122 (.map (some bm)) (.string s) true).run Tryz.prog w = .ok (.tuple #[.slice (some ⟨G s.data.toList, 0, none⟩) (M s.data.toList).length (C s.data.toList), .bool true]) w := by
 obtain ⟨h1, h2, h3, h4, h5, h6, h7⟩ := h
 obtain ⟨v, ps, hrun, hv⟩ := h4.look_ok lawS Tryz.underlying122 (zeroSl w) hd_nil (Go.WideMaps.keyOf_string_mk Tryz.underlying9 hs)
 rw [(h6 _ hne).1] at hv
 rw [hd_inv hv, has_true_of_atKey (h6 _ hne).1] at hrun
 exact hrun
theorem DiskIs.look2_no (h : DiskIs w d F N M free fuse bm D G C) (s : ByteArray) (hs : s.size ≤ maxLen) (he : M s.data.toList = []) :
  (Instr.lookup 122 (.map (some bm)) (.string s) true).run Tryz.prog w = .ok (.tuple #[.slice none 0 0, .bool false]) w := by
 obtain ⟨h1, h2, h3, h4, h5, h6, h7⟩ := h
 obtain ⟨v, ps, hrun, hv⟩ := h4.look_ok lawS Tryz.underlying122 (zeroSl w) hd_nil (Go.WideMaps.keyOf_string_mk Tryz.underlying9 hs)
 rw [atKey_of_not_has (h5 _ he)] at hv
 rw [hd_inv_nil hv, h5 _ he] at hrun
 exact hrun
end
set_option maxHeartbeats 1000000 in
theorem sync_none (w : World) (d : Nat) (F : Nat → Prop) (N : Nat) (M : List UInt8 → List Ext) (free fuse : Int) (h : DiskOf w d F N M free fuse) (s : ByteArray) (hs : s.size ≤ maxLen) (he : M s.data.toList = []) :
  Calls Tryz.prog 45 #[.pointer (some ⟨d, 0, none⟩), .string s] w fun e w' => e = .returned (.int .i64 30) ∧ w' = w := by
 obtain ⟨bm, D, G, C, hI⟩ := h.is
 have hlk := hI.look2_no s hs he
 have c0 := hI.c0
 clear hI he
 go_enter Tryz.func45, Tryz.ntmps45
 go_wp2_with fail
 refine (isMade_any _ d F N M free fuse h).mono ?_
 rintro e w1 ⟨rfl, rfl⟩
 go_wp2
 go_ret
 exact ⟨rfl, rfl⟩
set_option maxHeartbeats 1000000 in
theorem sync_dead (w : World) (d : Nat) (F : Nat → Prop) (N : Nat) (M : List UInt8 → List Ext) (free : Int) (h : DiskOf w d F N M free 0) (s : ByteArray) (hs : s.size ≤ maxLen) (hne : M s.data.toList ≠ []) :
  Calls Tryz.prog 45 #[.pointer (some ⟨d, 0, none⟩), .string s] w fun e w' => e = .returned (.int .i64 31) ∧ w' = w := by
 obtain ⟨bm, D, G, C, hI⟩ := h.is
 have hlk := hI.look2 s hs hne
 have c0 := hI.c0
 clear hI hne
 go_enter Tryz.func45, Tryz.ntmps45
 go_wp2_with fail
 refine (isMade_any _ d F N M free 0 h).mono ?_
 rintro e w1 ⟨rfl, rfl⟩
 go_wp2_with fail
 refine (burn_zero _ d F N M free h).mono ?_
 rintro e w1 ⟨rfl, rfl⟩
 go_wp2
 go_ret
 exact ⟨rfl, rfl⟩
def syncTo (l : List Ext) (k : Nat) : List Ext := (l.take k).map Ext.synced ++ l.drop k
theorem syncTo_zero (l : List Ext) : syncTo l 0 = l := by simp [syncTo]
theorem syncTo_all (l : List Ext) : syncTo l l.length = l.map Ext.synced := by simp [syncTo]
theorem syncTo_at (l : List Ext) (k : Nat) (hk : k < l.length) : (syncTo l k)[k]? = some l[k] := by
 unfold syncTo
 rw [List.getElem?_append_right (by simp; omega)]
 simp [Nat.min_eq_left (Nat.le_of_lt hk), List.getElem?_drop]
theorem syncTo_step (l : List Ext) (k : Nat) (hk : k < l.length) : (syncTo l k).set k l[k].synced = syncTo l (k + 1) := by
 unfold syncTo
 rw [List.set_append_right _ _ (by simp; omega), List.length_map, List.length_take, Nat.min_eq_left (by omega), Nat.sub_self, List.drop_eq_getElem_cons hk, List.set_cons_zero, List.take_succ_eq_append_getElem hk, List.map_append, List.append_assoc]
 rfl
set_option maxHeartbeats 2000000 in
theorem sync_disk (w : World) (d : Nat) (F : Nat → Prop) (N : Nat) (M : List UInt8 → List Ext) (free fuse : Int) (h : DiskOf w d F N M free fuse) (s : ByteArray) (hs : s.size ≤ maxLen) (hne : M s.data.toList ≠ []) (h0 : fuse ≠ 0) (hf : -1 ≤ fuse) (hf2 : fuse ≤ 9223372036854775807) :
  Calls Tryz.prog 45 #[.pointer (some ⟨d, 0, none⟩), .string s] w fun e w' => e = .returned (.int .i64 0) ∧ DiskOf w' d F N (upd M s.data.toList ((M s.data.toList).map Ext.synced)) free (burnt fuse) ∧ Gr F F w w' := by
 obtain ⟨bm, D, G, C, hI⟩ := h.is
 obtain ⟨n, hn⟩ : ∃ n, n = (M s.data.toList).length := ⟨_, rfl⟩
 have hlen := hI.len s.data.toList
 have hlk := hI.look2 s hs hne
 rw [← hn] at hlen hlk
 unfold maxLen at hlen
 have c0 := hI.c0
 have HN := hidn hn
 have HNE := hidn hne
 clear hne hn
 go_enter Tryz.func45, Tryz.ntmps45
 go_wp2_with fail
 refine (isMade_any _ d F N M free fuse h).mono ?_
 rintro e w1 ⟨rfl, rfl⟩
 go_wp2_with fail
 refine (burn_is hI h0 hf hf2).mono ?_
 rintro e w1 ⟨rfl, hI1, hG1⟩
 clear hlk c0 hI h
 obtain ⟨g, hg⟩ : ∃ g, g = G s.data.toList := ⟨_, rfl⟩
 rw [← hg]
 have HG := hidn hg
 clear hg
 generalize C s.data.toList = c
 have HI1 := hidn hI1
 have HG1 := hidn hG1
 clear hI1 hG1
 go_wp2_with fail
 go_loopw [27] (fun iv wr => ∃ k : Nat, k ≤ n ∧ iv = .int .i64 k ∧ Hid (DiskIs wr d F N (upd M s.data.toList (syncTo (M s.data.toList) k)) free (burnt fuse) bm D G C) ∧ Hid (Gr F F w1 wr)) (fun iv _ => n - (intOf iv).toNat)
 case atStart =>
  refine ⟨0, Nat.zero_le _, rfl, ?_, hidn (Gr.refl _ _)⟩
  rw [syncTo_zero, upd_self M _ _ rfl]
  exact HI1
 case round =>
  obtain ⟨k, hk, rfl, HK, HGK⟩ := hrel
  by_cases hlt : k < n
  ·
   obtain ⟨o, ho⟩ : ∃ o, k * 385 = o := ⟨_, rfl⟩
   have hIX := ext_index g n c k o hlt ho
   have HO := hidn ho
   have hlt' : decide (k < n) = true := by simpa using hlt
   have HLT := hidn hlt
   clear ho
   go_wp2_with (with_reducible refine wpList_index (by rfl) 132 (.tmp 30) (.tmp 31) (by rfl) (.slice (some ⟨g, 0, none⟩) n c) (.int .i64 (k : Int)) (.pointer (some ⟨g, o, none⟩)) (by kernel_rfl) (by kernel_rfl) (hIX _) ?_)
   rw [HG.out]
   have hkl : k < (M s.data.toList).length := by rw [← HN.out]; exact HLT.out
   have hat : (upd M s.data.toList (syncTo (M s.data.toList) k) s.data.toList)[k]? = some (M s.data.toList)[k] := by rw [upd_same, syncTo_at _ _ hkl]
   refine (sync_ext HK.out s.data.toList k _ hat o HO.out).mono ?_
   rw [upd_upd, upd_same, syncTo_step _ _ hkl, ← HG.out]
   rintro e w5 ⟨rfl, hI5, hG5⟩
   have HI5 := hidn hI5
   have HG5 := hidn (HGK.out.trans hG5)
   clear hI5 hG5 hat hkl
   go_wp2
   go_roundw
   case rel => exact ⟨k + 1, HLT.out, by go_num, HI5, HG5⟩
   case measure => simp [intOf]; have := HLT.out; omega
  ·
   obtain rfl : k = n := by omega
   have hlt' : decide (k < k) = false := by simp
   go_wp2
   go_ret
   have h1 := HK.out.of
   rw [HN.out, syncTo_all] at h1
   exact ⟨rfl, h1, HG1.out.trans HGK.out⟩
end Go.Proofs.YtdppolelakbbiaaGreatDoor

namespace Go.Proofs.YtdppolelakbbiaaGreatDoor
open Go.RowKit Go.Maps
set_option linter.unusedVariables false
def Ext.crashed (x : Ext) (m : Nat) : Ext := { x with dur := x.wri.take m ++ x.dur.drop m, waits := false }
theorem Ext.crashed_ok {x : Ext} (h : x.ok) (m : Nat) : (x.crashed m).ok := by
 refine ⟨⟨?_, fun y hy => ?_⟩, h.2⟩
 ·
  show (x.wri.take m ++ x.dur.drop m).length = 128
  simp [h.1.1, h.2.2.1]; omega
 ·
  rcases List.mem_append.1 hy with hy | hy
  ·
   exact h.2.2.2 y (List.mem_of_mem_take hy)
  ·
   exact h.1.2 y (List.mem_of_mem_drop hy)
theorem copy_run {o : Oper} {a : Act} {w w' : World} {x y : Operand} {vx vy r : Value} (ho : o.op = Op.call { callee := .builtin .copy, args := #[x, y], argTypes := #[28, 28] }) (hx : a.eval x = vx) (hy : a.eval y = vy) (hr : (Builtin.copy_ #[28, 28] o.type #[vx, vy]).run Tryz.prog w = .ok r w') : (execOp a.eval o).run Tryz.prog w = .ok (.value r) w' := by
 unfold execOp
 simp only [ho, resolve, invoke, builtin, Sem.run_bind, Sem.run_pure, Result.andThen_ok, List.map_toArray, List.map_cons, List.map_nil, hx, hy, hr]
set_option maxHeartbeats 2000000 in
theorem crash_run (w : World) (g o m : Nat) (k km : Int) (hkm : (if k < 0 then (0 : Int) else k) = km) (hm : (if (128 : Int) < km then (128 : Int) else km) = (m : Int)) (wr : List Nat) (hl : wr.length = 128) (hR : w.rangeAt g (o + 256) (vb wr)) (hT1 : w.there g o 128) (hT3 : w.there g (o + 384) 1) :
  Calls Tryz.prog 111 #[.pointer (some ⟨g, o, none⟩), .int .i64 k] w fun e w' => e = .returned (.tuple #[]) ∧ w' = (w.drew.setCells g o (vb (wr.take m))).setCells g (o + 384) [.bool false] := by
 have hm0 : m ≤ 128 := by split at hm <;> omega
 have hlt : (vb (wr.take m)).length = m := by rw [length_vb, List.length_take, hl]; omega
 have hinfo : (Tryz.prog.info? 5).map (·.size) = some 1 := by kernel_rfl
 have e1 : ∀ ty, (Builtin.copy_ #[28, 28] ty #[.slice (some ⟨g, o, none⟩) m 128, .slice (some ⟨g, o + 256, none⟩) m 128]).run Tryz.prog w.drew = .ok (.int .i64 (m : Int)) (w.drew.setCells g o (vb (wr.take m))) := by
  intro ty
  have := run_copy_cells (P := Tryz.prog) w.drew 28 28 ty 5 g o m 128 ⟨g, o + 256, none⟩ m 128 (vb (wr.take m)) Tryz.underlying28 hinfo (by rw [hlt]; exact (Nat.min_self m).symm) (fun j v hj => ?_) (fun j hj => (hT1 j (by omega)).1) (fun j hj => (hT1 j (by omega)).2) (fun v hv => one_vb _ v hv)
  ·
   rw [hlt] at this
   exact this
  ·
   have hj' := (lQ4.1 hj).1
   rw [add_none]
   refine hR j v ?_
   rw [← hj]
   simp only [vb, List.getElem?_map, List.getElem?_take]
   rw [if_pos (by omega)]
 have t3 : (w.drew.setCells g o (vb (wr.take m))).there g (o + 384) 1 := World.there_setCells (show w.drew.there g (o + 384) 1 from hT3) _ _ _
 have c3 : ∃ v, (w.drew.setCells g o (vb (wr.take m))).cell? ⟨g, o + 384, none⟩ = some v := Option.isSome_iff_exists.1 (by simpa using (t3 0 (by omega)).1)
 have f3 : (w.drew.setCells g o (vb (wr.take m))).frozen? ⟨g, o + 384, none⟩ = false := by simpa using (t3 0 (by omega)).2
 obtain ⟨v3, c3⟩ := c3
 obtain ⟨w0, hw0⟩ : ∃ w0, w0 = w.drew := ⟨_, rfl⟩
 rw [← hw0] at e1 c3 f3 ⊢
 obtain ⟨w1, hw1⟩ : ∃ w1, w1 = w0.setCells g o (vb (wr.take m)) := ⟨_, rfl⟩
 have E1 := hidn e1
 rw [← hw1] at E1 c3 f3 ⊢
 have HW0 := hidn hw0
 clear hw0 hw1 t3 hT1 hT3 hR hl hlt e1 hinfo
 have hmm : (m : Int) ≤ 128 := by omega
 go_enter Tryz.func111, Tryz.ntmps111
 go_wp2_with fail
 refine wp_region_noPanic ?_
 refine wp_region_held_drew (S := fun w' => True) (by kernel_rfl) trivial (fun hHeld => ?_)
 rw [← HW0.out]
 refine wpAnyH_take (i := 0) (v := Value.pointer (some ⟨g, o, none⟩)) rfl (by kernel_rfl) (by kernel_rfl) (by kernel_rfl) (fun _ _ _ h => h) (Or.inl ⟨by rfl, fun w hw => by go_simp⟩) hHeld ?_
 refine wpAnyH_take (i := 1) (v := Value.pointer (some ⟨g, o, none⟩)) rfl (by kernel_rfl) (by kernel_rfl) (by kernel_rfl) (fun _ _ _ h => h) (Or.inl ⟨by rfl, fun w hw => by go_simp⟩) hHeld ?_
 refine wpAnyH_take (i := 2) (v := Value.pointer (some ⟨g, o, none⟩)) rfl (by kernel_rfl) (by kernel_rfl) (by kernel_rfl) (fun _ _ _ h => h) (Or.inl ⟨by rfl, fun w hw => by go_simp⟩) hHeld ?_
 refine wpAnyH_take (i := 3) (v := Value.int .i64 (m : Int)) rfl (by kernel_rfl) (by kernel_rfl) (by kernel_rfl) (fun _ _ _ h => h) (Or.inl ⟨by rfl, fun w hw => by go_simp⟩) hHeld ?_
 refine drawn_as (l' := #[true, true, true, true, false, false, false, false, false, false, false]) (by kernel_rfl) ?_
 refine drawn_act (a' := { tmps := #[.pointer (some ⟨g, o, none⟩), .int .i64 k, undef, undef, .int .i64 (m : Int), .int .i64 k, .int .i64 km, .int .i64 (m : Int), .pointer (some ⟨g, o, none⟩), .pointer (some ⟨g, o, none⟩), .pointer (some ⟨g, o, none⟩), .int .i64 (m : Int), undef, undef, undef, undef, undef, undef, undef, undef, undef, undef], defers := [] }) (by kernel_rfl) ?_
 refine wpAnyH_take (i := 4) (v := Value.slice (some ⟨g, o, none⟩) m 128) rfl (by kernel_rfl) (by kernel_rfl) (by kernel_rfl) (fun _ _ _ h => h) (Or.inl ⟨by rfl, fun w hw => by go_simp⟩) hHeld ?_
 refine drawn_as (l' := #[true, true, true, true, true, false, false, false, false, false, false]) (by kernel_rfl) ?_
 refine drawn_act (a' := { tmps := #[.pointer (some ⟨g, o, none⟩), .int .i64 k, undef, undef, .int .i64 (m : Int), .int .i64 k, .int .i64 km, .int .i64 (m : Int), .pointer (some ⟨g, o, none⟩), .pointer (some ⟨g, o, none⟩), .pointer (some ⟨g, o, none⟩), .int .i64 (m : Int), .slice (some ⟨g, o, none⟩) m 128, undef, undef, undef, undef, undef, undef, undef, undef, undef], defers := [] }) (by kernel_rfl) ?_
 refine wpAnyH_take (i := 5) (v := Value.pointer (some ⟨g, o, none⟩)) rfl (by kernel_rfl) (by kernel_rfl) (by kernel_rfl) (fun _ _ _ h => h) (Or.inl ⟨by rfl, fun w hw => by go_simp⟩) hHeld ?_
 refine wpAnyH_take (i := 6) (v := Value.pointer (some ⟨g, o, none⟩)) rfl (by kernel_rfl) (by kernel_rfl) (by kernel_rfl) (fun _ _ _ h => h) (Or.inl ⟨by rfl, fun w hw => by go_simp⟩) hHeld ?_
 refine wpAnyH_take (i := 7) (v := Value.pointer (some ⟨g, o + 256, none⟩)) rfl (by kernel_rfl) (by kernel_rfl) (by kernel_rfl) (fun _ _ _ h => h) (Or.inl ⟨by rfl, fun w hw => by go_simp⟩) hHeld ?_
 refine wpAnyH_take (i := 8) (v := Value.int .i64 (m : Int)) rfl (by kernel_rfl) (by kernel_rfl) (by kernel_rfl) (fun _ _ _ h => h) (Or.inl ⟨by rfl, fun w hw => by go_simp⟩) hHeld ?_
 refine drawn_as (l' := #[true, true, true, true, true, true, true, true, true, false, false]) (by kernel_rfl) ?_
 refine drawn_act (a' := { tmps := #[.pointer (some ⟨g, o, none⟩), .int .i64 k, undef, undef, .int .i64 (m : Int), .int .i64 k, .int .i64 km, .int .i64 (m : Int), .pointer (some ⟨g, o, none⟩), .pointer (some ⟨g, o, none⟩), .pointer (some ⟨g, o, none⟩), .int .i64 (m : Int), .slice (some ⟨g, o, none⟩) m 128, .pointer (some ⟨g, o, none⟩), .pointer (some ⟨g, o, none⟩), .pointer (some ⟨g, o + 256, none⟩), .int .i64 (m : Int), undef, undef, undef, undef, undef], defers := [] }) (by kernel_rfl) ?_
 refine wpAnyH_take (i := 9) (v := Value.slice (some ⟨g, o + 256, none⟩) m 128) rfl (by kernel_rfl) (by kernel_rfl) (by kernel_rfl) (fun _ _ _ h => h) (Or.inl ⟨by rfl, fun w hw => by go_simp⟩) hHeld ?_
 refine drawn_as (l' := #[true, true, true, true, true, true, true, true, true, true, false]) (by kernel_rfl) ?_
 refine drawn_act (a' := { tmps := #[.pointer (some ⟨g, o, none⟩), .int .i64 k, undef, undef, .int .i64 (m : Int), .int .i64 k, .int .i64 km, .int .i64 (m : Int), .pointer (some ⟨g, o, none⟩), .pointer (some ⟨g, o, none⟩), .pointer (some ⟨g, o, none⟩), .int .i64 (m : Int), .slice (some ⟨g, o, none⟩) m 128, .pointer (some ⟨g, o, none⟩), .pointer (some ⟨g, o, none⟩), .pointer (some ⟨g, o + 256, none⟩), .int .i64 (m : Int), .slice (some ⟨g, o + 256, none⟩) m 128, undef, undef, undef, undef], defers := [] }) (by kernel_rfl) ?_
 refine wpAnyH_ready (rs := [10]) (by kernel_rfl) (by simp) ?_
 refine rdy_val (i := 10) rfl rfl (some 18) rfl (.int .i64 (m : Int)) w1 (copy_run (x := .tmp 12) (y := .tmp 17) (by kernel_rfl) (by kernel_rfl) (by kernel_rfl) (E1.out _)) trivial (fun hHeld => ?_) rdy_nil
 refine drawn_as (l' := #[true, true, true, true, true, true, true, true, true, true, true]) (by kernel_rfl) ?_
 refine drawn_act (a' := { tmps := #[.pointer (some ⟨g, o, none⟩), .int .i64 k, undef, undef, .int .i64 (m : Int), .int .i64 k, .int .i64 km, .int .i64 (m : Int), .pointer (some ⟨g, o, none⟩), .pointer (some ⟨g, o, none⟩), .pointer (some ⟨g, o, none⟩), .int .i64 (m : Int), .slice (some ⟨g, o, none⟩) m 128, .pointer (some ⟨g, o, none⟩), .pointer (some ⟨g, o, none⟩), .pointer (some ⟨g, o + 256, none⟩), .int .i64 (m : Int), .slice (some ⟨g, o + 256, none⟩) m 128, .int .i64 (m : Int), undef, undef, undef], defers := [] }) (by kernel_rfl) ?_
 refine wpAnyH_done (by kernel_rfl) ?_ _
 refine NoPanic.normal ?_
 go_wp2
 go_end0
 exact ⟨rfl, rfl⟩
end Go.Proofs.YtdppolelakbbiaaGreatDoor

namespace Go.Proofs.YtdppolelakbbiaaGreatDoor
open Go.RowKit Go.Maps
set_option linter.unusedVariables false
def padTo (zs : List Nat) : List Nat := zs.take 128 ++ List.replicate (128 - zs.length) 0
theorem padTo_length (zs : List Nat) : (padTo zs).length = 128 := by
 simp [padTo]
 omega
theorem padTo_lt {zs : List Nat} (h : ∀ x ∈ zs, x < 256) : ∀ x ∈ padTo zs, x < 256 := by
 intro x hx
 rcases List.mem_append.1 hx with h1 | h1
 ·
  exact h x (List.mem_of_mem_take h1)
 ·
  rw [List.eq_of_mem_replicate h1]; decide
def zero128 : Array Value := (vb (List.replicate 128 0)).toArray
theorem mk128 (W : World) : (Instr.makeSlice 28 (.int .i64 128) (.int .i64 128)).run Tryz.prog W = .ok (.slice (some ⟨W.heap.size, 0, none⟩) 128 128) (W.alloc (.cells zero128 5)) := by
 obtain ⟨i0, hi, hz0, hz1, hz2⟩ := info_parts Tryz.info5
 have h := run_make (P := Tryz.prog) W 28 5 i0 (.int .u8 0) Tryz.underlying28 hi hz0 .i64 .i64 ((128 : Nat) : Int) ((128 : Nat) : Int) (by omega) (by omega) (by rw [hz2]; omega) (by omega)
 rw [hz1] at h
 have e : madeCells (Value.int .u8 0).cells (((128 : Nat) : Int).toNat * 1) = zero128 := by kernel_rfl
 rw [e] at h
 simpa using h
theorem row_bs {w : World} {g n : Nat} {zs : List Nat} {t : TypeId} {fr : Nat × Nat} (h : w.heap[g]? = some (.cells (vb zs).toArray t fr)) (hn : zs.length = n) (hm : n ≤ maxLen) (hz : ∀ x ∈ zs, x < 256) : Bs w (some ⟨g, 0, none⟩) n zs := by
 refine ⟨hn, hm, hz, (fun h => by simp at h), fun x hx j hj => ?_⟩
 cases hx
 rw [add_none, Nat.zero_add, cell_of_row _ _ _ _ _ _ h, List.getElem?_toArray]
 rw [vb_getD zs j (by omega)]
theorem copy128 (w : World) (g : Nat) (a : Option Addr) (len cap : Nat) (zs : List Nat) (hg : w.heap[g]? = some (.cells zero128 5 (0, 0))) (hB : Bs w a len zs) :
  ∃ w3, ∃ m : Int, (Builtin.copy_ #[28, 28] 3 #[.slice (some ⟨g, 0, none⟩) 128 128, .slice a len cap]).run Tryz.prog w = .ok (.int .i64 m) w3 ∧ (∀ n, n ≤ g → Below n w w3) ∧ w3.heap[g]? = some (.cells (vb (padTo zs)).toArray 5 (0, 0)) := by
 have hinfo : (Tryz.prog.info? 5).map (·.size) = some 1 := by kernel_rfl
 have hl := hB.1
 by_cases h0 : len = 0
 ·
  subst h0
  obtain rfl : zs = [] := List.length_eq_zero_iff.1 hl
  exact ⟨w, 0, run_copy_none (P := Tryz.prog) w _ _ 3 5 _ a 128 128 0 cap Tryz.underlying28 hinfo (by simp), fun n _ => Below.refl _ _, hg⟩
 ·
  obtain ⟨ab, ao, rfl, _, hac⟩ := hB.pos (by omega)
  have h := run_copy_row (P := Tryz.prog) w 28 28 3 5 g 0 128 128 ⟨ab, ao, none⟩ len cap zero128 5 ((vb zs).take (min len 128)) Tryz.underlying28 hinfo hg
   (by rw [List.length_take, length_vb, hl]; show min (min len 128) len = min len 128; omega)
   (fun j v hj => by rw [add_none]; exact bs_range hB j v (by rw [List.getElem?_take] at hj; split at hj; exact hj; cases hj))
   (by rw [List.length_take]; show 0 + min (min len 128) _ ≤ 128; omega) (fun v hv => one_vb _ v (List.mem_of_mem_take hv))
  refine ⟨_, _, h, fun n hn => below_setRow (Below.refl _ _) hn _, ?_⟩
  rw [setRow_heap _ _ _ _ _ _ hg]
  refine congrArg (fun c : Array Value => some (Obj.cells c 5 (0, 0))) ?_
  rw [List.take_zero, List.nil_append]
  refine congrArg List.toArray ?_
  have e1 : (vb zs).take (min len 128) = vb (zs.take 128) := by
   have e0 : zs.take (min len 128) = zs.take 128 := by
    by_cases h1 : len ≤ 128
    ·
     rw [Nat.min_eq_left h1, List.take_of_length_le (by omega), List.take_of_length_le (by omega)]
    ·
     rw [Nat.min_eq_right (by omega)]
   rw [← e0]
   unfold vb
   rw [← List.map_take]
  rw [e1, length_vb]
  have e2 : zero128.toList = vb (List.replicate 128 0) := List.toList_toArray
  rw [e2]
  have e3 : (vb (List.replicate 128 0)).drop (0 + (zs.take 128).length) = vb (List.replicate (128 - zs.length) 0) := by
   unfold vb
   rw [← List.map_drop, List.drop_replicate, List.length_take, Nat.zero_add]
   rw [show 128 - min 128 zs.length = 128 - zs.length by omega]
  rw [e3]
  unfold padTo vb
  rw [← List.map_append]
end Go.Proofs.YtdppolelakbbiaaGreatDoor

namespace Go.Proofs.YtdppolelakbbiaaGreatDoor
open Go.RowKit Go.Maps
set_option linter.unusedVariables false
structure Stp where
 op : Int
 i : Int
 at2 : Int
 n3 : Int
 nm : ByteArray
 ba : Option Addr
 bl : Nat
 bc : Nat
 zs : List Nat
 m6 : Int
 ka : Option Addr
 kl : Nat
 kc : Nat
def Stp.cells (s : Stp) : List Value := [.int .i64 s.op, .int .i64 s.i, .int .i64 s.at2, .int .i64 s.n3, .string s.nm, .slice s.ba s.bl s.bc, .int .u8 s.m6, .slice s.ka s.kl s.kc]
def Sts (w : World) (a : Option Addr) (len : Nat) (l : List Stp) : Prop :=
 l.length = len ∧ len ≤ maxLen ∧ (a = none → len = 0) ∧ (∀ s ∈ l, s.nm.size ≤ maxLen ∧ Bs w s.ba s.bl s.zs) ∧ ∀ x, a = some x → ∀ j s, l[j]? = some s → ∀ k v, s.cells[k]? = some v → w.cell? (x.add (j * 8 + k)) = some v
theorem Sts.below {w w' : World} {a : Option Addr} {len : Nat} {l : List Stp} (h : Sts w a len l) (hb : Below w.heap.size w w') : Sts w' a len l := by
 obtain ⟨h1, h2, h3, h4, h5⟩ := h
 refine ⟨h1, h2, h3, fun s hs => ⟨(h4 s hs).1, (h4 s hs).2.below hb⟩, fun x hx j s hs k v hv => ?_⟩
 have := h5 x hx j s hs k v hv
 exact (hb.cell (block_lt_of_cell this)).trans this
theorem Sts.at {w : World} {a : Option Addr} {len j : Nat} {l : List Stp} {s : Stp} (h : Sts w a len l) (hs : l[j]? = some s) :
  ∃ b off, a = some ⟨b, off, none⟩ ∧ w.cell? ⟨b, off + j * 8, none⟩ = some (.int .i64 s.op) ∧ w.cell? ⟨b, off + j * 8 + 1, none⟩ = some (.int .i64 s.i) ∧ w.cell? ⟨b, off + j * 8 + 2, none⟩ = some (.int .i64 s.at2) ∧ w.cell? ⟨b, off + j * 8 + 3, none⟩ = some (.int .i64 s.n3) ∧
   w.cell? ⟨b, off + j * 8 + 4, none⟩ = some (.string s.nm) ∧ w.cell? ⟨b, off + j * 8 + 5, none⟩ = some (.slice s.ba s.bl s.bc) ∧ w.cell? ⟨b, off + j * 8 + 6, none⟩ = some (.int .u8 s.m6) ∧ w.cell? ⟨b, off + j * 8 + 7, none⟩ = some (.slice s.ka s.kl s.kc) := by
 obtain ⟨h1, h2, h3, h4, h5⟩ := h
 cases a with
 | none =>
  have := h3 rfl
  have := (lQ4.1 hs).1
  omega
 | some x =>
  obtain ⟨b, off, spot⟩ := x
  have h := h5 _ rfl j s hs
  obtain ⟨s0, hs0⟩ : ∃ s0, l[0]? = some s0 := ⟨_, lQ6 (by have := (lQ4.1 hs).1; omega)⟩
  have hspot : spot = none := by simpa [Addr.add] using World.cell?_spot (h5 _ rfl 0 s0 hs0 0 _ rfl)
  subst hspot
  have e : ∀ k, (⟨b, off, none⟩ : Addr).add (j * 8 + k) = ⟨b, off + j * 8 + k, none⟩ := fun k => by rw [add_none, Nat.add_assoc]
  simp only [e] at h
  exact ⟨b, off, rfl, h 0 _ rfl, h 1 _ rfl, h 2 _ rfl, h 3 _ rfl, h 4 _ rfl, h 5 _ rfl, h 6 _ rfl, h 7 _ rfl⟩
end Go.Proofs.YtdppolelakbbiaaGreatDoor

namespace Go.Proofs.YtdppolelakbbiaaGreatDoor
open Go.RowKit Go.Maps
set_option linter.unusedVariables false
theorem spotRow : (105 : TypeId) < Tryz.prog.types.size := of_decide_eq_true (by kernel_rfl)
theorem laidOutP : laidOutB Tryz.prog = true := by kernel_rfl
theorem lawSpot : Keyed Tryz.prog 105 := Keyed.of_law (deep_law_laid laidOutP (m := 3) (by decide) spotRow (by kernel_rfl) (by kernel_rfl))
def spk (s : List UInt8) (i : Int) : List UInt8 := keyBytes [.string s, .int .i64 i]
theorem spotKeyType : Tryz.prog.keyType 105 = true := by kernel_rfl
theorem spotCells : Tryz.prog.cellsOf 105 = 2 := by kernel_rfl
theorem spotSize : ∃ m, Tryz.prog.types.size = m + 1 := ⟨_, (Nat.sub_add_cancel (Nat.succ_le_of_lt (Nat.lt_of_le_of_lt (Nat.zero_le _) spotRow))).symm⟩
theorem cellsStr : Tryz.prog.cellsOf 9 = 1 := by kernel_rfl
theorem cellsInt : Tryz.prog.cellsOf 3 = 1 := by kernel_rfl
theorem keyOf_spot (s : ByteArray) (i : Int) (hs : s.size ≤ maxLen) (hi : (Lit.int .i64 i).wf = true) : keyOf Tryz.prog 105 (.agg #[.string s, .int .i64 i]) = some (.string (spk s.data.toList i)) := by
 obtain ⟨m, hm⟩ := spotSize
 have hu := Tryz.underlying105
 have hus := Tryz.underlying9
 have hui := Tryz.underlying3
 have k1 : Tryz.prog.keyLits (m + 1) 9 [.string s] = some [.string s.data.toList] := by simp [Program.keyLits, hus, hs]
 have k2 : Tryz.prog.keyLits (m + 1) 3 [.int .i64 i] = some [.int .i64 i] := by simp [Program.keyLits, hui, hi]
 have k3 : Tryz.prog.keyLits (m + 1 + 1) 105 [.string s, .int .i64 i] = some [.string s.data.toList, .int .i64 i] := by
  unfold Program.keyLits
  simp only [hu]
  simp [spotCells, cellsStr, cellsInt, k1, k2]
 unfold keyOf
 rw [hu]
 simp [spotKeyType, Value.formed, hu, spotCells, hm, k3, spk, Value.cells]
theorem spk_inj {s s' : ByteArray} {i i' : Int} (hs : s.size ≤ maxLen) (hi : (Lit.int .i64 i).wf = true) (hs' : s'.size ≤ maxLen) (hi' : (Lit.int .i64 i').wf = true) (h : spk s.data.toList i = spk s'.data.toList i') : s = s' ∧ i = i' := by
 have h1 := keyOf_spot s i hs hi
 have h2 := keyOf_spot s' i' hs' hi'
 rw [h] at h1
 have := lawSpot.inj h1 h2
 simpa using this
def KeptMap (w : World) (b : Nat) (kf : List UInt8 → Int → Int) : Prop :=
 ∃ N D, w.ownsMap (H := Unit) Tryz.prog 105 (plainElem Tryz.prog 3) b N D ∧ N ≤ maxLen ∧ (∀ (s : ByteArray) (i : Int), s.size ≤ maxLen → (Lit.int .i64 i).wf = true → D.atKey (.string (spk s.data.toList i)) (.lit (.int .i64 0)) = .lit (.int .i64 (kf s.data.toList i)))
theorem zeroInt (w : World) : (zeroValue 3).run Tryz.prog w = .ok (.int .i64 0) w := by kernel_rfl
theorem KeptMap.look {w : World} {b : Nat} {kf : List UInt8 → Int → Int} (h : KeptMap w b kf) (s : ByteArray) (i : Int) (hs : s.size ≤ maxLen) (hi : (Lit.int .i64 i).wf = true) :
  (Instr.lookup 149 (.map (some b)) (.agg #[.string s, .int .i64 i]) false).run Tryz.prog w = .ok (.int .i64 (kf s.data.toList i)) w := by
 obtain ⟨N, D, h1, _, h2⟩ := h
 obtain ⟨c, hrun, hat, _⟩ := h1.lookup_int lawSpot Tryz.underlying149 Tryz.underlying3 (zeroInt w) (keyOf_spot s i hs hi)
 rw [h2 s i hs hi] at hat
 have : kf s.data.toList i = c := by simpa using hat
 rw [this]
 exact hrun
theorem KeptMap.kept {w w' : World} {b : Nat} {kf : List UInt8 → Int → Int} (h : KeptMap w b kf) (hb : w'.heap[b]? = w.heap[b]?) : KeptMap w' b kf := by
 obtain ⟨N, D, ⟨es, clock, h1, h2⟩, h3⟩ := h
 exact ⟨N, D, ⟨es, clock, hb.trans h1, h2⟩, h3⟩
theorem KeptMap.lt {w : World} {b : Nat} {kf : List UInt8 → Int → Int} (h : KeptMap w b kf) : b < w.heap.size := by
 obtain ⟨N, D, h1, _⟩ := h
 exact h1.lt
theorem makeMap_hint {t k e : TypeId} (hu : Tryz.prog.underlying t = some (.map k e)) (n : Int) (w : World) : (Instr.makeMap t (some (.int .i64 n))).run Tryz.prog w = .ok (.map (some w.heap.size)) (w.alloc (.map #[] 0)) := by
 simp [Instr.makeMap, run_underlying hu, asInt, asIntOf]
end Go.Proofs.YtdppolelakbbiaaGreatDoor

namespace Go.Proofs.YtdppolelakbbiaaGreatDoor
open Go.RowKit Go.Maps
set_option linter.unusedVariables false
structure Kp where
 nm : ByteArray
 i : Int
 n : Int
def Kps (w : World) (a : Option Addr) (len : Nat) (ks : List Kp) : Prop :=
 ks.length = len ∧ len ≤ 9223372036854775807 ∧ (a = none → len = 0) ∧ (∀ k ∈ ks, k.nm.size ≤ maxLen ∧ (Lit.int .i64 k.i).wf = true ∧ (Lit.int .i64 k.n).wf = true) ∧
  ∀ x, a = some x → ∀ j k, ks[j]? = some k → w.cell? (x.add (j * 3)) = some (.string k.nm) ∧ w.cell? (x.add (j * 3 + 1)) = some (.int .i64 k.i) ∧ w.cell? (x.add (j * 3 + 2)) = some (.int .i64 k.n)
theorem Kps.below {w w' : World} {a : Option Addr} {len : Nat} {ks : List Kp} (h : Kps w a len ks) (hb : Below w.heap.size w w') : Kps w' a len ks := by
 obtain ⟨h1, h2, h3, h4, h5⟩ := h
 refine ⟨h1, h2, h3, h4, fun x hx j k hk => ?_⟩
 obtain ⟨a1, a2, a3⟩ := h5 x hx j k hk
 exact ⟨(hb.cell (block_lt_of_cell a1)).trans a1, (hb.cell (block_lt_of_cell a2)).trans a2, (hb.cell (block_lt_of_cell a3)).trans a3⟩
theorem Kps.at {w : World} {a : Option Addr} {len j : Nat} {ks : List Kp} {k : Kp} (h : Kps w a len ks) (hk : ks[j]? = some k) :
  ∃ b off, a = some ⟨b, off, none⟩ ∧ w.cell? ⟨b, off + j * 3, none⟩ = some (.string k.nm) ∧ w.cell? ⟨b, off + j * 3 + 1, none⟩ = some (.int .i64 k.i) ∧ w.cell? ⟨b, off + j * 3 + 2, none⟩ = some (.int .i64 k.n) := by
 obtain ⟨h1, h2, h3, h4, h5⟩ := h
 have hjl : j < ks.length := (lQ4.1 hk).1
 cases a with
 | none => have := h3 rfl; omega
 | some x =>
  obtain ⟨b, off, spot⟩ := x
  obtain ⟨k0, hk0⟩ : ∃ k0, ks[0]? = some k0 := ⟨_, lQ6 (by omega)⟩
  have hspot : spot = none := by simpa [Addr.add] using World.cell?_spot (h5 _ rfl 0 k0 hk0).1
  subst hspot
  obtain ⟨a1, a2, a3⟩ := h5 _ rfl j k hk
  rw [add_none] at a1 a2 a3
  exact ⟨b, off, rfl, a1, by rw [Nat.add_assoc]; exact a2, by rw [Nat.add_assoc]; exact a3⟩
def kget (ks : List Kp) (s : List UInt8) (i : Int) : Option Int := (ks.find? fun k => decide (k.nm.data.toList = s ∧ k.i = i)).map Kp.n
def kfOf (ks : List Kp) (s : List UInt8) (i : Int) : Int := (kget ks s i).getD 0
theorem kget_snoc (ks : List Kp) (k : Kp) (s : List UInt8) (i : Int) : kget (ks ++ [k]) s i = (kget ks s i).or (if k.nm.data.toList = s ∧ k.i = i then some k.n else none) := by
 unfold kget
 rw [List.find?_append]
 cases ks.find? fun k => decide (k.nm.data.toList = s ∧ k.i = i) with
 | some x => rfl
 | none =>
  by_cases h : k.nm.data.toList = s ∧ k.i = i
  ·
   simp [h]
  ·
   simp only [List.find?_cons, List.find?_nil, decide_eq_false h, if_neg h]
   rfl
def KM (w : World) (b N : Nat) (ks : List Kp) : Prop :=
 ∃ D, w.ownsMap (H := Unit) Tryz.prog 105 (plainElem Tryz.prog 3) b N D ∧ (∀ (s : ByteArray) (i : Int), s.size ≤ maxLen → (Lit.int .i64 i).wf = true →
  Maps.has D (.string (spk s.data.toList i)) = (kget ks s.data.toList i).isSome ∧ D.atKey (.string (spk s.data.toList i)) (.lit (.int .i64 0)) = .lit (.int .i64 (kfOf ks s.data.toList i)))
theorem KM.kept {w : World} {b N : Nat} {ks : List Kp} (h : KM w b N ks) (hN : N ≤ maxLen) : KeptMap w b (kfOf ks) := by
 obtain ⟨D, h1, h2⟩ := h
 exact ⟨N, D, h1, hN, fun s i hs hi => (h2 s i hs hi).2⟩
theorem KM.below {w w' : World} {b N : Nat} {ks : List Kp} (h : KM w b N ks) (hb : w'.heap[b]? = w.heap[b]?) : KM w' b N ks := by
 obtain ⟨D, ⟨es, clock, h1, h2⟩, h3⟩ := h
 exact ⟨D, ⟨es, clock, hb.trans h1, h2⟩, h3⟩
theorem KM.look {w : World} {b N : Nat} {ks : List Kp} (h : KM w b N ks) (k : Kp) (hs : k.nm.size ≤ maxLen) (hi : (Lit.int .i64 k.i).wf = true) :
  ∃ v, (Instr.lookup 149 (.map (some b)) (.agg #[.string k.nm, .int .i64 k.i]) true).run Tryz.prog w = .ok (.tuple #[v, .bool (kget ks k.nm.data.toList k.i).isSome]) w := by
 obtain ⟨D, h1, h2⟩ := h
 obtain ⟨v, ps, hrun, _⟩ := h1.look_ok lawSpot Tryz.underlying149 (zeroInt w) (plainElem_int Tryz.underlying3 (by decide)) (keyOf_spot k.nm k.i hs hi)
 rw [(h2 k.nm k.i hs hi).1] at hrun
 exact ⟨v, hrun⟩
theorem KM.skip {w : World} {b N : Nat} {ks : List Kp} (h : KM w b N ks) (k : Kp) (hk : (kget ks k.nm.data.toList k.i).isSome = true) : KM w b N (ks ++ [k]) := by
 obtain ⟨D, h1, h2⟩ := h
 refine ⟨D, h1, fun s i hs hi => ?_⟩
 have e : kget (ks ++ [k]) s.data.toList i = kget ks s.data.toList i := by
  rw [kget_snoc]
  by_cases hc : k.nm.data.toList = s.data.toList ∧ k.i = i
  ·
   rw [hc.1, hc.2] at hk
   obtain ⟨y, hy⟩ := Option.isSome_iff_exists.1 hk
   rw [hy]
   rfl
  ·
   rw [if_neg hc]
   cases kget ks s.data.toList i <;> rfl
 unfold kfOf
 rw [e]
 exact h2 s i hs hi
theorem KM.store {w : World} {b N : Nat} {ks : List Kp} (h : KM w b N ks) (k : Kp) (hs : k.nm.size ≤ maxLen) (hi : (Lit.int .i64 k.i).wf = true) (hn : (Lit.int .i64 k.n).wf = true) (hN : N < maxLen) (hk : (kget ks k.nm.data.toList k.i).isSome = false) :
  ∃ w', (Instr.mapUpdate 149 (.map (some b)) (.agg #[.string k.nm, .int .i64 k.i]) (.int .i64 k.n)).run Tryz.prog w = .ok () w' ∧ KM w' b (N + 1) (ks ++ [k]) ∧ w.grownBy w' (some b) := by
 obtain ⟨D, h1, h2⟩ := h
 obtain ⟨w', hrun, hown, hg⟩ := h1.update lawSpot Tryz.underlying149 hN (keyOf_spot k.nm k.i hs hi) (plainElem_int (H := Unit) Tryz.underlying3 hn)
 refine ⟨w', hrun, ⟨_, hown, fun s i hs' hi' => ?_⟩, hg⟩
 have hnone : kget ks k.nm.data.toList k.i = none := by
  cases hc : kget ks k.nm.data.toList k.i with
  | none => rfl
  | some y => rw [hc] at hk; cases hk
 unfold kfOf
 rw [kget_snoc]
 by_cases hc : k.nm.data.toList = s.data.toList ∧ k.i = i
 ·
  rw [if_pos hc, ← hc.1, ← hc.2, hnone]
  exact ⟨has_put_same h1.isMap (by first | trivial | exact ⟨_, rfl⟩ | decide) _, atKey_put_same h1.isMap (by first | trivial | exact ⟨_, rfl⟩ | decide) _ _⟩
 ·
  rw [if_neg hc]
  have hne : (Lit.string (spk s.data.toList i)) ≠ Lit.string (spk k.nm.data.toList k.i) := by
   intro e
   have e1 : spk s.data.toList i = spk k.nm.data.toList k.i := by simpa using e
   obtain ⟨e2, e3⟩ := spk_inj hs' hi' hs hi e1
   exact hc ⟨by rw [e2], e3.symm⟩
  rw [has_put_other hne, atKey_put_other hne]
  have := h2 s i hs' hi'
  unfold kfOf at this
  cases hk2 : kget ks s.data.toList i with
  | none => rw [hk2] at this; exact this
  | some y => rw [hk2] at this; exact this
set_option maxHeartbeats 2000000 in
set_option maxRecDepth 100000 in
theorem firstKept_any (w : World) (a : Option Addr) (len cap : Nat) (ks : List Kp) (h : Kps w a len ks) :
  Calls Tryz.prog 110 #[.slice a len cap] w fun e w' => ∃ b, e = .returned (.map (some b)) ∧ w.heap.size ≤ b ∧ KeptMap w' b (kfOf ks) ∧ Below w.heap.size w w' := by
 have hmm := fun n w => makeMap_hint Tryz.underlying149 n w
 have hl6 := h.2.1
 have HL := hidn h.1
 have HH := hidn h
 clear h
 go_enter Tryz.func110, Tryz.ntmps110
 go_wp2_with fail
 go_loopw [14] (fun iv wr => ∃ j : Nat, j ≤ len ∧ iv = .int .i64 (j : Int) ∧ KM wr w.heap.size j (ks.take j) ∧ Below w.heap.size w wr) (fun iv _ => len - (intOf iv).toNat)
 case atStart => exact ⟨0, Nat.zero_le _, rfl, ⟨.map [], World.ownsMap_made _ _ _ _, fun s i _ _ => ⟨rfl, rfl⟩⟩, (Below.refl _ _).alloc (Nat.le_refl _) _⟩
 case round =>
  obtain ⟨j, hj, rfl, hK, hb⟩ := hrel
  by_cases hlt : j < len
  ·
   have hlt2 : (j : Int) < (len : Int) := by omega
   obtain ⟨k, hk⟩ : ∃ k, ks[j]? = some k := ⟨_, lQ6 (by rw [HL.out]; exact hlt)⟩
   obtain ⟨b, off, rfl, c0, c1, c2⟩ := (HH.out.below hb).at hk
   obtain ⟨hs, hi, hn⟩ := HH.out.2.2.2.1 k (lQ7 hk)
   have hnext : Hid (ks.take (j + 1) = ks.take j ++ [k]) := hidn (by rw [List.take_add_one, hk]; rfl)
   have hsz : w.heap.size ≤ wr.heap.size := hb.size
   clear hk
   obtain ⟨nm, ki, kn⟩ := k
   simp only at c0 c1 c2 hs hi hn
   obtain ⟨wB, hwB⟩ : ∃ wB, wB = (wr.alloc (.cells #[.string nm, .int .i64 ki, .int .i64 kn] 153)).alloc (.cells #[.string nm, .int .i64 ki] 105) := ⟨_, rfl⟩
   have hbB0 : Below wr.heap.size wr wB := by rw [hwB]; exact ((Below.refl _ _).alloc (Nat.le_refl _) _).alloc (by simp) _
   have hbB : Below w.heap.size w wB := hb.trans (hbB0.mono hsz)
   have hKB : KM wB w.heap.size j (ks.take j) := hK.below (hbB0.block _ (by obtain ⟨D, h1, _⟩ := hK; exact h1.lt))
   obtain ⟨lv, hlk⟩ := hKB.look ⟨nm, ki, kn⟩ hs hi
   simp only at hlk
   have hst := hKB.store ⟨nm, ki, kn⟩ hs hi hn (by unfold maxLen; omega)
   have hsk := hKB.skip ⟨nm, ki, kn⟩
   simp only at hst hsk
   have HST := hidn hst
   have HSK := hidn hsk
   have HBB := hidn hbB
   have q0 : wB.cell? ⟨wr.heap.size + 1, 0, none⟩ = some (.string nm) := by
    rw [hwB]
    have := heap_alloc_new (wr.alloc (.cells #[.string nm, .int .i64 ki, .int .i64 kn] 153)) (.cells #[.string nm, .int .i64 ki] 105)
    rw [World.size_alloc] at this
    exact cell_of_row _ _ _ _ _ _ this
   have q1 : wB.cell? ⟨wr.heap.size + 1, 1, none⟩ = some (.int .i64 ki) := by
    rw [hwB]
    have := heap_alloc_new (wr.alloc (.cells #[.string nm, .int .i64 ki, .int .i64 kn] 153)) (.cells #[.string nm, .int .i64 ki] 105)
    rw [World.size_alloc] at this
    exact cell_of_row _ _ _ _ _ _ this
   have q2 : wB.cell? ⟨wr.heap.size, 2, none⟩ = some (.int .i64 kn) := by
    rw [hwB]
    have h1 := heap_alloc_new wr (.cells #[.string nm, .int .i64 ki, .int .i64 kn] 153)
    have h2 := Below.heap_alloc (wr.alloc (.cells #[.string nm, .int .i64 ki, .int .i64 kn] 153)) (.cells #[.string nm, .int .i64 ki] 105) wr.heap.size (by simp)
    exact cell_of_row _ _ _ _ _ _ (h2.trans h1)
   clear hst hsk hbB hbB0 hKB hK
   cases hg : (kget (ks.take j) nm.data.toList ki).isSome with
   | true =>
    rw [hg] at hlk
    have HK2 : Hid (KM wB w.heap.size (j + 1) (ks.take (j + 1))) := hidn (by
     rw [hnext.out]
     obtain ⟨D, h1, h2⟩ := HSK.out hg
     exact ⟨D, h1.mono (by omega), h2⟩)
    clear hg
    rw [hwB] at hlk
    go_wp2_with fail
    rw [← hwB]
    exact ⟨⟨j + 1, by omega, by go_num, HK2.out, HBB.out⟩, by simp [intOf]; omega⟩
   | false =>
    rw [hg] at hlk
    obtain ⟨wC, hup, hKC, hgC⟩ := HST.out hg
    have HK2 : Hid (KM wC w.heap.size (j + 1) (ks.take (j + 1))) := hidn (by rw [hnext.out]; exact hKC)
    have HB2 : Hid (Below w.heap.size w wC) := hidn (HBB.out.grown hgC HBB.out.size (fun k hk => by cases hk; exact Nat.le_refl _))
    clear hg hKC hgC
    rw [hwB] at hlk hup q0 q1 q2
    go_wp2_with fail
    exact ⟨⟨j + 1, by omega, by go_num, HK2.out, HB2.out⟩, by simp [intOf]; omega⟩
  ·
   have hlt2 : ¬ (j : Int) < (len : Int) := by omega
   obtain rfl : j = len := by omega
   have htk : ks.take j = ks := List.take_of_length_le (by rw [HL.out]; exact Nat.le_refl _)
   rw [htk] at hK
   go_wp2_with fail
   go_ret
   exact ⟨_, rfl, Nat.le_refl _, hK.kept (by unfold maxLen; omega), hb⟩
end Go.Proofs.YtdppolelakbbiaaGreatDoor

namespace Go.Proofs.YtdppolelakbbiaaGreatDoor
open Go.RowKit Go.Maps
set_option linter.unusedVariables false
structure StK where
 s : Stp
 ks : List Kp
def StKOk (W : World) (s : StK) : Prop := s.s.nm.size ≤ maxLen ∧ Bs W s.s.ba s.s.bl s.s.zs ∧ Kps W s.s.ka s.s.kl s.ks ∧ (0 ≤ s.s.m6 ∧ s.s.m6 ≤ 255) ∧ (-9223372036854775808 ≤ s.s.n3 ∧ s.s.n3 ≤ 9223372036854775807) ∧ (-9223372036854775808 ≤ s.s.op ∧ s.s.op ≤ 9223372036854775807) ∧ (-9223372036854775808 ≤ s.s.i ∧ s.s.i ≤ 9223372036854775807) ∧ (-9223372036854775808 ≤ s.s.at2 ∧ s.s.at2 ≤ 9223372036854775807)
def StsK (w : World) (a : Option Addr) (len : Nat) (l : List StK) : Prop :=
 l.length = len ∧ len ≤ maxLen ∧ (a = none → len = 0) ∧ (∀ s ∈ l, StKOk w s) ∧ ∀ x, a = some x → ∀ j s, l[j]? = some s → ∀ k v, s.s.cells[k]? = some v → w.cell? (x.add (j * 8 + k)) = some v
theorem StsK.sts {w : World} {a : Option Addr} {len : Nat} {l : List StK} (h : StsK w a len l) : Sts w a len (l.map StK.s) := by
 obtain ⟨h1, h2, h3, h4, h5⟩ := h
 refine ⟨by rw [List.length_map]; exact h1, h2, h3, fun s hs => ?_, fun x hx j s hs k v hv => ?_⟩
 ·
  obtain ⟨t, ht, rfl⟩ := List.mem_map.1 hs
  exact ⟨(h4 t ht).1, (h4 t ht).2.1⟩
 ·
  rw [List.getElem?_map] at hs
  obtain ⟨t, ht, rfl⟩ := Option.map_eq_some_iff.1 hs
  exact h5 x hx j t ht k v hv
end Go.Proofs.YtdppolelakbbiaaGreatDoor
