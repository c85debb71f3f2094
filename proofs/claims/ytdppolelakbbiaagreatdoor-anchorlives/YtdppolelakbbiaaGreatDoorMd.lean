/- One extent of one file: its parts read, and turned. -/
import Derived.Test.YtdppolelakbbiaaGreatDoorDiskGrow
import Derived.Test.YtdppolelakbbiaaGreatDoorMb
import Derived.Laws.CopyRow
namespace Go.Proofs.YtdppolelakbbiaaGreatDoor
open Go.RowKit Go.Maps
set_option linter.unusedVariables false
theorem bs_range {w : World} {b off len : Nat} {zs : List Nat} (h : Bs w (some ⟨b, off, none⟩) len zs) : w.rangeAt b off (vb zs) := by
 intro j v hj
 have hlt := (lQ4.1 hj).1
 rw [length_vb] at hlt
 have h1 := h.2.2.2.2 _ rfl j (by rw [← h.1]; exact hlt)
 rw [add_none] at h1
 rw [vb_getD zs j hlt] at hj
 rw [h1]; exact hj
theorem upd_upd (M : List UInt8 → List Ext) (s : List UInt8) (l l' : List Ext) : upd (upd M s l) s l' = upd M s l' := by
 funext t
 by_cases h : t = s <;> simp [upd, h]
theorem upd_self (M : List UInt8 → List Ext) (s : List UInt8) (l : List Ext) (h : M s = l) : upd M s l = M := by
 funext t
 by_cases e : t = s
 ·
  subst e; rw [upd_same, h]
 ·
  rw [upd_other _ _ _ _ e]
section
variable {w : World} {d N : Nat} {F : Nat → Prop} {M : List UInt8 → List Ext} {free fuse : Int} {bm : Nat} {D : DataW Unit} {G C : List UInt8 → Nat}
theorem ne_of_at {s : List UInt8} {i : Nat} {x : Ext} (hx : (M s)[i]? = some x) : M s ≠ [] := fun e => by rw [e] at hx; simp at hx
theorem DiskIs.parts (h : DiskIs w d F N M free fuse bm D G C) (s : List UInt8) (i : Nat) (x : Ext) (hx : (M s)[i]? = some x) (o : Nat) (ho : i * 385 = o) :
  w.rangeAt (G s) o (vb x.dur) ∧ w.rangeAt (G s) (o + 128) (vb x.syn) ∧ w.rangeAt (G s) (o + 256) (vb x.wri) ∧ w.cell? ⟨G s, o + 384, none⟩ = some (.bool x.waits) ∧ w.frozen? ⟨G s, o + 384, none⟩ = false ∧ x.ok := by
 obtain ⟨hi, he⟩ := lQ4.1 hx
 obtain ⟨_, hrow, hok⟩ := h.2.2.2.2.2.1 s (ne_of_at hx)
 have hxo := hok _ (List.getElem_mem hi)
 rw [he] at hxo
 have hxo' := hxo
 obtain ⟨⟨d1, d2⟩, ⟨s1, s2⟩, ⟨w1, w2⟩⟩ := hxo'
 subst ho
 have hw : w.rangeAt (G s) (i * 385 + 384) [.bool x.waits] := own_range hrow hok i hi 384 _ (by simp) (fun j v hj => by
  have hlt := (lQ4.1 hj).1
  obtain rfl : j = 0 := by simp at hlt; omega
  rw [he]
  simp [Ext.cells, length_vb, d1, s1, w1] at hj ⊢
  exact hj)
 have hth := own_there hrow hok i hi 384 1 (by omega) 0 (by omega)
 refine ⟨?_, ?_, ?_, by simpa using hw 0 _ rfl, by simpa using hth.2, hxo⟩
 ·
  have := own_range hrow hok i hi 0 (vb x.dur) (by rw [length_vb, d1]; omega) (fun j v hj => by
   have hlt := (lQ4.1 hj).1
   rw [he, Ext.cells, Nat.zero_add, List.getElem?_append_left hlt]
   exact hj)
  rwa [Nat.add_zero] at this
 ·
  refine own_range hrow hok i hi 128 _ (by rw [length_vb, s1]; omega) (fun j v hj => ?_)
  have hlt := (lQ4.1 hj).1
  rw [length_vb, s1] at hlt
  rw [he, Ext.cells, List.getElem?_append_right (by rw [length_vb, d1]; omega), List.getElem?_append_left (by rw [length_vb, length_vb, d1, s1]; omega), length_vb, d1, show 128 + j - 128 = j by omega]
  exact hj
 ·
  refine own_range hrow hok i hi 256 _ (by rw [length_vb, w1]; omega) (fun j v hj => ?_)
  have hlt := (lQ4.1 hj).1
  rw [length_vb, w1] at hlt
  rw [he, Ext.cells, List.getElem?_append_right (by rw [length_vb, d1]; omega), List.getElem?_append_right (by rw [length_vb, length_vb, d1, s1]; omega), List.getElem?_append_left (by rw [length_vb, length_vb, length_vb, d1, s1, w1]; omega), length_vb, length_vb, d1, s1, show 256 + j - 128 - 128 = j by omega]
  exact hj
theorem DiskIs.thereAt (h : DiskIs w d F N M free fuse bm D G C) (s : List UInt8) (i : Nat) (x : Ext) (hx : (M s)[i]? = some x) (o : Nat) (ho : i * 385 = o) (k m : Nat) (hk : k + m ≤ 385) : w.there (G s) (o + k) m := by
 obtain ⟨hi, he⟩ := lQ4.1 hx
 obtain ⟨_, hrow, hok⟩ := h.2.2.2.2.2.1 s (ne_of_at hx)
 subst ho
 exact own_there hrow hok i hi k m hk
theorem DiskIs.put (h : DiskIs w d F N M free fuse bm D G C) (s : List UInt8) (i : Nat) (x : Ext) (hx : (M s)[i]? = some x) (o : Nat) (ho : i * 385 = o) (k : Nat) (cs : List Value) (y : Ext) (hy : y.ok) (hk : k + cs.length ≤ 385) (hsp : splice x.cells k cs = y.cells) :
  DiskIs (w.setCells (G s) (o + k) cs) d F N (upd M s ((M s).set i y)) free fuse bm D G C ∧ Gr F F w (w.setCells (G s) (o + k) cs) := by
 obtain ⟨hi, he⟩ := lQ4.1 hx
 obtain ⟨_, hrow, hok⟩ := h.2.2.2.2.2.1 s (ne_of_at hx)
 subst ho
 have hl : (cellsE (M s)).length = (M s).length * 385 := cellsE_length hok
 obtain ⟨h1, hg⟩ := own_storedAll (w := w) cs (i * 385 + k) _ w hrow (by rw [hl]; have : (i + 1) * 385 ≤ (M s).length * 385 := Nat.mul_le_mul_right _ hi; omega)
 rw [cellsE_splice (M s) hok i hi k cs y hk (by rw [he]; exact hsp)] at h1
 refine ⟨h.turned s (ne_of_at hx) ((M s).set i y) (by simp) (fun z hz => ?_) hg h1, Gr.of (Keeps.of_grown hg (fun g hg => ?_))⟩
 ·
  rcases List.mem_or_eq_of_mem_set hz with hz | rfl
  ·
   exact hok z hz
  ·
   exact hy
 ·
  cases hg
  exact h.2.2.1.2 s (ne_of_at hx)
theorem ext_index (g n c i o : Nat) (hi : i < n) (ho : i * 385 = o) (wx : World) : (Instr.indexAt 132 (.slice (some ⟨g, 0, none⟩) n c) (.int .i64 (i : Int))).run Tryz.prog wx = .ok (.pointer (some ⟨g, o, none⟩)) wx := by
 rw [run_indexAt_slice _ _ _ _ _ _ _ (show Tryz.prog.underlying 132 = some (.slice (Tryz.prog.elem 132)) by kernel_rfl), if_pos ⟨by omega, by omega⟩, show Tryz.prog.elem 132 = 136 by kernel_rfl, sizeExt]
 show Result.ok (Value.pointer (some ((⟨g, 0, none⟩ : Addr).add ((i : Int).toNat * 385)))) wx = _
 rw [Int.toNat_natCast, ho, add_none, Nat.zero_add]
end
def Ext.wrote (x : Ext) (zs : List Nat) : Ext := { x with wri := zs, waits := true }
theorem Ext.wrote_ok {x : Ext} (h : x.ok) {zs : List Nat} (hl : zs.length = 128) (hz : ∀ y ∈ zs, y < 256) : (x.wrote zs).ok := ⟨h.1, h.2.1, hl, hz⟩
end Go.Proofs.YtdppolelakbbiaaGreatDoor

namespace Go.Proofs.YtdppolelakbbiaaGreatDoor
open Go.RowKit Go.Maps
set_option linter.unusedVariables false
end Go.Proofs.YtdppolelakbbiaaGreatDoor

namespace Go.Proofs.YtdppolelakbbiaaGreatDoor
open Go.RowKit Go.Maps
set_option linter.unusedVariables false
theorem name_size {s : ByteArray} (h : nameB s.data.toList = true) : s.size ≠ 0 ∧ s.size ≤ 24 := by
 have hl : s.data.toList.length = s.size := rfl
 unfold nameB at h
 rw [Bool.and_eq_true, decide_eq_true_eq, hl] at h
 omega
theorem image_all {zs : List Nat} : (vb zs).toArray.all (·.oneCell') = true := by simpa using one_vb zs
set_option maxHeartbeats 2000000 in
theorem write_old (w : World) (d : Nat) (F : Nat → Prop) (N : Nat) (M : List UInt8 → List Ext) (free fuse : Int) (h : DiskOf w d F N M free fuse) (s : ByteArray) (hs : nameB s.data.toList = true) (i n o : Nat) (HN : Hid (n = (M s.data.toList).length)) (hi : i < n) (ho : i * 385 = o)
  (b off cap : Nat) (zs : List Nat) (hb : BsF F w (some ⟨b, off, none⟩) 128 zs) (h0 : fuse ≠ 0) (hf : -1 ≤ fuse) (hf2 : fuse ≤ 9223372036854775807) (x : Ext) (HX : Hid ((M s.data.toList)[i]? = some x)) :
  Calls Tryz.prog 56 #[.pointer (some ⟨d, 0, none⟩), .string s, .int .i64 i, .slice (some ⟨b, off, none⟩) 128 cap] w fun e w' => e = .returned (.int .i64 0) ∧ DiskOf w' d F N (upd M s.data.toList ((M s.data.toList).set i (x.wrote zs))) free (burnt fuse) ∧ Gr F F w w' := by
 obtain ⟨hs0, hs24⟩ := name_size hs
 have hsm : s.size ≤ maxLen := by unfold maxLen; omega
 obtain ⟨bm, D, G, C, hI⟩ := h.is
 have hlen := hI.len s.data.toList
 rw [← HN.out] at hlen
 unfold maxLen at hlen
 have hlk := hI.look s hsm (ne_of_at HX.out)
 rw [← HN.out] at hlk
 have c0 := hI.c0
 have HI1 : Hid (i < n) := hi
 have HO : Hid (i * 385 = o) := ho
 have HS : Hid (nameB s.data.toList = true) := hs
 have h1 : decide ((i : Int) < 0) = false := by simp
 have h3 : decide (n < i) = false := by simp; omega
 have h4 : ((i : Int) == (n : Int)) = false := beq_eq_false_iff_ne.2 (by omega)
 have h5 : (i == n) = false := beq_eq_false_iff_ne.2 (by omega)
 have h6 : decide (i = n) = false := by simp; omega
 have hzl : zs.length = 128 := hb.1.1
 have hzb : ∀ y ∈ zs, y < 256 := hb.1.2.2.1
 have HSL : Hid ((Tryz.prog.info? 134).map (·.size) = some (vb zs).length) := hidn (by rw [(zero_of_info Tryz.infoImage).2, length_vb, hzl])
 have HSZ : Hid ((Tryz.prog.info? 134).map (·.size) = some (vb zs).toArray.size) := hidn (by rw [(zero_of_info Tryz.infoImage).2]; simp [length_vb, hzl])
 have HZL : Hid (zs.length = 128) := hzl
 have hAA : ∀ (wx : World), (Instr.arrayAt 134 (.slice (some ⟨b, off, none⟩) 128 cap)).run Tryz.prog wx = .ok (.pointer (some ⟨b, off, none⟩)) wx := fun wx => run_arrayAt wx _ _ 128 _ 128 cap Tryz.underlying134 (Nat.le_refl _)
 clear ho hi hs hI hzl
 go_enter Tryz.func56, Tryz.ntmps56
 go_wp2_with fail
 refine (isMade_any _ d F N M free fuse h).mono ?_
 rintro e w1 ⟨rfl, rfl⟩
 go_wp2_with fail
 refine (canName_any _ s hsm).mono ?_
 rw [HS.out]
 rintro e w1 ⟨rfl, rfl⟩
 go_wp2_with fail
 refine (burn_yes _ d F N M free fuse h h0 hf hf2).mono ?_
 rintro e w1 ⟨rfl, hD1, hG1⟩
 clear hlk c0
 obtain ⟨bm1, D1, G1, C1, hI1⟩ := hD1.is
 have hlk := hI1.look s hsm (ne_of_at HX.out)
 rw [← HN.out] at hlk
 have c0 := hI1.c0
 have hIX := ext_index (G1 s.data.toList) n (C1 s.data.toList) i o HI1.out HO.out
 have HR := hidn (bs_range (hb.gr hG1).1)
 obtain ⟨hI2, hG2⟩ := hI1.put s.data.toList i x HX.out o HO.out 256 (vb zs) { x with wri := zs } ⟨(hI1.parts _ i x HX.out o HO.out).2.2.2.2.2.1, (hI1.parts _ i x HX.out o HO.out).2.2.2.2.2.2.1, HZL.out, hzb⟩ (by rw [length_vb, HZL.out]; omega) (cells_wri (hI1.parts _ i x HX.out o HO.out).2.2.2.2.2 zs HZL.out)
 have HTH := hidn (hI1.thereAt s.data.toList i x HX.out o HO.out 256 128 (by omega))
 have hx2 : (upd M s.data.toList ((M s.data.toList).set i { x with wri := zs }) s.data.toList)[i]? = some { x with wri := zs } := by
  rw [upd_same, List.getElem?_set_self (by rw [← HN.out]; exact HI1.out)]
 obtain ⟨p1, p2, p3, p4, p5, p6⟩ := hI2.parts _ i _ hx2 o HO.out
 obtain ⟨hI3, hG3⟩ := hI2.put s.data.toList i _ hx2 o HO.out 384 [.bool true] (x.wrote zs) (Ext.wrote_ok (hI1.parts _ i x HX.out o HO.out).2.2.2.2.2 HZL.out hzb) (by simp) (cells_waits p6 true)
 rw [upd_upd, upd_same, List.set_set] at hI3
 have HI3 := hidn hI3.of
 have HG := hidn ((hG1.trans hG2).trans hG3)
 clear hI3 hI2 hI1 hG1 hG2 hG3 p1 p2 p3 p6 hx2 hD1
 generalize G1 s.data.toList = g at *
 generalize C1 s.data.toList = c at *
 obtain ⟨w2, hw2⟩ : ∃ w2, w2 = w1.setCells g (o + 256) (vb zs) := ⟨_, rfl⟩
 rw [← hw2] at p4 p5 HI3 HG
 have HW2 := hidn hw2
 clear hw2
 have HTH' : Hid (w1.there g (o + 256) (vb zs).toArray.size) := hidn (by have := HTH.out; simpa [length_vb, HZL.out] using this)
 clear HTH
 go_wp2_with (first
   | (with_reducible refine wpList_index (by rfl) 132 (.tmp 57) (.tmp 58) (by rfl) (.slice (some ⟨g, 0, none⟩) n c) (.int .i64 (i : Int)) (.pointer (some ⟨g, o, none⟩)) (by kernel_rfl) (by kernel_rfl) (hIX w1) ?_)
   | (with_reducible refine wpList_load_mid (by rfl) 134 (.tmp 63) (by rfl) b off (by kernel_rfl) (vb zs) _ HR.out Tryz.underlying134 (by rfl) HSL.out ?_)
   | (with_reducible refine wpList_store_mid (by rfl) 134 (.tmp 66) (.tmp 64) (by rfl) g (o + 256) (vb zs).toArray (by kernel_rfl) (by kernel_rfl) HTH'.out HSZ.out image_all ?_; rw [List.toList_toArray, ← HW2.out]))
 go_ret
 exact ⟨rfl, HI3.out, HG.out⟩
end Go.Proofs.YtdppolelakbbiaaGreatDoor

namespace Go.Proofs.YtdppolelakbbiaaGreatDoor
open Go.RowKit Go.Maps
set_option linter.unusedVariables false
def Ext.synced (x : Ext) : Ext := if x.waits then ⟨x.wri, x.wri, x.wri, false⟩ else x
theorem store_run {o : Oper} {a : Act} {w w' : World} {ty : TypeId} {x y : Operand} {vx vy : Value} (ho : o.op = Op.store ty x y) (hx : a.eval x = vx) (hy : a.eval y = vy) (hr : (Instr.storeAt ty vx vy).run Tryz.prog w = .ok () w') : (execOp a.eval o).run Tryz.prog w = .ok .skip w' := by
 simp [execOp, ho, hx, hy, hr, Result.andThen]
set_option maxHeartbeats 2000000 in
theorem sync_wait (w : World) (g o : Nat) (wr : List Nat) (hl : wr.length = 128) (hR : w.rangeAt g (o + 256) (vb wr)) (hT1 : w.there g o 128) (hT2 : w.there g (o + 128) 128) (hT3 : w.there g (o + 384) 1) (hb : w.cell? ⟨g, o + 384, none⟩ = some (.bool true)) :
  Calls Tryz.prog 102 #[.pointer (some ⟨g, o, none⟩)] w fun e w' => e = .returned (.tuple #[]) ∧ w' = ((w.drew.setCells g o (vb wr)).setCells g (o + 128) (vb wr)).setCells g (o + 384) [.bool false] := by
 have HSL : Hid ((Tryz.prog.info? 134).map (·.size) = some (vb wr).length) := hidn (by rw [(zero_of_info Tryz.infoImage).2, length_vb, hl])
 have HSZ : Hid ((Tryz.prog.info? 134).map (·.size) = some (vb wr).toArray.size) := hidn (by rw [(zero_of_info Tryz.infoImage).2]; simp [length_vb, hl])
 have hlv : (vb wr).toArray.size = 128 := by simp [length_vb, hl]
 have e1 : (Instr.storeAt 134 (.pointer (some ⟨g, o, none⟩)) (.agg (vb wr).toArray)).run Tryz.prog w.drew = .ok () (w.drew.setCells g o (vb wr)) := run_storeAt_mid _ _ _ _ _ (by rw [hlv]; exact hT1) HSZ.out image_all
 have t2 : (w.drew.setCells g o (vb wr)).there g (o + 128) 128 := World.there_setCells (show w.drew.there g (o + 128) 128 from hT2) _ _ _
 have e2 : (Instr.storeAt 134 (.pointer (some ⟨g, o + 128, none⟩)) (.agg (vb wr).toArray)).run Tryz.prog (w.drew.setCells g o (vb wr)) = .ok () ((w.drew.setCells g o (vb wr)).setCells g (o + 128) (vb wr)) := run_storeAt_mid _ _ _ _ _ (by rw [hlv]; exact t2) HSZ.out image_all
 have t3 : ((w.drew.setCells g o (vb wr)).setCells g (o + 128) (vb wr)).there g (o + 384) 1 := World.there_setCells (World.there_setCells (show w.drew.there g (o + 384) 1 from hT3) _ _ _) _ _ _
 have HR0 := hidn (show w.drew.rangeAt g (o + 256) (vb wr) from hR)
 have HR1 := hidn (World.rangeAt_setCells_apart HR0.out g o (vb wr) (Or.inr (Or.inr (by rw [length_vb, hl]; omega))))
 have HR2 := hidn (World.rangeAt_setCells_apart HR1.out g (o + 128) (vb wr) (Or.inr (Or.inr (by rw [length_vb, hl]; omega))))
 have HR3 := hidn (World.rangeAt_setCells_apart HR2.out g (o + 384) [.bool false] (Or.inr (Or.inl (by rw [length_vb, hl]; omega))))
 have c3 : ∃ v, ((w.drew.setCells g o (vb wr)).setCells g (o + 128) (vb wr)).cell? ⟨g, o + 384, none⟩ = some v := Option.isSome_iff_exists.1 (by simpa using (t3 0 (by omega)).1)
 have f3 : ((w.drew.setCells g o (vb wr)).setCells g (o + 128) (vb wr)).frozen? ⟨g, o + 384, none⟩ = false := by simpa using (t3 0 (by omega)).2
 obtain ⟨v3, c3⟩ := c3
 have e3 : (Instr.storeAt 4 (.pointer (some ⟨g, o + 384, none⟩)) (.bool false)).run Tryz.prog ((w.drew.setCells g o (vb wr)).setCells g (o + 128) (vb wr)) = .ok () (((w.drew.setCells g o (vb wr)).setCells g (o + 128) (vb wr)).setCells g (o + 384) [.bool false]) := by
  generalize (w.drew.setCells g o (vb wr)).setCells g (o + 128) (vb wr) = wx at c3 f3 ⊢
  clear e1 e2 HR1 HR2 HR3 t2 t3 HR0
  show _ = Result.ok () (wx.setCell ⟨g, o + 384, none⟩ (.bool false))
  go_simp
 obtain ⟨w0, hw0⟩ : ∃ w0, w0 = w.drew := ⟨_, rfl⟩
 rw [← hw0] at e1 e2 e3 HR0 HR1 HR2 HR3 ⊢
 obtain ⟨w1, hw1⟩ : ∃ w1, w1 = w0.setCells g o (vb wr) := ⟨_, rfl⟩
 rw [← hw1] at e1 e2 e3 HR1 HR2 HR3 ⊢
 obtain ⟨w2, hw2⟩ : ∃ w2, w2 = w1.setCells g (o + 128) (vb wr) := ⟨_, rfl⟩
 rw [← hw2] at e2 e3 HR2 HR3 ⊢
 obtain ⟨w3, hw3⟩ : ∃ w3, w3 = w2.setCells g (o + 384) [.bool false] := ⟨_, rfl⟩
 rw [← hw3] at e3 HR3 ⊢
 have HW0 := hidn hw0
 clear hw0 hw1 hw2 hw3 c3 f3 t2 t3 hT1 hT2 hT3 hR hl hlv
 go_enter Tryz.func102, Tryz.ntmps102
 go_wp2_with fail
 refine wp_region_noPanic ?_
 refine wp_region_held_drew (S := fun w' => w'.rangeAt g (o + 256) (vb wr)) (by kernel_rfl) (HW0.out ▸ HR0.out) (fun hHeld => ?_)
 rw [← HW0.out]
 rw [← HW0.out] at hHeld
 refine wpAnyH_take (i := 0) (v := Value.pointer (some ⟨g, o, none⟩)) rfl (by kernel_rfl) (by kernel_rfl) (by kernel_rfl) (fun _ _ _ h => h) (Or.inl ⟨by rfl, fun w hw => by go_simp⟩) hHeld ?_
 refine wpAnyH_take (i := 1) (v := Value.pointer (some ⟨g, o, none⟩)) rfl (by kernel_rfl) (by kernel_rfl) (by kernel_rfl) (fun _ _ _ h => h) (Or.inl ⟨by rfl, fun w hw => by go_simp⟩) hHeld ?_
 refine wpAnyH_take (i := 2) (v := Value.pointer (some ⟨g, o, none⟩)) rfl (by kernel_rfl) (by kernel_rfl) (by kernel_rfl) (fun _ _ _ h => h) (Or.inl ⟨by rfl, fun w hw => by go_simp⟩) hHeld ?_
 refine wpAnyH_take (i := 3) (v := Value.pointer (some ⟨g, o, none⟩)) rfl (by kernel_rfl) (by kernel_rfl) (by kernel_rfl) (fun _ _ _ h => h) (Or.inl ⟨by rfl, fun w hw => by go_simp⟩) hHeld ?_
 refine wpAnyH_take (i := 4) (v := Value.pointer (some ⟨g, o, none⟩)) rfl (by kernel_rfl) (by kernel_rfl) (by kernel_rfl) (fun _ _ _ h => h) (Or.inl ⟨by rfl, fun w hw => by go_simp⟩) hHeld ?_
 refine wpAnyH_take (i := 5) (v := Value.pointer (some ⟨g, o + 256, none⟩)) rfl (by kernel_rfl) (by kernel_rfl) (by kernel_rfl) (fun _ _ _ h => h) (Or.inl ⟨by rfl, fun w hw => by go_simp⟩) hHeld ?_
 refine drawn_as (l' := #[true, true, true, true, true, true, false, false, false, false, false, false, false, false, false, false, false, false, false, false]) (by kernel_rfl) ?_
 refine drawn_act (a' := { tmps := #[.pointer (some ⟨g, o, none⟩), undef, .pointer (some ⟨g, o, none⟩), .pointer (some ⟨g, o, none⟩), .pointer (some ⟨g, o + 384, none⟩), .bool true, .pointer (some ⟨g, o, none⟩), .pointer (some ⟨g, o, none⟩), .pointer (some ⟨g, o, none⟩), .pointer (some ⟨g, o, none⟩), .pointer (some ⟨g, o, none⟩), .pointer (some ⟨g, o + 256, none⟩), undef, undef, undef, undef, undef, undef, undef, undef, undef, undef, undef], defers := [] }) (by kernel_rfl) ?_
 refine wpAnyH_take (i := 6) (v := Value.agg (vb wr).toArray) rfl (by kernel_rfl) (by kernel_rfl) (by kernel_rfl) (fun _ _ _ h => h) (yieldsIf_load_mid (by kernel_rfl) 134 (.tmp 11) (by kernel_rfl) g (o + 256) (by kernel_rfl) (vb wr) _ (fun w h => h) Tryz.underlying134 rfl HSL.out) hHeld ?_
 refine drawn_as (l' := #[true, true, true, true, true, true, true, false, false, false, false, false, false, false, false, false, false, false, false, false]) (by kernel_rfl) ?_
 refine drawn_act (a' := { tmps := #[.pointer (some ⟨g, o, none⟩), undef, .pointer (some ⟨g, o, none⟩), .pointer (some ⟨g, o, none⟩), .pointer (some ⟨g, o + 384, none⟩), .bool true, .pointer (some ⟨g, o, none⟩), .pointer (some ⟨g, o, none⟩), .pointer (some ⟨g, o, none⟩), .pointer (some ⟨g, o, none⟩), .pointer (some ⟨g, o, none⟩), .pointer (some ⟨g, o + 256, none⟩), .agg (vb wr).toArray, undef, undef, undef, undef, undef, undef, undef, undef, undef, undef], defers := [] }) (by kernel_rfl) ?_
 refine wpAnyH_take (i := 7) (v := Value.pointer (some ⟨g, o, none⟩)) rfl (by kernel_rfl) (by kernel_rfl) (by kernel_rfl) (fun _ _ _ h => h) (Or.inl ⟨by rfl, fun w hw => by go_simp⟩) hHeld ?_
 refine wpAnyH_take (i := 8) (v := Value.pointer (some ⟨g, o, none⟩)) rfl (by kernel_rfl) (by kernel_rfl) (by kernel_rfl) (fun _ _ _ h => h) (Or.inl ⟨by rfl, fun w hw => by go_simp⟩) hHeld ?_
 refine wpAnyH_take (i := 9) (v := Value.pointer (some ⟨g, o + 256, none⟩)) rfl (by kernel_rfl) (by kernel_rfl) (by kernel_rfl) (fun _ _ _ h => h) (Or.inl ⟨by rfl, fun w hw => by go_simp⟩) hHeld ?_
 refine drawn_as (l' := #[true, true, true, true, true, true, true, true, true, true, false, false, false, false, false, false, false, false, false, false]) (by kernel_rfl) ?_
 refine drawn_act (a' := { tmps := #[.pointer (some ⟨g, o, none⟩), undef, .pointer (some ⟨g, o, none⟩), .pointer (some ⟨g, o, none⟩), .pointer (some ⟨g, o + 384, none⟩), .bool true, .pointer (some ⟨g, o, none⟩), .pointer (some ⟨g, o, none⟩), .pointer (some ⟨g, o, none⟩), .pointer (some ⟨g, o, none⟩), .pointer (some ⟨g, o, none⟩), .pointer (some ⟨g, o + 256, none⟩), .agg (vb wr).toArray, .pointer (some ⟨g, o, none⟩), .pointer (some ⟨g, o, none⟩), .pointer (some ⟨g, o + 256, none⟩), undef, undef, undef, undef, undef, undef, undef], defers := [] }) (by kernel_rfl) ?_
 refine wpAnyH_take (i := 10) (v := Value.agg (vb wr).toArray) rfl (by kernel_rfl) (by kernel_rfl) (by kernel_rfl) (fun _ _ _ h => h) (yieldsIf_load_mid (by kernel_rfl) 134 (.tmp 15) (by kernel_rfl) g (o + 256) (by kernel_rfl) (vb wr) _ (fun w h => h) Tryz.underlying134 rfl HSL.out) hHeld ?_
 refine drawn_as (l' := #[true, true, true, true, true, true, true, true, true, true, true, false, false, false, false, false, false, false, false, false]) (by kernel_rfl) ?_
 refine drawn_act (a' := { tmps := #[.pointer (some ⟨g, o, none⟩), undef, .pointer (some ⟨g, o, none⟩), .pointer (some ⟨g, o, none⟩), .pointer (some ⟨g, o + 384, none⟩), .bool true, .pointer (some ⟨g, o, none⟩), .pointer (some ⟨g, o, none⟩), .pointer (some ⟨g, o, none⟩), .pointer (some ⟨g, o, none⟩), .pointer (some ⟨g, o, none⟩), .pointer (some ⟨g, o + 256, none⟩), .agg (vb wr).toArray, .pointer (some ⟨g, o, none⟩), .pointer (some ⟨g, o, none⟩), .pointer (some ⟨g, o + 256, none⟩), .agg (vb wr).toArray, undef, undef, undef, undef, undef, undef], defers := [] }) (by kernel_rfl) ?_
 refine wpAnyH_take (i := 11) (v := Value.pointer (some ⟨g, o, none⟩)) rfl (by kernel_rfl) (by kernel_rfl) (by kernel_rfl) (fun _ _ _ h => h) (Or.inl ⟨by rfl, fun w hw => by go_simp⟩) hHeld ?_
 refine wpAnyH_take (i := 12) (v := Value.pointer (some ⟨g, o, none⟩)) rfl (by kernel_rfl) (by kernel_rfl) (by kernel_rfl) (fun _ _ _ h => h) (Or.inl ⟨by rfl, fun w hw => by go_simp⟩) hHeld ?_
 refine drawn_as (l' := #[true, true, true, true, true, true, true, true, true, true, true, true, true, false, false, false, false, false, false, false]) (by kernel_rfl) ?_
 refine drawn_act (a' := { tmps := #[.pointer (some ⟨g, o, none⟩), undef, .pointer (some ⟨g, o, none⟩), .pointer (some ⟨g, o, none⟩), .pointer (some ⟨g, o + 384, none⟩), .bool true, .pointer (some ⟨g, o, none⟩), .pointer (some ⟨g, o, none⟩), .pointer (some ⟨g, o, none⟩), .pointer (some ⟨g, o, none⟩), .pointer (some ⟨g, o, none⟩), .pointer (some ⟨g, o + 256, none⟩), .agg (vb wr).toArray, .pointer (some ⟨g, o, none⟩), .pointer (some ⟨g, o, none⟩), .pointer (some ⟨g, o + 256, none⟩), .agg (vb wr).toArray, .pointer (some ⟨g, o, none⟩), .pointer (some ⟨g, o, none⟩), undef, undef, undef, undef], defers := [] }) (by kernel_rfl) ?_
 refine wpAnyH_ready (rs := [13]) (by kernel_rfl) (by simp) ?_
 refine rdy_unit (i := 13) rfl rfl none rfl w1 (store_run (ty := 134) (x := .tmp 18) (y := .tmp 12) (by kernel_rfl) (by kernel_rfl) (by kernel_rfl) e1) HR1.out (fun hHeld => ?_) rdy_nil
 refine drawn_as (l' := #[true, true, true, true, true, true, true, true, true, true, true, true, true, true, false, false, false, false, false, false]) (by kernel_rfl) ?_
 refine drawn_act (a' := { tmps := #[.pointer (some ⟨g, o, none⟩), undef, .pointer (some ⟨g, o, none⟩), .pointer (some ⟨g, o, none⟩), .pointer (some ⟨g, o + 384, none⟩), .bool true, .pointer (some ⟨g, o, none⟩), .pointer (some ⟨g, o, none⟩), .pointer (some ⟨g, o, none⟩), .pointer (some ⟨g, o, none⟩), .pointer (some ⟨g, o, none⟩), .pointer (some ⟨g, o + 256, none⟩), .agg (vb wr).toArray, .pointer (some ⟨g, o, none⟩), .pointer (some ⟨g, o, none⟩), .pointer (some ⟨g, o + 256, none⟩), .agg (vb wr).toArray, .pointer (some ⟨g, o, none⟩), .pointer (some ⟨g, o, none⟩), undef, undef, undef, undef], defers := [] }) (by kernel_rfl) ?_
 refine wpAnyH_take (i := 14) (v := Value.pointer (some ⟨g, o, none⟩)) rfl (by kernel_rfl) (by kernel_rfl) (by kernel_rfl) (fun _ _ _ h => h) (Or.inl ⟨by rfl, fun w hw => by go_simp⟩) hHeld ?_
 refine wpAnyH_take (i := 15) (v := Value.pointer (some ⟨g, o + 128, none⟩)) rfl (by kernel_rfl) (by kernel_rfl) (by kernel_rfl) (fun _ _ _ h => h) (Or.inl ⟨by rfl, fun w hw => by go_simp⟩) hHeld ?_
 refine drawn_as (l' := #[true, true, true, true, true, true, true, true, true, true, true, true, true, true, true, true, false, false, false, false]) (by kernel_rfl) ?_
 refine drawn_act (a' := { tmps := #[.pointer (some ⟨g, o, none⟩), undef, .pointer (some ⟨g, o, none⟩), .pointer (some ⟨g, o, none⟩), .pointer (some ⟨g, o + 384, none⟩), .bool true, .pointer (some ⟨g, o, none⟩), .pointer (some ⟨g, o, none⟩), .pointer (some ⟨g, o, none⟩), .pointer (some ⟨g, o, none⟩), .pointer (some ⟨g, o, none⟩), .pointer (some ⟨g, o + 256, none⟩), .agg (vb wr).toArray, .pointer (some ⟨g, o, none⟩), .pointer (some ⟨g, o, none⟩), .pointer (some ⟨g, o + 256, none⟩), .agg (vb wr).toArray, .pointer (some ⟨g, o, none⟩), .pointer (some ⟨g, o, none⟩), .pointer (some ⟨g, o, none⟩), .pointer (some ⟨g, o + 128, none⟩), undef, undef], defers := [] }) (by kernel_rfl) ?_
 refine wpAnyH_ready (rs := [16]) (by kernel_rfl) (by simp) ?_
 refine rdy_unit (i := 16) rfl rfl none rfl w2 (store_run (ty := 134) (x := .tmp 20) (y := .tmp 16) (by kernel_rfl) (by kernel_rfl) (by kernel_rfl) e2) HR2.out (fun hHeld => ?_) rdy_nil
 refine drawn_as (l' := #[true, true, true, true, true, true, true, true, true, true, true, true, true, true, true, true, true, false, false, false]) (by kernel_rfl) ?_
 refine drawn_act (a' := { tmps := #[.pointer (some ⟨g, o, none⟩), undef, .pointer (some ⟨g, o, none⟩), .pointer (some ⟨g, o, none⟩), .pointer (some ⟨g, o + 384, none⟩), .bool true, .pointer (some ⟨g, o, none⟩), .pointer (some ⟨g, o, none⟩), .pointer (some ⟨g, o, none⟩), .pointer (some ⟨g, o, none⟩), .pointer (some ⟨g, o, none⟩), .pointer (some ⟨g, o + 256, none⟩), .agg (vb wr).toArray, .pointer (some ⟨g, o, none⟩), .pointer (some ⟨g, o, none⟩), .pointer (some ⟨g, o + 256, none⟩), .agg (vb wr).toArray, .pointer (some ⟨g, o, none⟩), .pointer (some ⟨g, o, none⟩), .pointer (some ⟨g, o, none⟩), .pointer (some ⟨g, o + 128, none⟩), undef, undef], defers := [] }) (by kernel_rfl) ?_
 refine wpAnyH_take (i := 17) (v := Value.pointer (some ⟨g, o, none⟩)) rfl (by kernel_rfl) (by kernel_rfl) (by kernel_rfl) (fun _ _ _ h => h) (Or.inl ⟨by rfl, fun w hw => by go_simp⟩) hHeld ?_
 refine wpAnyH_take (i := 18) (v := Value.pointer (some ⟨g, o + 384, none⟩)) rfl (by kernel_rfl) (by kernel_rfl) (by kernel_rfl) (fun _ _ _ h => h) (Or.inl ⟨by rfl, fun w hw => by go_simp⟩) hHeld ?_
 refine drawn_as (l' := #[true, true, true, true, true, true, true, true, true, true, true, true, true, true, true, true, true, true, true, false]) (by kernel_rfl) ?_
 refine drawn_act (a' := { tmps := #[.pointer (some ⟨g, o, none⟩), undef, .pointer (some ⟨g, o, none⟩), .pointer (some ⟨g, o, none⟩), .pointer (some ⟨g, o + 384, none⟩), .bool true, .pointer (some ⟨g, o, none⟩), .pointer (some ⟨g, o, none⟩), .pointer (some ⟨g, o, none⟩), .pointer (some ⟨g, o, none⟩), .pointer (some ⟨g, o, none⟩), .pointer (some ⟨g, o + 256, none⟩), .agg (vb wr).toArray, .pointer (some ⟨g, o, none⟩), .pointer (some ⟨g, o, none⟩), .pointer (some ⟨g, o + 256, none⟩), .agg (vb wr).toArray, .pointer (some ⟨g, o, none⟩), .pointer (some ⟨g, o, none⟩), .pointer (some ⟨g, o, none⟩), .pointer (some ⟨g, o + 128, none⟩), .pointer (some ⟨g, o, none⟩), .pointer (some ⟨g, o + 384, none⟩)], defers := [] }) (by kernel_rfl) ?_
 refine wpAnyH_ready (rs := [19]) (by kernel_rfl) (by simp) ?_
 refine rdy_unit (i := 19) rfl rfl none rfl w3 (store_run (ty := 4) (x := .tmp 22) (y := .const (.bool false)) (by kernel_rfl) (by kernel_rfl) (by kernel_rfl) e3) HR3.out (fun hHeld => ?_) rdy_nil
 refine drawn_as (l' := #[true, true, true, true, true, true, true, true, true, true, true, true, true, true, true, true, true, true, true, true]) (by kernel_rfl) ?_
 refine drawn_act (a' := { tmps := #[.pointer (some ⟨g, o, none⟩), undef, .pointer (some ⟨g, o, none⟩), .pointer (some ⟨g, o, none⟩), .pointer (some ⟨g, o + 384, none⟩), .bool true, .pointer (some ⟨g, o, none⟩), .pointer (some ⟨g, o, none⟩), .pointer (some ⟨g, o, none⟩), .pointer (some ⟨g, o, none⟩), .pointer (some ⟨g, o, none⟩), .pointer (some ⟨g, o + 256, none⟩), .agg (vb wr).toArray, .pointer (some ⟨g, o, none⟩), .pointer (some ⟨g, o, none⟩), .pointer (some ⟨g, o + 256, none⟩), .agg (vb wr).toArray, .pointer (some ⟨g, o, none⟩), .pointer (some ⟨g, o, none⟩), .pointer (some ⟨g, o, none⟩), .pointer (some ⟨g, o + 128, none⟩), .pointer (some ⟨g, o, none⟩), .pointer (some ⟨g, o + 384, none⟩)], defers := [] }) (by kernel_rfl) ?_
 refine wpAnyH_done (by kernel_rfl) ?_ _
 refine NoPanic.normal ?_
 clear e1 e2 e3 hHeld
 go_wp2
 go_end0
 exact ⟨rfl, rfl⟩
end Go.Proofs.YtdppolelakbbiaaGreatDoor
