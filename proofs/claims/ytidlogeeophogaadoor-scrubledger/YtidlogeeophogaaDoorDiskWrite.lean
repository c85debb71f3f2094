/- The disk's Write: its contracts. -/
import Derived.Test.YtidlogeeophogaaDoorDiskPut
namespace Go.Proofs.YtidlogeeophogaaDoor
open Go.RowKit Go.Maps
set_option linter.unusedVariables false

theorem name_size {s : ByteArray} (h : nameB s.data.toList = true) : s.size ≠ 0 ∧ s.size ≤ 24 := by
  have hl : s.data.toList.length = s.size := rfl
  unfold nameB at h
  rw [Bool.and_eq_true, decide_eq_true_eq, hl] at h
  omega
theorem image_all {zs : List Nat} : (vb zs).toArray.all (·.oneCell') = true := by simpa using one_vb zs

set_option maxHeartbeats 2000000 in
theorem write_old (w : World) (d : Nat) (F : Nat → Prop) (N : Nat) (M : List UInt8 → List Ext) (free fuse : Int) (h : DiskOf w d F N M free fuse) (s : ByteArray) (hs : nameB s.data.toList = true) (i n o : Nat) (HN : Hid (n = (M s.data.toList).length)) (hi : i < n) (ho : i * 385 = o)
    (b off cap : Nat) (zs : List Nat) (hb : BsF F w (some ⟨b, off, none⟩) 128 zs) (h0 : fuse ≠ 0) (hf : -1 ≤ fuse) (hf2 : fuse ≤ 9223372036854775807) (x : Ext) (HX : Hid ((M s.data.toList)[i]? = some x)) :
    Calls Tryd.prog 70 #[.pointer (some ⟨d, 0, none⟩), .string s, .int .i64 i, .slice (some ⟨b, off, none⟩) 128 cap] w fun e w' => e = .returned (.int .i64 0) ∧ DiskOf w' d F N (upd M s.data.toList ((M s.data.toList).set i (x.wrote zs))) free (burnt fuse) ∧ Gr F F w w' := by
  obtain ⟨hs0, hs24⟩ := name_size hs
  have hsm : s.size ≤ maxLen := by unfold maxLen; omega
  obtain ⟨bm, D, G, C, hI⟩ := h.is
  have hlen := hI.len s.data.toList
  rw [← HN.out] at hlen
  unfold maxLen at hlen
  have hlk := hI.look s hsm (ne_of_at HX.out)
  rw [← HN.out] at hlk
  have c0 := hI.c0
  have HI1 : Hid (i < n) := hi
  have HO : Hid (i * 385 = o) := ho
  have HS : Hid (nameB s.data.toList = true) := hs
  have h1 : decide ((i : Int) < 0) = false := by simp
  have h3 : decide (n < i) = false := by simp; omega
  have h4 : ((i : Int) == (n : Int)) = false := beq_eq_false_iff_ne.2 (by omega)
  have h5 : (i == n) = false := beq_eq_false_iff_ne.2 (by omega)
  have h6 : decide (i = n) = false := by simp; omega
  have hzl : zs.length = 128 := hb.1.1
  have hzb : ∀ y ∈ zs, y < 256 := hb.1.2.2.1
  have HSL : Hid ((Tryd.prog.info? 116).map (·.size) = some (vb zs).length) := hidn (by rw [(zero_of_info Tryd.infoImage).2, length_vb, hzl])
  have HSZ : Hid ((Tryd.prog.info? 116).map (·.size) = some (vb zs).toArray.size) := hidn (by rw [(zero_of_info Tryd.infoImage).2]; simp [length_vb, hzl])
  have HZL : Hid (zs.length = 128) := hzl
  have hAA : ∀ (wx : World), (Instr.arrayAt 116 (.slice (some ⟨b, off, none⟩) 128 cap)).run Tryd.prog wx = .ok (.pointer (some ⟨b, off, none⟩)) wx := fun wx => run_arrayAt wx _ _ 128 _ 128 cap Tryd.underlying116 (Nat.le_refl _)
  clear ho hi hs hI hzl
  go_enter Tryd.func70, Tryd.ntmps70
  go_wp2_with fail
  refine (isMade_any _ d F N M free fuse h).mono ?_
  rintro e w1 ⟨rfl, rfl⟩
  go_wp2_with fail
  refine (canName_any _ s hsm).mono ?_
  rw [HS.out]
  rintro e w1 ⟨rfl, rfl⟩
  go_wp2_with fail
  refine (burn_yes _ d F N M free fuse h h0 hf hf2).mono ?_
  rintro e w1 ⟨rfl, hD1, hG1⟩
  clear hlk c0
  obtain ⟨bm1, D1, G1, C1, hI1⟩ := hD1.is
  have hlk := hI1.look s hsm (ne_of_at HX.out)
  rw [← HN.out] at hlk
  have c0 := hI1.c0
  have hIX := ext_index (G1 s.data.toList) n (C1 s.data.toList) i o HI1.out HO.out
  have HR := hidn (bs_range (hb.gr hG1).1)
  obtain ⟨hI2, hG2⟩ := hI1.put s.data.toList i x HX.out o HO.out 256 (vb zs) { x with wri := zs } ⟨(hI1.parts _ i x HX.out o HO.out).2.2.2.2.2.1, (hI1.parts _ i x HX.out o HO.out).2.2.2.2.2.2.1, HZL.out, hzb⟩ (by rw [length_vb, HZL.out]; omega) (cells_wri (hI1.parts _ i x HX.out o HO.out).2.2.2.2.2 zs HZL.out)
  have HTH := hidn (hI1.thereAt s.data.toList i x HX.out o HO.out 256 128 (by omega))
  have hx2 : (upd M s.data.toList ((M s.data.toList).set i { x with wri := zs }) s.data.toList)[i]? = some { x with wri := zs } := by
    rw [upd_same, List.getElem?_set_self (by rw [← HN.out]; exact HI1.out)]
  obtain ⟨p1, p2, p3, p4, p5, p6⟩ := hI2.parts _ i _ hx2 o HO.out
  obtain ⟨hI3, hG3⟩ := hI2.put s.data.toList i _ hx2 o HO.out 384 [.bool true] (x.wrote zs) (Ext.wrote_ok (hI1.parts _ i x HX.out o HO.out).2.2.2.2.2 HZL.out hzb) (by simp) (cells_waits p6 true)
  rw [upd_upd, upd_same, List.set_set] at hI3
  have HI3 := hidn hI3.of
  have HG := hidn ((hG1.trans hG2).trans hG3)
  clear hI3 hI2 hI1 hG1 hG2 hG3 p1 p2 p3 p6 hx2 hD1
  generalize G1 s.data.toList = g at *
  generalize C1 s.data.toList = c at *
  obtain ⟨w2, hw2⟩ : ∃ w2, w2 = w1.setCells g (o + 256) (vb zs) := ⟨_, rfl⟩
  rw [← hw2] at p4 p5 HI3 HG
  have HW2 := hidn hw2
  clear hw2
  have HTH' : Hid (w1.there g (o + 256) (vb zs).toArray.size) := hidn (by have := HTH.out; simpa [length_vb, HZL.out] using this)
  clear HTH
  go_wp2_with (first
      | (with_reducible refine wpList_index (by rfl) 121 (.tmp 57) (.tmp 58) (by rfl) (.slice (some ⟨g, 0, none⟩) n c) (.int .i64 (i : Int)) (.pointer (some ⟨g, o, none⟩)) (by kernel_rfl) (by kernel_rfl) (hIX w1) ?_)
      | (with_reducible refine wpList_load_mid (by rfl) 116 (.tmp 63) (by rfl) b off (by kernel_rfl) (vb zs) _ HR.out Tryd.underlying116 (by rfl) HSL.out ?_)
      | (with_reducible refine wpList_store_mid (by rfl) 116 (.tmp 66) (.tmp 64) (by rfl) g (o + 256) (vb zs).toArray (by kernel_rfl) (by kernel_rfl) HTH'.out HSZ.out image_all ?_; rw [List.toList_toArray, ← HW2.out]))
  go_ret
  exact ⟨rfl, HI3.out, HG.out⟩
end Go.Proofs.YtidlogeeophogaaDoor
