/- The disk's Write of a new extent: its contract. -/
import Derived.Test.YtdppolelakbbiaaGreatDoorMd
import Derived.Test.YtdppolelakbbiaaGreatDoorMi
import Derived.Test.YtdppolelakbbiaaGreatDoorMe
namespace Go.Proofs.YtdppolelakbbiaaGreatDoor
open Go.RowKit Go.Maps
set_option linter.unusedVariables false
set_option maxHeartbeats 2000000 in
theorem write_new (w : World) (d : Nat) (F : Nat → Prop) (N : Nat) (M : List UInt8 → List Ext) (free fuse : Int) (h : DiskOf w d F N M free fuse) (s : ByteArray) (hs : nameB s.data.toList = true) (n o : Nat) (HN : Hid (n = (M s.data.toList).length)) (ho : n * 385 = o)
  (b off cap : Nat) (zs : List Nat) (hb : BsF F w (some ⟨b, off, none⟩) 128 zs) (h0 : fuse ≠ 0) (hf : -1 ≤ fuse) (hf2 : fuse ≤ 9223372036854775807) (hn : n ≤ 1000000) (hNm : N < maxLen) (hfr : 1 ≤ free) (hfr2 : free ≤ 1000000) :
  Calls Tryz.prog 56 #[.pointer (some ⟨d, 0, none⟩), .string s, .int .i64 n, .slice (some ⟨b, off, none⟩) 128 cap] w fun e w' => e = .returned (.int .i64 0) ∧ ∃ F', DiskOf w' d F' (N + 1) (upd M s.data.toList (M s.data.toList ++ [zeroE.wrote zs])) (free - 1) (burnt fuse) ∧ Gr F F' w w' := by
 obtain ⟨hs0, hs24⟩ := name_size hs
 have hsm : s.size ≤ maxLen := by unfold maxLen; omega
 obtain ⟨bm, D, G, C, hI⟩ := h.is
 obtain ⟨V, V1, V2, V3, V4, hlk⟩ : ∃ V a c, V = Value.slice a n c ∧ True ∧ (Instr.lookup 122 (.map (some bm)) (.string s) false).run Tryz.prog w = .ok V w := by
  by_cases hne : M s.data.toList = []
  ·
   refine ⟨_, none, 0, ?_, trivial, hI.look_no s hsm hne⟩
   rw [HN.out, hne]; rfl
  ·
   exact ⟨_, _, _, by rw [HN.out], trivial, hI.look s hsm hne⟩
 subst V3
 have c0 := hI.c0
 have HO : Hid (n * 385 = o) := ho
 have HS : Hid (nameB s.data.toList = true) := hs
 have h1 : decide ((n : Int) < 0) = false := by simp
 have h3 : decide (n < n) = false := by simp
 have hfe : (free == 0) = false := beq_eq_false_iff_ne.2 (by omega)
 have hzl : zs.length = 128 := hb.1.1
 have hzb : ∀ y ∈ zs, y < 256 := hb.1.2.2.1
 have HSL : Hid ((Tryz.prog.info? 134).map (·.size) = some (vb zs).length) := hidn (by rw [(zero_of_info Tryz.infoImage).2, length_vb, hzl])
 have HSZ : Hid ((Tryz.prog.info? 134).map (·.size) = some (vb zs).toArray.size) := hidn (by rw [(zero_of_info Tryz.infoImage).2]; simp [length_vb, hzl])
 have HZL : Hid (zs.length = 128) := hzl
 have hAA : ∀ (wx : World), (Instr.arrayAt 134 (.slice (some ⟨b, off, none⟩) 128 cap)).run Tryz.prog wx = .ok (.pointer (some ⟨b, off, none⟩)) wx := fun wx => run_arrayAt wx _ _ 128 _ 128 cap Tryz.underlying134 (Nat.le_refl _)
 clear ho hs hI hzl V4
 go_enter Tryz.func56, Tryz.ntmps56
 go_wp2_with fail
 refine (isMade_any _ d F N M free fuse h).mono ?_
 rintro e w1 ⟨rfl, rfl⟩
 go_wp2_with fail
 refine (canName_any _ s hsm).mono ?_
 rw [HS.out]
 rintro e w1 ⟨rfl, rfl⟩
 go_wp2_with fail
 refine (burn_yes _ d F N M free fuse h h0 hf hf2).mono ?_
 rintro e w1 ⟨rfl, hD1, hG1⟩
 clear hlk c0
 obtain ⟨bm0, D0, G0, C0, hI0⟩ := hD1.is
 have c0 := hI0.c0
 have c1 := hI0.c1
 clear hI0
 go_wp2_with fail
 refine (grow_any _ d F N M free (burnt fuse) hD1 s hs0 (by omega) n HN hn hNm hfr hfr2).mono ?_
 rintro e w3 ⟨rfl, F3, hD3, hG3⟩
 clear c0 c1
 obtain ⟨M3, hM3⟩ : ∃ M3, M3 = upd M s.data.toList (M s.data.toList ++ [zeroE]) := ⟨_, rfl⟩
 rw [← hM3] at hD3
 have hMs : M3 s.data.toList = M s.data.toList ++ [zeroE] := by rw [hM3, upd_same]
 have hX : (M3 s.data.toList)[n]? = some zeroE := by rw [hMs, HN.out]; simp
 have hLn : (M3 s.data.toList).length = n + 1 := by rw [hMs, HN.out]; simp
 obtain ⟨bm1, D1, G1, C1, hI1⟩ := hD3.is
 have hlk := hI1.look s hsm (ne_of_at hX)
 rw [hLn] at hlk
 have c0 := hI1.c0
 have hIX := ext_index (G1 s.data.toList) (n + 1) (C1 s.data.toList) n o (Nat.lt_succ_self _) HO.out
 have HR := hidn (bs_range ((hb.gr hG1).gr hG3).1)
 obtain ⟨hI2, hG4⟩ := hI1.put s.data.toList n zeroE hX o HO.out 256 (vb zs) { zeroE with wri := zs } ⟨zeroE_ok.1, zeroE_ok.2.1, HZL.out, hzb⟩ (by rw [length_vb, HZL.out]; omega) (cells_wri zeroE_ok zs HZL.out)
 have HTH := hidn (hI1.thereAt s.data.toList n zeroE hX o HO.out 256 128 (by omega))
 have hx2 : (upd M3 s.data.toList ((M3 s.data.toList).set n { zeroE with wri := zs }) s.data.toList)[n]? = some { zeroE with wri := zs } := by
  rw [upd_same, List.getElem?_set_self (by rw [hLn]; omega)]
 obtain ⟨p1, p2, p3, p4, p5, p6⟩ := hI2.parts _ n _ hx2 o HO.out
 obtain ⟨hI3, hG5⟩ := hI2.put s.data.toList n _ hx2 o HO.out 384 [.bool true] (zeroE.wrote zs) (Ext.wrote_ok zeroE_ok HZL.out hzb) (by simp) (cells_waits p6 true)
 rw [upd_upd, upd_same, List.set_set, hMs, HN.out, List.set_append_right _ _ (Nat.le_refl _), Nat.sub_self, List.set_cons_zero, hM3, upd_upd] at hI3
 have HI3 := hidn hI3.of
 have HG := hidn (((hG1.trans hG3).trans hG4).trans hG5)
 clear hI3 hI2 hI1 hG1 hG3 hG4 hG5 p1 p2 p3 p6 hx2 hD1 hD3 hX hLn hMs hM3
 generalize G1 s.data.toList = g at *
 generalize C1 s.data.toList = c at *
 obtain ⟨w2, hw2⟩ : ∃ w2, w2 = w3.setCells g (o + 256) (vb zs) := ⟨_, rfl⟩
 rw [← hw2] at p4 p5 HI3 HG
 have HW2 := hidn hw2
 clear hw2
 have HTH' : Hid (w3.there g (o + 256) (vb zs).toArray.size) := hidn (by have := HTH.out; simpa [length_vb, HZL.out] using this)
 clear HTH
 go_wp2_with (first
   | (with_reducible refine wpList_index (by rfl) 132 (.tmp 57) (.tmp 58) (by rfl) (.slice (some ⟨g, 0, none⟩) (n + 1) c) (.int .i64 (n : Int)) (.pointer (some ⟨g, o, none⟩)) (by kernel_rfl) (by kernel_rfl) (hIX w3) ?_)
   | (with_reducible refine wpList_load_mid (by rfl) 134 (.tmp 63) (by rfl) b off (by kernel_rfl) (vb zs) _ HR.out Tryz.underlying134 (by rfl) HSL.out ?_)
   | (with_reducible refine wpList_store_mid (by rfl) 134 (.tmp 66) (.tmp 64) (by rfl) g (o + 256) (vb zs).toArray (by kernel_rfl) (by kernel_rfl) HTH'.out HSZ.out image_all ?_; rw [List.toList_toArray, ← HW2.out]))
 go_ret
 exact ⟨rfl, _, HI3.out, HG.out⟩
end Go.Proofs.YtdppolelakbbiaaGreatDoor

namespace Go.Proofs.YtdppolelakbbiaaGreatDoor
open Go.RowKit Go.Maps
set_option linter.unusedVariables false
theorem DiskIs.look_len {w : World} {d N : Nat} {F : Nat → Prop} {M : List UInt8 → List Ext} {free fuse : Int} {bm : Nat} {D : DataW Unit} {G C : List UInt8 → Nat} (hI : DiskIs w d F N M free fuse bm D G C) (s : ByteArray) (hsm : s.size ≤ maxLen) (n : Nat) (HN : Hid (n = (M s.data.toList).length)) :
  ∃ a c, (Instr.lookup 122 (.map (some bm)) (.string s) false).run Tryz.prog w = .ok (.slice a n c) w := by
 by_cases hne : M s.data.toList = []
 ·
  refine ⟨none, 0, ?_⟩
  have : n = 0 := by rw [HN.out, hne]; rfl
  rw [this]
  exact hI.look_no s hsm hne
 ·
  rw [HN.out]
  exact ⟨_, _, hI.look s hsm hne⟩
set_option maxHeartbeats 2000000 in
theorem write_arg (w : World) (d : Nat) (F : Nat → Prop) (N : Nat) (M : List UInt8 → List Ext) (free fuse : Int) (h : DiskOf w d F N M free fuse) (s : ByteArray) (hsm : s.size ≤ maxLen) (i : Int) (n : Nat) (HN : Hid (n = (M s.data.toList).length)) (a : Option Addr) (len cap : Nat)
  (hbad : nameB s.data.toList = false ∨ len ≠ 128 ∨ i < 0 ∨ (n : Int) < i) :
  Calls Tryz.prog 56 #[.pointer (some ⟨d, 0, none⟩), .string s, .int .i64 i, .slice a len cap] w fun e w' => e = .returned (.int .i64 1) ∧ w' = w := by
 obtain ⟨bm, D, G, C, hI⟩ := h.is
 obtain ⟨va, vc, hlk⟩ := hI.look_len s hsm n HN
 have c0 := hI.c0
 clear hI
 obtain ⟨nb, hnb⟩ : ∃ nb, nb = nameB s.data.toList := ⟨_, rfl⟩
 rw [← hnb] at hbad
 have HNB : Hid (nb = nameB s.data.toList) := hnb
 clear hnb
 cases nb with
 | false =>
  clear hbad
  go_enter Tryz.func56, Tryz.ntmps56
  go_wp2_with fail
  refine (isMade_any _ d F N M free fuse h).mono ?_
  rintro e w1 ⟨rfl, rfl⟩
  go_wp2_with fail
  refine (canName_any _ s hsm).mono ?_
  rw [← HNB.out]
  rintro e w1 ⟨rfl, rfl⟩
  go_wp2
  go_ret
  exact ⟨rfl, rfl⟩
 | true =>
  by_cases hl : len = 128
  ·
   subst hl
   by_cases hi : i < 0
   ·
    have hi' : decide (i < 0) = true := by simpa using hi
    clear hbad hi
    go_enter Tryz.func56, Tryz.ntmps56
    go_wp2_with fail
    refine (isMade_any _ d F N M free fuse h).mono ?_
    rintro e w1 ⟨rfl, rfl⟩
    go_wp2_with fail
    refine (canName_any _ s hsm).mono ?_
    rw [← HNB.out]
    rintro e w1 ⟨rfl, rfl⟩
    go_wp2
    go_ret
    exact ⟨rfl, rfl⟩
   ·
    have hi' : decide (i < 0) = false := by simpa using hi
    have hni : (n : Int) < i := by rcases hbad with hx | hx | hx | hx <;> first | cases hx | exact absurd rfl hx | exact absurd hx hi | exact hx
    have hni' : decide ((n : Int) < i) = true := by simpa using hni
    clear hbad
    go_enter Tryz.func56, Tryz.ntmps56
    go_wp2_with fail
    refine (isMade_any _ d F N M free fuse h).mono ?_
    rintro e w1 ⟨rfl, rfl⟩
    go_wp2_with fail
    refine (canName_any _ s hsm).mono ?_
    rw [← HNB.out]
    rintro e w1 ⟨rfl, rfl⟩
    go_wp2
    go_ret
    exact ⟨rfl, rfl⟩
  ·
   have hl' : (((len : Nat) : Int) != 128) = true := bne_iff_ne.2 (by omega)
   clear hbad
   go_enter Tryz.func56, Tryz.ntmps56
   go_wp2_with fail
   refine (isMade_any _ d F N M free fuse h).mono ?_
   rintro e w1 ⟨rfl, rfl⟩
   go_wp2_with fail
   refine (canName_any _ s hsm).mono ?_
   rw [← HNB.out]
   rintro e w1 ⟨rfl, rfl⟩
   go_wp2
   go_ret
   exact ⟨rfl, rfl⟩
set_option maxHeartbeats 2000000 in
theorem write_dead (w : World) (d : Nat) (F : Nat → Prop) (N : Nat) (M : List UInt8 → List Ext) (free : Int) (h : DiskOf w d F N M free 0) (s : ByteArray) (hs : nameB s.data.toList = true) (i n : Nat) (HN : Hid (n = (M s.data.toList).length)) (hi : i ≤ n) (a : Option Addr) (cap : Nat) :
  Calls Tryz.prog 56 #[.pointer (some ⟨d, 0, none⟩), .string s, .int .i64 i, .slice a 128 cap] w fun e w' => e = .returned (.int .i64 31) ∧ w' = w := by
 obtain ⟨hs0, hs24⟩ := name_size hs
 have hsm : s.size ≤ maxLen := by unfold maxLen; omega
 obtain ⟨bm, D, G, C, hI⟩ := h.is
 obtain ⟨va, vc, hlk⟩ := hI.look_len s hsm n HN
 have c0 := hI.c0
 have HS : Hid (nameB s.data.toList = true) := hs
 have h1 : decide ((i : Int) < 0) = false := by simp
 have h3 : decide (n < i) = false := by simp; omega
 clear hI hs hi
 go_enter Tryz.func56, Tryz.ntmps56
 go_wp2_with fail
 refine (isMade_any _ d F N M free 0 h).mono ?_
 rintro e w1 ⟨rfl, rfl⟩
 go_wp2_with fail
 refine (canName_any _ s hsm).mono ?_
 rw [HS.out]
 rintro e w1 ⟨rfl, rfl⟩
 go_wp2_with fail
 refine (burn_zero _ d F N M free h).mono ?_
 rintro e w1 ⟨rfl, rfl⟩
 go_wp2
 go_ret
 exact ⟨rfl, rfl⟩
set_option maxHeartbeats 2000000 in
theorem write_full (w : World) (d : Nat) (F : Nat → Prop) (N : Nat) (M : List UInt8 → List Ext) (fuse : Int) (h : DiskOf w d F N M 0 fuse) (s : ByteArray) (hs : nameB s.data.toList = true) (n : Nat) (HN : Hid (n = (M s.data.toList).length)) (a : Option Addr) (cap : Nat) (h0 : fuse ≠ 0) (hf : -1 ≤ fuse) (hf2 : fuse ≤ 9223372036854775807) :
  Calls Tryz.prog 56 #[.pointer (some ⟨d, 0, none⟩), .string s, .int .i64 n, .slice a 128 cap] w fun e w' => e = .returned (.int .i64 4) ∧ DiskOf w' d F N M 0 (burnt fuse) ∧ Gr F F w w' := by
 obtain ⟨hs0, hs24⟩ := name_size hs
 have hsm : s.size ≤ maxLen := by unfold maxLen; omega
 obtain ⟨bm, D, G, C, hI⟩ := h.is
 obtain ⟨va, vc, hlk⟩ := hI.look_len s hsm n HN
 have c0 := hI.c0
 have HS : Hid (nameB s.data.toList = true) := hs
 have h1 : decide ((n : Int) < 0) = false := by simp
 have h3 : decide (n < n) = false := by simp
 clear hI hs
 go_enter Tryz.func56, Tryz.ntmps56
 go_wp2_with fail
 refine (isMade_any _ d F N M 0 fuse h).mono ?_
 rintro e w1 ⟨rfl, rfl⟩
 go_wp2_with fail
 refine (canName_any _ s hsm).mono ?_
 rw [HS.out]
 rintro e w1 ⟨rfl, rfl⟩
 go_wp2_with fail
 refine (burn_yes _ d F N M 0 fuse h h0 hf hf2).mono ?_
 rintro e w1 ⟨rfl, hD1, hG1⟩
 clear hlk c0
 obtain ⟨bm0, D0, G0, C0, hI0⟩ := hD1.is
 have c1 := hI0.c1
 clear hI0
 go_wp2
 go_ret
 exact ⟨rfl, hD1, hG1⟩
end Go.Proofs.YtdppolelakbbiaaGreatDoor

namespace Go.Proofs.YtdppolelakbbiaaGreatDoor
open Go.RowKit Go.Maps
set_option linter.unusedVariables false
theorem CrcTab.kept {F : Nat → Prop} {w w' : World} (h : CrcTab w) (hk : Keeps F w w') (hn : ¬ F 0) : CrcTab w' := by
 obtain ⟨h0, h1, h2, h3⟩ := h
 have e := hk.block 0 (by simpa using block_lt_of_cell h0) hn
 exact ⟨(World.cell?_of_block (w := w) e).trans h0, (World.cell?_of_block (w := w) e).trans h1, (World.cell?_of_block (w := w) e).trans h2, (World.cell?_of_block (w := w) e).trans h3⟩
theorem CrcTab.lt {w : World} (h : CrcTab w) : 0 < w.heap.size := by simpa using block_lt_of_cell h.1
set_option maxHeartbeats 1000000 in
theorem pairMade (w : World) (d : Nat) (F : Nat → Prop) (N : Nat) (M : List UInt8 → List Ext) (free fuse : Int) (h : DiskOf w d F N M free fuse) (hM0 : M [] = []) :
  Calls Tryz.prog 38 #[.pointer (some ⟨d, 0, none⟩)] w fun e w' => e = .returned (.bool true) ∧ Below w.heap.size w w' := by
 have hn : Hid ((0 : Nat) = (M (ByteArray.mk #[]).data.toList).length) := hidn (by show 0 = (M []).length; rw [hM0]; rfl)
 clear hM0
 go_enter Tryz.func38, Tryz.ntmps38
 go_wp2_with fail
 refine (diskRead_none _ d F N M free fuse h ⟨#[]⟩ (by decide) 0 0 hn (Or.inr (by omega))).mono ?_
 rintro e w1 ⟨rfl, hb⟩
 go_wp2
 go_ret
 exact ⟨rfl, hb⟩
def fileA (s : ByteArray) : ByteArray := s ++ ⟨#[46, 97]⟩
def fileB (s : ByteArray) : ByteArray := s ++ ⟨#[46, 98]⟩
set_option maxHeartbeats 1000000 in
theorem halves_any (w : World) (s : ByteArray) (hs : s.size ≤ 1000) :
  Calls Tryz.prog 40 #[.string s] w fun e w' => e = .returned (.agg #[.string (fileA s), .string (fileB s)]) ∧ Below w.heap.size w w' := by
 have ha : s ++ ⟨#[46, 97]⟩ = fileA s := rfl
 have hb : s ++ ⟨#[46, 98]⟩ = fileB s := rfl
 have h1 : s.size + 2 ≤ 1002 := by omega
 go_enter Tryz.func40, Tryz.ntmps40
 go_wp2
 exact bodyPost_ret (v := .agg #[.string (fileA s), .string (fileB s)]) (results_cell_row rfl _ _ w.heap.size 84 _ (0, 0) _ rfl (heap_alloc_new _ _) Tryz.underlying84 rfl (by kernel_rfl)) rfl ⟨rfl, (Below.refl _ _).alloc (Nat.le_refl _) _⟩
end Go.Proofs.YtdppolelakbbiaaGreatDoor

namespace Go.Proofs.YtdppolelakbbiaaGreatDoor
open Go.RowKit Go.Maps
set_option linter.unusedVariables false
structure Sound5 (w : World) (F : Nat → Prop) : Prop where
 tab : CrcTab w
 far : ¬ F 0
 lt : ∀ k, F k → k < w.heap.size
theorem Sound5.gr {w w' : World} {F F' : Nat → Prop} (h : Sound5 w F) (hg : Gr F F' w w') : Sound5 w' F' :=
 ⟨h.tab.kept hg.1 h.far, hg.not h.tab.lt h.far, hg.lt h.lt⟩
theorem Sound5.below {w w' : World} {F : Nat → Prop} (h : Sound5 w F) (hb : Below w.heap.size w w') : Sound5 w' F :=
 ⟨h.tab.below hb, h.far, fun k hk => lQ2 (h.lt k hk) hb.size⟩
theorem BsF.fresh {w w' : World} {F : Nat → Prop} {b : Nat} {len : Nat} {zs : List Nat} (h : Bs w' (some ⟨b, 0, none⟩) len zs) (hb : w.heap.size ≤ b) (hF : ∀ k, F k → k < w.heap.size) : BsF F w' (some ⟨b, 0, none⟩) len zs :=
 ⟨h, fun x hx _ hf => by cases hx; have := hF _ hf; simp at this; omega⟩
end Go.Proofs.YtdppolelakbbiaaGreatDoor
