/- The disk's Write of a new extent: its contract. -/
import Derived.Test.YtocfbokgbpaneaaMe
namespace Go.Proofs.Ytocfbokgbpaneaa
open Go.RowKit Go.Maps
set_option linter.unusedVariables false

set_option maxHeartbeats 2000000 in
theorem write_new (w : World) (d : Nat) (F : Nat → Prop) (N : Nat) (M : List UInt8 → List Ext) (free fuse : Int) (h : DiskOf w d F N M free fuse) (s : ByteArray) (hs : nameB s.data.toList = true) (n o : Nat) (HN : Hid (n = (M s.data.toList).length)) (ho : n * 385 = o)
    (b off cap : Nat) (zs : List Nat) (hb : BsF F w (some ⟨b, off, none⟩) 128 zs) (h0 : fuse ≠ 0) (hf : -1 ≤ fuse) (hf2 : fuse ≤ 9223372036854775807) (hn : n ≤ 1000000) (hNm : N < maxLen) (hfr : 1 ≤ free) (hfr2 : free ≤ 1000000) :
    Calls Try.prog 14 #[.pointer (some ⟨d, 0, none⟩), .string s, .int .i64 n, .slice (some ⟨b, off, none⟩) 128 cap] w fun e w' => e = .returned (.int .i64 0) ∧ ∃ F', DiskOf w' d F' (N + 1) (upd M s.data.toList (M s.data.toList ++ [zeroE.wrote zs])) (free - 1) (burnt fuse) ∧ Gr F F' w w' := by
  obtain ⟨hs0, hs24⟩ := name_size hs
  have hsm : s.size ≤ maxLen := by unfold maxLen; omega
  obtain ⟨bm, D, G, C, hI⟩ := h.is
  obtain ⟨V, V1, V2, V3, V4, hlk⟩ : ∃ V a c, V = Value.slice a n c ∧ True ∧ (Instr.lookup 41 (.map (some bm)) (.string s) false).run Try.prog w = .ok V w := by
    by_cases hne : M s.data.toList = []
    · refine ⟨_, none, 0, ?_, trivial, hI.look_no s hsm hne⟩
      rw [HN.out, hne]; rfl
    · exact ⟨_, _, _, by rw [HN.out], trivial, hI.look s hsm hne⟩
  subst V3
  have c0 := hI.c0
  have HO : Hid (n * 385 = o) := ho
  have HS : Hid (nameB s.data.toList = true) := hs
  have h1 : decide ((n : Int) < 0) = false := by simp
  have h3 : decide (n < n) = false := by simp
  have hfe : (free == 0) = false := beq_eq_false_iff_ne.2 (by omega)
  have hzl : zs.length = 128 := hb.1.1
  have hzb : ∀ y ∈ zs, y < 256 := hb.1.2.2.1
  have HSL : Hid ((Try.prog.info? 47).map (·.size) = some (vb zs).length) := hidn (by rw [(zero_of_info Try.infoImage).2, length_vb, hzl])
  have HSZ : Hid ((Try.prog.info? 47).map (·.size) = some (vb zs).toArray.size) := hidn (by rw [(zero_of_info Try.infoImage).2]; simp [length_vb, hzl])
  have HZL : Hid (zs.length = 128) := hzl
  have hAA : ∀ (wx : World), (Instr.arrayAt 47 (.slice (some ⟨b, off, none⟩) 128 cap)).run Try.prog wx = .ok (.pointer (some ⟨b, off, none⟩)) wx := fun wx => run_arrayAt wx _ _ 128 _ 128 cap Try.underlying47 (Nat.le_refl _)
  clear ho hs hI hzl V4
  go_enter Try.func14, Try.ntmps14
  go_wp2_with fail
  refine (isMade_any _ d F N M free fuse h).mono ?_
  rintro e w1 ⟨rfl, rfl⟩
  go_wp2_with fail
  refine (canName_any _ s hsm).mono ?_
  rw [HS.out]
  rintro e w1 ⟨rfl, rfl⟩
  go_wp2_with fail
  refine (burn_yes _ d F N M free fuse h h0 hf hf2).mono ?_
  rintro e w1 ⟨rfl, hD1, hG1⟩
  clear hlk c0
  obtain ⟨bm0, D0, G0, C0, hI0⟩ := hD1.is
  have c0 := hI0.c0
  have c1 := hI0.c1
  clear hI0
  go_wp2_with fail
  refine (grow_any _ d F N M free (burnt fuse) hD1 s hs0 (by omega) n HN hn hNm hfr hfr2).mono ?_
  rintro e w3 ⟨rfl, F3, hD3, hG3⟩
  clear c0 c1
  obtain ⟨M3, hM3⟩ : ∃ M3, M3 = upd M s.data.toList (M s.data.toList ++ [zeroE]) := ⟨_, rfl⟩
  rw [← hM3] at hD3
  have hMs : M3 s.data.toList = M s.data.toList ++ [zeroE] := by rw [hM3, upd_same]
  have hX : (M3 s.data.toList)[n]? = some zeroE := by rw [hMs, HN.out]; simp
  have hLn : (M3 s.data.toList).length = n + 1 := by rw [hMs, HN.out]; simp
  obtain ⟨bm1, D1, G1, C1, hI1⟩ := hD3.is
  have hlk := hI1.look s hsm (ne_of_at hX)
  rw [hLn] at hlk
  have c0 := hI1.c0
  have hIX := ext_index (G1 s.data.toList) (n + 1) (C1 s.data.toList) n o (Nat.lt_succ_self _) HO.out
  have HR := hidn (bs_range ((hb.gr hG1).gr hG3).1)
  obtain ⟨hI2, hG4⟩ := hI1.put s.data.toList n zeroE hX o HO.out 256 (vb zs) { zeroE with wri := zs } ⟨zeroE_ok.1, zeroE_ok.2.1, HZL.out, hzb⟩ (by rw [length_vb, HZL.out]; omega) (cells_wri zeroE_ok zs HZL.out)
  have HTH := hidn (hI1.thereAt s.data.toList n zeroE hX o HO.out 256 128 (by omega))
  have hx2 : (upd M3 s.data.toList ((M3 s.data.toList).set n { zeroE with wri := zs }) s.data.toList)[n]? = some { zeroE with wri := zs } := by
    rw [upd_same, List.getElem?_set_self (by rw [hLn]; omega)]
  obtain ⟨p1, p2, p3, p4, p5, p6⟩ := hI2.parts _ n _ hx2 o HO.out
  obtain ⟨hI3, hG5⟩ := hI2.put s.data.toList n _ hx2 o HO.out 384 [.bool true] (zeroE.wrote zs) (Ext.wrote_ok zeroE_ok HZL.out hzb) (by simp) (cells_waits p6 true)
  rw [upd_upd, upd_same, List.set_set, hMs, HN.out, List.set_append_right _ _ (Nat.le_refl _), Nat.sub_self, List.set_cons_zero, hM3, upd_upd] at hI3
  have HI3 := hidn hI3.of
  have HG := hidn (((hG1.trans hG3).trans hG4).trans hG5)
  clear hI3 hI2 hI1 hG1 hG3 hG4 hG5 p1 p2 p3 p6 hx2 hD1 hD3 hX hLn hMs hM3
  generalize G1 s.data.toList = g at *
  generalize C1 s.data.toList = c at *
  obtain ⟨w2, hw2⟩ : ∃ w2, w2 = w3.setCells g (o + 256) (vb zs) := ⟨_, rfl⟩
  rw [← hw2] at p4 p5 HI3 HG
  have HW2 := hidn hw2
  clear hw2
  have HTH' : Hid (w3.there g (o + 256) (vb zs).toArray.size) := hidn (by have := HTH.out; simpa [length_vb, HZL.out] using this)
  clear HTH
  go_wp2_with (first
      | (with_reducible refine wpList_index (by rfl) 44 (.tmp 57) (.tmp 58) (by rfl) (.slice (some ⟨g, 0, none⟩) (n + 1) c) (.int .i64 (n : Int)) (.pointer (some ⟨g, o, none⟩)) (by kernel_rfl) (by kernel_rfl) (hIX w3) ?_)
      | (with_reducible refine wpList_load_mid (by rfl) 47 (.tmp 63) (by rfl) b off (by kernel_rfl) (vb zs) _ HR.out Try.underlying47 (by rfl) HSL.out ?_)
      | (with_reducible refine wpList_store_mid (by rfl) 47 (.tmp 66) (.tmp 64) (by rfl) g (o + 256) (vb zs).toArray (by kernel_rfl) (by kernel_rfl) HTH'.out HSZ.out image_all ?_; rw [List.toList_toArray, ← HW2.out]))
  go_ret
  exact ⟨rfl, _, HI3.out, HG.out⟩
end Go.Proofs.Ytocfbokgbpaneaa

namespace Go.Proofs.Ytocfbokgbpaneaa
open Go.RowKit Go.Maps
set_option linter.unusedVariables false

/-- What a look-up tells has as many elements as the file. -/
theorem DiskIs.look_len {w : World} {d N : Nat} {F : Nat → Prop} {M : List UInt8 → List Ext} {free fuse : Int} {bm : Nat} {D : DataW Unit} {G C : List UInt8 → Nat} (hI : DiskIs w d F N M free fuse bm D G C) (s : ByteArray) (hsm : s.size ≤ maxLen) (n : Nat) (HN : Hid (n = (M s.data.toList).length)) :
    ∃ a c, (Instr.lookup 41 (.map (some bm)) (.string s) false).run Try.prog w = .ok (.slice a n c) w := by
  by_cases hne : M s.data.toList = []
  · refine ⟨none, 0, ?_⟩
    have : n = 0 := by rw [HN.out, hne]; rfl
    rw [this]
    exact hI.look_no s hsm hne
  · rw [HN.out]
    exact ⟨_, _, hI.look s hsm hne⟩

set_option maxHeartbeats 2000000 in
theorem write_arg (w : World) (d : Nat) (F : Nat → Prop) (N : Nat) (M : List UInt8 → List Ext) (free fuse : Int) (h : DiskOf w d F N M free fuse) (s : ByteArray) (hsm : s.size ≤ maxLen) (i : Int) (n : Nat) (HN : Hid (n = (M s.data.toList).length)) (a : Option Addr) (len cap : Nat)
    (hbad : nameB s.data.toList = false ∨ len ≠ 128 ∨ i < 0 ∨ (n : Int) < i) :
    Calls Try.prog 14 #[.pointer (some ⟨d, 0, none⟩), .string s, .int .i64 i, .slice a len cap] w fun e w' => e = .returned (.int .i64 1) ∧ w' = w := by
  obtain ⟨bm, D, G, C, hI⟩ := h.is
  obtain ⟨va, vc, hlk⟩ := hI.look_len s hsm n HN
  have c0 := hI.c0
  clear hI
  obtain ⟨nb, hnb⟩ : ∃ nb, nb = nameB s.data.toList := ⟨_, rfl⟩
  rw [← hnb] at hbad
  have HNB : Hid (nb = nameB s.data.toList) := hnb
  clear hnb
  cases nb with
  | false =>
    clear hbad
    go_enter Try.func14, Try.ntmps14
    go_wp2_with fail
    refine (isMade_any _ d F N M free fuse h).mono ?_
    rintro e w1 ⟨rfl, rfl⟩
    go_wp2_with fail
    refine (canName_any _ s hsm).mono ?_
    rw [← HNB.out]
    rintro e w1 ⟨rfl, rfl⟩
    go_wp2
    go_ret
    exact ⟨rfl, rfl⟩
  | true =>
    by_cases hl : len = 128
    · subst hl
      by_cases hi : i < 0
      · have hi' : decide (i < 0) = true := by simpa using hi
        clear hbad hi
        go_enter Try.func14, Try.ntmps14
        go_wp2_with fail
        refine (isMade_any _ d F N M free fuse h).mono ?_
        rintro e w1 ⟨rfl, rfl⟩
        go_wp2_with fail
        refine (canName_any _ s hsm).mono ?_
        rw [← HNB.out]
        rintro e w1 ⟨rfl, rfl⟩
        go_wp2
        go_ret
        exact ⟨rfl, rfl⟩
      · have hi' : decide (i < 0) = false := by simpa using hi
        have hni : (n : Int) < i := by rcases hbad with hx | hx | hx | hx <;> first | cases hx | exact absurd rfl hx | exact absurd hx hi | exact hx
        have hni' : decide ((n : Int) < i) = true := by simpa using hni
        clear hbad
        go_enter Try.func14, Try.ntmps14
        go_wp2_with fail
        refine (isMade_any _ d F N M free fuse h).mono ?_
        rintro e w1 ⟨rfl, rfl⟩
        go_wp2_with fail
        refine (canName_any _ s hsm).mono ?_
        rw [← HNB.out]
        rintro e w1 ⟨rfl, rfl⟩
        go_wp2
        go_ret
        exact ⟨rfl, rfl⟩
    · have hl' : (((len : Nat) : Int) != 128) = true := bne_iff_ne.2 (by omega)
      clear hbad
      go_enter Try.func14, Try.ntmps14
      go_wp2_with fail
      refine (isMade_any _ d F N M free fuse h).mono ?_
      rintro e w1 ⟨rfl, rfl⟩
      go_wp2_with fail
      refine (canName_any _ s hsm).mono ?_
      rw [← HNB.out]
      rintro e w1 ⟨rfl, rfl⟩
      go_wp2
      go_ret
      exact ⟨rfl, rfl⟩

set_option maxHeartbeats 2000000 in
theorem write_dead (w : World) (d : Nat) (F : Nat → Prop) (N : Nat) (M : List UInt8 → List Ext) (free : Int) (h : DiskOf w d F N M free 0) (s : ByteArray) (hs : nameB s.data.toList = true) (i n : Nat) (HN : Hid (n = (M s.data.toList).length)) (hi : i ≤ n) (a : Option Addr) (cap : Nat) :
    Calls Try.prog 14 #[.pointer (some ⟨d, 0, none⟩), .string s, .int .i64 i, .slice a 128 cap] w fun e w' => e = .returned (.int .i64 31) ∧ w' = w := by
  obtain ⟨hs0, hs24⟩ := name_size hs
  have hsm : s.size ≤ maxLen := by unfold maxLen; omega
  obtain ⟨bm, D, G, C, hI⟩ := h.is
  obtain ⟨va, vc, hlk⟩ := hI.look_len s hsm n HN
  have c0 := hI.c0
  have HS : Hid (nameB s.data.toList = true) := hs
  have h1 : decide ((i : Int) < 0) = false := by simp
  have h3 : decide (n < i) = false := by simp; omega
  clear hI hs hi
  go_enter Try.func14, Try.ntmps14
  go_wp2_with fail
  refine (isMade_any _ d F N M free 0 h).mono ?_
  rintro e w1 ⟨rfl, rfl⟩
  go_wp2_with fail
  refine (canName_any _ s hsm).mono ?_
  rw [HS.out]
  rintro e w1 ⟨rfl, rfl⟩
  go_wp2_with fail
  refine (burn_zero _ d F N M free h).mono ?_
  rintro e w1 ⟨rfl, rfl⟩
  go_wp2
  go_ret
  exact ⟨rfl, rfl⟩

set_option maxHeartbeats 2000000 in
theorem write_full (w : World) (d : Nat) (F : Nat → Prop) (N : Nat) (M : List UInt8 → List Ext) (fuse : Int) (h : DiskOf w d F N M 0 fuse) (s : ByteArray) (hs : nameB s.data.toList = true) (n : Nat) (HN : Hid (n = (M s.data.toList).length)) (a : Option Addr) (cap : Nat) (h0 : fuse ≠ 0) (hf : -1 ≤ fuse) (hf2 : fuse ≤ 9223372036854775807) :
    Calls Try.prog 14 #[.pointer (some ⟨d, 0, none⟩), .string s, .int .i64 n, .slice a 128 cap] w fun e w' => e = .returned (.int .i64 4) ∧ DiskOf w' d F N M 0 (burnt fuse) ∧ Gr F F w w' := by
  obtain ⟨hs0, hs24⟩ := name_size hs
  have hsm : s.size ≤ maxLen := by unfold maxLen; omega
  obtain ⟨bm, D, G, C, hI⟩ := h.is
  obtain ⟨va, vc, hlk⟩ := hI.look_len s hsm n HN
  have c0 := hI.c0
  have HS : Hid (nameB s.data.toList = true) := hs
  have h1 : decide ((n : Int) < 0) = false := by simp
  have h3 : decide (n < n) = false := by simp
  clear hI hs
  go_enter Try.func14, Try.ntmps14
  go_wp2_with fail
  refine (isMade_any _ d F N M 0 fuse h).mono ?_
  rintro e w1 ⟨rfl, rfl⟩
  go_wp2_with fail
  refine (canName_any _ s hsm).mono ?_
  rw [HS.out]
  rintro e w1 ⟨rfl, rfl⟩
  go_wp2_with fail
  refine (burn_yes _ d F N M 0 fuse h h0 hf hf2).mono ?_
  rintro e w1 ⟨rfl, hD1, hG1⟩
  clear hlk c0
  obtain ⟨bm0, D0, G0, C0, hI0⟩ := hD1.is
  have c1 := hI0.c1
  clear hI0
  go_wp2
  go_ret
  exact ⟨rfl, hD1, hG1⟩
end Go.Proofs.Ytocfbokgbpaneaa
