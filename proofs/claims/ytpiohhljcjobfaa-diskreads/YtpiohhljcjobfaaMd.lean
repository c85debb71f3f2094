/- The disk's Write of a new extent: its contract. -/
import Derived.Test.YtpiohhljcjobfaaDiskWrite
import Derived.Test.YtpiohhljcjobfaaMc
namespace Go.Proofs.Ytpiohhljcjobfaa
open Go.RowKit Go.Maps
set_option linter.unusedVariables false

set_option maxHeartbeats 2000000 in
theorem write_new (w : World) (d : Nat) (F : Nat → Prop) (N : Nat) (M : List UInt8 → List Ext) (free fuse : Int) (h : DiskOf w d F N M free fuse) (s : ByteArray) (hs : nameB s.data.toList = true) (n o : Nat) (HN : Hid (n = (M s.data.toList).length)) (ho : n * 385 = o)
    (b off cap : Nat) (zs : List Nat) (hb : BsF F w (some ⟨b, off, none⟩) 128 zs) (h0 : fuse ≠ 0) (hf : -1 ≤ fuse) (hf2 : fuse ≤ 9223372036854775807) (hn : n ≤ 1000000) (hNm : N < maxLen) (hfr : 1 ≤ free) (hfr2 : free ≤ 1000000) :
    Calls Try.prog 24 #[.pointer (some ⟨d, 0, none⟩), .string s, .int .i64 n, .slice (some ⟨b, off, none⟩) 128 cap] w fun e w' => e = .returned (.int .i64 0) ∧ ∃ F', DiskOf w' d F' (N + 1) (upd M s.data.toList (M s.data.toList ++ [zeroE.wrote zs])) (free - 1) (burnt fuse) ∧ Gr F F' w w' := by
  obtain ⟨hs0, hs24⟩ := name_size hs
  have hsm : s.size ≤ maxLen := by unfold maxLen; omega
  obtain ⟨bm, D, G, C, hI⟩ := h.is
  obtain ⟨V, V1, V2, V3, V4, hlk⟩ : ∃ V a c, V = Value.slice a n c ∧ True ∧ (Instr.lookup 52 (.map (some bm)) (.string s) false).run Try.prog w = .ok V w := by
    by_cases hne : M s.data.toList = []
    · refine ⟨_, none, 0, ?_, trivial, hI.look_no s hsm hne⟩
      rw [HN.out, hne]; rfl
    · exact ⟨_, _, _, by rw [HN.out], trivial, hI.look s hsm hne⟩
  subst V3
  have c0 := hI.c0
  have HO : Hid (n * 385 = o) := ho
  have HS : Hid (nameB s.data.toList = true) := hs
  have h1 : decide ((n : Int) < 0) = false := by simp
  have h3 : decide (n < n) = false := by simp
  have hfe : (free == 0) = false := beq_eq_false_iff_ne.2 (by omega)
  have hzl : zs.length = 128 := hb.1.1
  have hzb : ∀ y ∈ zs, y < 256 := hb.1.2.2.1
  have HSL : Hid ((Try.prog.info? 74).map (·.size) = some (vb zs).length) := hidn (by rw [(zero_of_info Try.infoImage).2, length_vb, hzl])
  have HSZ : Hid ((Try.prog.info? 74).map (·.size) = some (vb zs).toArray.size) := hidn (by rw [(zero_of_info Try.infoImage).2]; simp [length_vb, hzl])
  have HZL : Hid (zs.length = 128) := hzl
  have hAA : ∀ (wx : World), (Instr.arrayAt 74 (.slice (some ⟨b, off, none⟩) 128 cap)).run Try.prog wx = .ok (.pointer (some ⟨b, off, none⟩)) wx := fun wx => run_arrayAt wx _ _ 128 _ 128 cap Try.underlying74 (Nat.le_refl _)
  clear ho hs hI hzl V4
  go_enter Try.func24, Try.ntmps24
  go_wp2_with fail
  refine (isMade_any _ d F N M free fuse h).mono ?_
  rintro e w1 ⟨rfl, rfl⟩
  go_wp2_with fail
  refine (canName_any _ s hsm).mono ?_
  rw [HS.out]
  rintro e w1 ⟨rfl, rfl⟩
  go_wp2_with fail
  refine (burn_yes _ d F N M free fuse h h0 hf hf2).mono ?_
  rintro e w1 ⟨rfl, hD1, hG1⟩
  clear hlk c0
  obtain ⟨bm0, D0, G0, C0, hI0⟩ := hD1.is
  have c0 := hI0.c0
  have c1 := hI0.c1
  clear hI0
  go_wp2_with fail
  refine (grow_any _ d F N M free (burnt fuse) hD1 s hs0 (by omega) n HN hn hNm hfr hfr2).mono ?_
  rintro e w3 ⟨rfl, F3, hD3, hG3⟩
  clear c0 c1
  obtain ⟨M3, hM3⟩ : ∃ M3, M3 = upd M s.data.toList (M s.data.toList ++ [zeroE]) := ⟨_, rfl⟩
  rw [← hM3] at hD3
  have hMs : M3 s.data.toList = M s.data.toList ++ [zeroE] := by rw [hM3, upd_same]
  have hX : (M3 s.data.toList)[n]? = some zeroE := by rw [hMs, HN.out]; simp
  have hLn : (M3 s.data.toList).length = n + 1 := by rw [hMs, HN.out]; simp
  obtain ⟨bm1, D1, G1, C1, hI1⟩ := hD3.is
  have hlk := hI1.look s hsm (ne_of_at hX)
  rw [hLn] at hlk
  have c0 := hI1.c0
  have hIX := ext_index (G1 s.data.toList) (n + 1) (C1 s.data.toList) n o (Nat.lt_succ_self _) HO.out
  have HR := hidn (bs_range ((hb.gr hG1).gr hG3).1)
  obtain ⟨hI2, hG4⟩ := hI1.put s.data.toList n zeroE hX o HO.out 256 (vb zs) { zeroE with wri := zs } ⟨zeroE_ok.1, zeroE_ok.2.1, HZL.out, hzb⟩ (by rw [length_vb, HZL.out]; omega) (cells_wri zeroE_ok zs HZL.out)
  have HTH := hidn (hI1.thereAt s.data.toList n zeroE hX o HO.out 256 128 (by omega))
  have hx2 : (upd M3 s.data.toList ((M3 s.data.toList).set n { zeroE with wri := zs }) s.data.toList)[n]? = some { zeroE with wri := zs } := by
    rw [upd_same, List.getElem?_set_self (by rw [hLn]; omega)]
  obtain ⟨p1, p2, p3, p4, p5, p6⟩ := hI2.parts _ n _ hx2 o HO.out
  obtain ⟨hI3, hG5⟩ := hI2.put s.data.toList n _ hx2 o HO.out 384 [.bool true] (zeroE.wrote zs) (Ext.wrote_ok zeroE_ok HZL.out hzb) (by simp) (cells_waits p6 true)
  rw [upd_upd, upd_same, List.set_set, hMs, HN.out, List.set_append_right _ _ (Nat.le_refl _), Nat.sub_self, List.set_cons_zero, hM3, upd_upd] at hI3
  have HI3 := hidn hI3.of
  have HG := hidn (((hG1.trans hG3).trans hG4).trans hG5)
  clear hI3 hI2 hI1 hG1 hG3 hG4 hG5 p1 p2 p3 p6 hx2 hD1 hD3 hX hLn hMs hM3
  generalize G1 s.data.toList = g at *
  generalize C1 s.data.toList = c at *
  obtain ⟨w2, hw2⟩ : ∃ w2, w2 = w3.setCells g (o + 256) (vb zs) := ⟨_, rfl⟩
  rw [← hw2] at p4 p5 HI3 HG
  have HW2 := hidn hw2
  clear hw2
  have HTH' : Hid (w3.there g (o + 256) (vb zs).toArray.size) := hidn (by have := HTH.out; simpa [length_vb, HZL.out] using this)
  clear HTH
  go_wp2_with (first
      | (with_reducible refine wpList_index (by rfl) 81 (.tmp 57) (.tmp 58) (by rfl) (.slice (some ⟨g, 0, none⟩) (n + 1) c) (.int .i64 (n : Int)) (.pointer (some ⟨g, o, none⟩)) (by kernel_rfl) (by kernel_rfl) (hIX w3) ?_)
      | (with_reducible refine wpList_load_mid (by rfl) 74 (.tmp 63) (by rfl) b off (by kernel_rfl) (vb zs) _ HR.out Try.underlying74 (by rfl) HSL.out ?_)
      | (with_reducible refine wpList_store_mid (by rfl) 74 (.tmp 66) (.tmp 64) (by rfl) g (o + 256) (vb zs).toArray (by kernel_rfl) (by kernel_rfl) HTH'.out HSZ.out image_all ?_; rw [List.toList_toArray, ← HW2.out]))
  go_ret
  exact ⟨rfl, _, HI3.out, HG.out⟩
end Go.Proofs.Ytpiohhljcjobfaa

namespace Go.Proofs.Ytpiohhljcjobfaa
open Go.RowKit Go.Maps
set_option linter.unusedVariables false

/-- What a look-up tells has as many elements as the file. -/
theorem DiskIs.look_len {w : World} {d N : Nat} {F : Nat → Prop} {M : List UInt8 → List Ext} {free fuse : Int} {bm : Nat} {D : DataW Unit} {G C : List UInt8 → Nat} (hI : DiskIs w d F N M free fuse bm D G C) (s : ByteArray) (hsm : s.size ≤ maxLen) (n : Nat) (HN : Hid (n = (M s.data.toList).length)) :
    ∃ a c, (Instr.lookup 52 (.map (some bm)) (.string s) false).run Try.prog w = .ok (.slice a n c) w := by
  by_cases hne : M s.data.toList = []
  · refine ⟨none, 0, ?_⟩
    have : n = 0 := by rw [HN.out, hne]; rfl
    rw [this]
    exact hI.look_no s hsm hne
  · rw [HN.out]
    exact ⟨_, _, hI.look s hsm hne⟩

set_option maxHeartbeats 2000000 in
theorem write_arg (w : World) (d : Nat) (F : Nat → Prop) (N : Nat) (M : List UInt8 → List Ext) (free fuse : Int) (h : DiskOf w d F N M free fuse) (s : ByteArray) (hsm : s.size ≤ maxLen) (i : Int) (n : Nat) (HN : Hid (n = (M s.data.toList).length)) (a : Option Addr) (len cap : Nat)
    (hbad : nameB s.data.toList = false ∨ len ≠ 128 ∨ i < 0 ∨ (n : Int) < i) :
    Calls Try.prog 24 #[.pointer (some ⟨d, 0, none⟩), .string s, .int .i64 i, .slice a len cap] w fun e w' => e = .returned (.int .i64 1) ∧ w' = w := by
  obtain ⟨bm, D, G, C, hI⟩ := h.is
  obtain ⟨va, vc, hlk⟩ := hI.look_len s hsm n HN
  have c0 := hI.c0
  clear hI
  obtain ⟨nb, hnb⟩ : ∃ nb, nb = nameB s.data.toList := ⟨_, rfl⟩
  rw [← hnb] at hbad
  have HNB : Hid (nb = nameB s.data.toList) := hnb
  clear hnb
  cases nb with
  | false =>
    clear hbad
    go_enter Try.func24, Try.ntmps24
    go_wp2_with fail
    refine (isMade_any _ d F N M free fuse h).mono ?_
    rintro e w1 ⟨rfl, rfl⟩
    go_wp2_with fail
    refine (canName_any _ s hsm).mono ?_
    rw [← HNB.out]
    rintro e w1 ⟨rfl, rfl⟩
    go_wp2
    go_ret
    exact ⟨rfl, rfl⟩
  | true =>
    by_cases hl : len = 128
    · subst hl
      by_cases hi : i < 0
      · have hi' : decide (i < 0) = true := by simpa using hi
        clear hbad hi
        go_enter Try.func24, Try.ntmps24
        go_wp2_with fail
        refine (isMade_any _ d F N M free fuse h).mono ?_
        rintro e w1 ⟨rfl, rfl⟩
        go_wp2_with fail
        refine (canName_any _ s hsm).mono ?_
        rw [← HNB.out]
        rintro e w1 ⟨rfl, rfl⟩
        go_wp2
        go_ret
        exact ⟨rfl, rfl⟩
      · have hi' : decide (i < 0) = false := by simpa using hi
        have hni : (n : Int) < i := by rcases hbad with hx | hx | hx | hx <;> first | cases hx | exact absurd rfl hx | exact absurd hx hi | exact hx
        have hni' : decide ((n : Int) < i) = true := by simpa using hni
        clear hbad
        go_enter Try.func24, Try.ntmps24
        go_wp2_with fail
        refine (isMade_any _ d F N M free fuse h).mono ?_
        rintro e w1 ⟨rfl, rfl⟩
        go_wp2_with fail
        refine (canName_any _ s hsm).mono ?_
        rw [← HNB.out]
        rintro e w1 ⟨rfl, rfl⟩
        go_wp2
        go_ret
        exact ⟨rfl, rfl⟩
    · have hl' : (((len : Nat) : Int) != 128) = true := bne_iff_ne.2 (by omega)
      clear hbad
      go_enter Try.func24, Try.ntmps24
      go_wp2_with fail
      refine (isMade_any _ d F N M free fuse h).mono ?_
      rintro e w1 ⟨rfl, rfl⟩
      go_wp2_with fail
      refine (canName_any _ s hsm).mono ?_
      rw [← HNB.out]
      rintro e w1 ⟨rfl, rfl⟩
      go_wp2
      go_ret
      exact ⟨rfl, rfl⟩

set_option maxHeartbeats 2000000 in
theorem write_dead (w : World) (d : Nat) (F : Nat → Prop) (N : Nat) (M : List UInt8 → List Ext) (free : Int) (h : DiskOf w d F N M free 0) (s : ByteArray) (hs : nameB s.data.toList = true) (i n : Nat) (HN : Hid (n = (M s.data.toList).length)) (hi : i ≤ n) (a : Option Addr) (cap : Nat) :
    Calls Try.prog 24 #[.pointer (some ⟨d, 0, none⟩), .string s, .int .i64 i, .slice a 128 cap] w fun e w' => e = .returned (.int .i64 31) ∧ w' = w := by
  obtain ⟨hs0, hs24⟩ := name_size hs
  have hsm : s.size ≤ maxLen := by unfold maxLen; omega
  obtain ⟨bm, D, G, C, hI⟩ := h.is
  obtain ⟨va, vc, hlk⟩ := hI.look_len s hsm n HN
  have c0 := hI.c0
  have HS : Hid (nameB s.data.toList = true) := hs
  have h1 : decide ((i : Int) < 0) = false := by simp
  have h3 : decide (n < i) = false := by simp; omega
  clear hI hs hi
  go_enter Try.func24, Try.ntmps24
  go_wp2_with fail
  refine (isMade_any _ d F N M free 0 h).mono ?_
  rintro e w1 ⟨rfl, rfl⟩
  go_wp2_with fail
  refine (canName_any _ s hsm).mono ?_
  rw [HS.out]
  rintro e w1 ⟨rfl, rfl⟩
  go_wp2_with fail
  refine (burn_zero _ d F N M free h).mono ?_
  rintro e w1 ⟨rfl, rfl⟩
  go_wp2
  go_ret
  exact ⟨rfl, rfl⟩

set_option maxHeartbeats 2000000 in
theorem write_full (w : World) (d : Nat) (F : Nat → Prop) (N : Nat) (M : List UInt8 → List Ext) (fuse : Int) (h : DiskOf w d F N M 0 fuse) (s : ByteArray) (hs : nameB s.data.toList = true) (n : Nat) (HN : Hid (n = (M s.data.toList).length)) (a : Option Addr) (cap : Nat) (h0 : fuse ≠ 0) (hf : -1 ≤ fuse) (hf2 : fuse ≤ 9223372036854775807) :
    Calls Try.prog 24 #[.pointer (some ⟨d, 0, none⟩), .string s, .int .i64 n, .slice a 128 cap] w fun e w' => e = .returned (.int .i64 4) ∧ DiskOf w' d F N M 0 (burnt fuse) ∧ Gr F F w w' := by
  obtain ⟨hs0, hs24⟩ := name_size hs
  have hsm : s.size ≤ maxLen := by unfold maxLen; omega
  obtain ⟨bm, D, G, C, hI⟩ := h.is
  obtain ⟨va, vc, hlk⟩ := hI.look_len s hsm n HN
  have c0 := hI.c0
  have HS : Hid (nameB s.data.toList = true) := hs
  have h1 : decide ((n : Int) < 0) = false := by simp
  have h3 : decide (n < n) = false := by simp
  clear hI hs
  go_enter Try.func24, Try.ntmps24
  go_wp2_with fail
  refine (isMade_any _ d F N M 0 fuse h).mono ?_
  rintro e w1 ⟨rfl, rfl⟩
  go_wp2_with fail
  refine (canName_any _ s hsm).mono ?_
  rw [HS.out]
  rintro e w1 ⟨rfl, rfl⟩
  go_wp2_with fail
  refine (burn_yes _ d F N M 0 fuse h h0 hf hf2).mono ?_
  rintro e w1 ⟨rfl, hD1, hG1⟩
  clear hlk c0
  obtain ⟨bm0, D0, G0, C0, hI0⟩ := hD1.is
  have c1 := hI0.c1
  clear hI0
  go_wp2
  go_ret
  exact ⟨rfl, hD1, hG1⟩
end Go.Proofs.Ytpiohhljcjobfaa

namespace Go.Proofs.Ytpiohhljcjobfaa
open Go.RowKit Go.Maps
set_option linter.unusedVariables false

/-- What a disk holds, what is free, the fuse. -/
structure St where
  M : List UInt8 → List Ext
  free : Int
  fuse : Int

def wrD (st : St) (nm : List UInt8) (i : Nat) (z : List Nat) : St × Int :=
  if (st.M nm).length < i then (st, 1)
  else if st.fuse = 0 then (st, 31)
  else match (st.M nm)[i]? with
    | some x => (⟨upd st.M nm ((st.M nm).set i (x.wrote z)), st.free, burnt st.fuse⟩, 0)
    | none => if st.free = 0 then (⟨st.M, st.free, burnt st.fuse⟩, 4) else (⟨upd st.M nm (st.M nm ++ [zeroE.wrote z]), st.free - 1, burnt st.fuse⟩, 0)

def syD (st : St) (nm : List UInt8) : St × Int :=
  if st.M nm = [] then (st, 30)
  else if st.fuse = 0 then (st, 31)
  else (⟨upd st.M nm ((st.M nm).map Ext.synced), st.free, burnt st.fuse⟩, 0)

def DiskS (w : World) (d : Nat) (F : Nat → Prop) (N : Nat) (st : St) : Prop := DiskOf w d F N st.M st.free st.fuse

theorem DiskS.below {w w' : World} {d N : Nat} {F : Nat → Prop} {st : St} (h : DiskS w d F N st) (hb : Below w.heap.size w w') : DiskS w' d F N st := DiskOf.below h hb
theorem DiskS.mono {w : World} {d N N' : Nat} {F : Nat → Prop} {st : St} (h : DiskS w d F N st) (hn : N ≤ N') : DiskS w d F N' st := DiskOf.mono h hn

def WrPost (w : World) (d : Nat) (F : Nat → Prop) (N : Nat) (r : St × Int) (e : Ending) (w' : World) : Prop :=
  e = .returned (.int .i64 r.2) ∧ ∃ F', DiskS w' d F' N r.1 ∧ Gr F F' w w'

theorem write_sto (w : World) (d : Nat) (F : Nat → Prop) (N : Nat) (st : St) (h : DiskS w d F N st) (s : ByteArray) (hs : nameB s.data.toList = true) (i n : Nat) (HN : Hid (n = (st.M s.data.toList).length)) (b boff cap : Nat) (zs : List Nat) (hb : BsF F w (some ⟨b, boff, none⟩) 128 zs) (hf : -1 ≤ st.fuse) (hf2 : st.fuse ≤ 9223372036854775807) (hn : n ≤ 1000000) (hNm : N < maxLen) (hfr0 : 0 ≤ st.free) (hfr : st.free ≤ 1000000) :
    Calls Try.prog 24 #[.pointer (some ⟨d, 0, none⟩), .string s, .int .i64 (i : Int), .slice (some ⟨b, boff, none⟩) 128 cap] w (WrPost w d F (N + 1) (wrD st s.data.toList i zs)) := by
  have hsm : s.size ≤ maxLen := by have := (name_size hs).2; unfold maxLen; omega
  by_cases h1 : n < i
  · refine (write_arg w d F N st.M st.free st.fuse h s hsm i n HN _ 128 cap (Or.inr (Or.inr (Or.inr (by omega))))).mono ?_
    rintro e w' ⟨rfl, rfl⟩
    have e1 : wrD st s.data.toList i zs = (st, 1) := by unfold wrD; rw [if_pos (by rw [← HN.out]; exact h1)]
    rw [e1]
    exact ⟨rfl, F, DiskOf.mono h (by omega), Gr.refl _ _⟩
  · obtain ⟨M, free, fuse⟩ := st
    simp only at HN hf hf2 hfr0 hfr
    by_cases h2 : fuse = 0
    · subst h2
      refine (write_dead w d F N M free h s hs i n HN (by omega) _ cap).mono ?_
      rintro e w' ⟨rfl, rfl⟩
      have e1 : wrD ⟨M, free, 0⟩ s.data.toList i zs = (⟨M, free, 0⟩, 31) := by unfold wrD; rw [if_neg (by show ¬ (M s.data.toList).length < i; rw [← HN.out]; exact h1), if_pos rfl]
      rw [e1]
      exact ⟨rfl, F, DiskOf.mono h (by omega), Gr.refl _ _⟩
    · by_cases h3 : i < n
      · obtain ⟨x, hx⟩ : ∃ x, (M s.data.toList)[i]? = some x := ⟨_, List.getElem?_eq_getElem (by rw [← HN.out]; exact h3)⟩
        refine (write_old w d F N M free fuse h s hs i n (i * 385) HN h3 rfl b boff cap zs hb h2 hf hf2 x (hidn hx)).mono ?_
        rintro e w' ⟨rfl, hD, hG⟩
        have e1 : wrD ⟨M, free, fuse⟩ s.data.toList i zs = (⟨upd M s.data.toList ((M s.data.toList).set i (x.wrote zs)), free, burnt fuse⟩, 0) := by
          unfold wrD
          rw [if_neg (by show ¬ (M s.data.toList).length < i; rw [← HN.out]; exact h1), if_neg h2]
          simp only [hx]
        rw [e1]
        exact ⟨rfl, F, DiskOf.mono hD (by omega), hG⟩
      · have hin : i = n := by omega
        subst hin
        have hx : (M s.data.toList)[i]? = none := List.getElem?_eq_none (by rw [← HN.out]; omega)
        by_cases h4 : free = 0
        · subst h4
          refine (write_full w d F N M fuse h s hs i HN _ cap h2 hf hf2).mono ?_
          rintro e w' ⟨rfl, hD, hG⟩
          have e1 : wrD ⟨M, 0, fuse⟩ s.data.toList i zs = (⟨M, 0, burnt fuse⟩, 4) := by
            unfold wrD
            rw [if_neg (by show ¬ (M s.data.toList).length < i; rw [← HN.out]; exact h1), if_neg h2]
            simp only [hx, if_true]
          rw [e1]
          exact ⟨rfl, F, DiskOf.mono hD (by omega), hG⟩
        · refine (write_new w d F N M free fuse h s hs i (i * 385) HN rfl b boff cap zs hb h2 hf hf2 hn hNm (by omega) hfr).mono ?_
          rintro e w' ⟨rfl, F', hD, hG⟩
          have e1 : wrD ⟨M, free, fuse⟩ s.data.toList i zs = (⟨upd M s.data.toList (M s.data.toList ++ [zeroE.wrote zs]), free - 1, burnt fuse⟩, 0) := by
            unfold wrD
            rw [if_neg (by show ¬ (M s.data.toList).length < i; rw [← HN.out]; exact h1), if_neg h2]
            simp only [hx]
            rw [if_neg h4]
          rw [e1]
          exact ⟨rfl, F', hD, hG⟩

theorem write_st (w : World) (d : Nat) (F : Nat → Prop) (N : Nat) (st : St) (h : DiskS w d F N st) (s : ByteArray) (hs : nameB s.data.toList = true) (i n : Nat) (HN : Hid (n = (st.M s.data.toList).length)) (b cap : Nat) (zs : List Nat) (hb : BsF F w (some ⟨b, 0, none⟩) 128 zs) (hf : -1 ≤ st.fuse) (hf2 : st.fuse ≤ 9223372036854775807) (hn : n ≤ 1000000) (hNm : N < maxLen) (hfr0 : 0 ≤ st.free) (hfr : st.free ≤ 1000000) :
    Calls Try.prog 24 #[.pointer (some ⟨d, 0, none⟩), .string s, .int .i64 (i : Int), .slice (some ⟨b, 0, none⟩) 128 cap] w (WrPost w d F (N + 1) (wrD st s.data.toList i zs)) :=
  write_sto w d F N st h s hs i n HN b 0 cap zs hb hf hf2 hn hNm hfr0 hfr

theorem sync_st (w : World) (d : Nat) (F : Nat → Prop) (N : Nat) (st : St) (h : DiskS w d F N st) (s : ByteArray) (hsm : s.size ≤ maxLen) (hf : -1 ≤ st.fuse) (hf2 : st.fuse ≤ 9223372036854775807) :
    Calls Try.prog 25 #[.pointer (some ⟨d, 0, none⟩), .string s] w (WrPost w d F N (syD st s.data.toList)) := by
  by_cases h1 : st.M s.data.toList = []
  · refine (sync_none w d F N st.M st.free st.fuse h s hsm h1).mono ?_
    rintro e w' ⟨rfl, rfl⟩
    have e1 : syD st s.data.toList = (st, 30) := by unfold syD; rw [if_pos h1]
    rw [e1]
    exact ⟨rfl, F, h, Gr.refl _ _⟩
  · obtain ⟨M, free, fuse⟩ := st
    by_cases h2 : fuse = 0
    · subst h2
      refine (sync_dead w d F N M free h s hsm h1).mono ?_
      rintro e w' ⟨rfl, rfl⟩
      have e1 : syD ⟨M, free, 0⟩ s.data.toList = (⟨M, free, 0⟩, 31) := by unfold syD; rw [if_neg h1, if_pos rfl]
      rw [e1]
      exact ⟨rfl, F, h, Gr.refl _ _⟩
    · refine (sync_disk w d F N M free fuse h s hsm h1 h2 hf hf2).mono ?_
      rintro e w' ⟨rfl, hD, hG⟩
      have e1 : syD ⟨M, free, fuse⟩ s.data.toList = (⟨upd M s.data.toList ((M s.data.toList).map Ext.synced), free, burnt fuse⟩, 0) := by unfold syD; rw [if_neg h1, if_neg h2]
      rw [e1]
      exact ⟨rfl, F, hD, hG⟩

/-- What stays within its bounds. -/
structure StOK (st : St) (k : Nat) : Prop where
  fuse : -1 ≤ st.fuse
  fuse2 : st.fuse ≤ 9223372036854775807
  free : 0 ≤ st.free
  free2 : st.free ≤ 1000000
  len : ∀ nm, (st.M nm).length ≤ k

theorem burnt_ok {f : Int} (h : -1 ≤ f) (h0 : f ≠ 0) (h2 : f ≤ 9223372036854775807) : -1 ≤ burnt f ∧ burnt f ≤ 9223372036854775807 := by
  unfold burnt
  split <;> omega

theorem upd_len {M : List UInt8 → List Ext} {k : Nat} (h : ∀ nm, (M nm).length ≤ k) (s : List UInt8) (l : List Ext) (hl : l.length ≤ k + 1) : ∀ nm, (upd M s l nm).length ≤ k + 1 := by
  intro nm
  unfold upd
  split
  · exact hl
  · have := h nm; omega

theorem StOK.mono {st : St} {k k' : Nat} (h : StOK st k) (hk : k ≤ k') : StOK st k' := ⟨h.fuse, h.fuse2, h.free, h.free2, fun nm => Nat.le_trans (h.len nm) hk⟩

theorem StOK.wr {st : St} {k : Nat} (h : StOK st k) (nm : List UInt8) (i : Nat) (z : List Nat) : StOK (wrD st nm i z).1 (k + 1) := by
  unfold wrD
  split
  · exact h.mono (by omega)
  · split
    · exact h.mono (by omega)
    · next h0 =>
      have hb := burnt_ok h.fuse h0 h.fuse2
      split
      · exact ⟨hb.1, hb.2, h.free, h.free2, upd_len h.len _ _ (by rw [List.length_set]; have := h.len nm; omega)⟩
      · split
        · exact ⟨hb.1, hb.2, h.free, h.free2, fun nm => by have := h.len nm; show (st.M nm).length ≤ k + 1; omega⟩
        · next hf => exact ⟨hb.1, hb.2, by have := h.free; show 0 ≤ st.free - 1; omega, by have := h.free2; show st.free - 1 ≤ 1000000; omega, upd_len h.len _ _ (by rw [List.length_append, List.length_singleton]; have := h.len nm; omega)⟩

theorem StOK.sy {st : St} {k : Nat} (h : StOK st k) (nm : List UInt8) : StOK (syD st nm).1 k := by
  unfold syD
  split
  · exact h
  · split
    · exact h
    · next h0 =>
      have hb := burnt_ok h.fuse h0 h.fuse2
      refine ⟨hb.1, hb.2, h.free, h.free2, fun t => ?_⟩
      show (upd st.M nm ((st.M nm).map Ext.synced) t).length ≤ k
      unfold upd
      split
      · rw [List.length_map]; exact h.len nm
      · exact h.len t

end Go.Proofs.Ytpiohhljcjobfaa
