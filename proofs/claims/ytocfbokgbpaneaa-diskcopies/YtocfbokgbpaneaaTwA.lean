/- The disk as a plain state: removing, turning, the fuse, a crash, what is free. -/
import Derived.Test.YtocfbokgbpaneaaMi
import Derived.Test.YtocfbokgbpaneaaMj
import Derived.Test.YtocfbokgbpaneaaMg
import Derived.Test.YtocfbokgbpaneaaDiskCrashD
import Derived.Test.YtocfbokgbpaneaaMc
namespace Go.Proofs.Ytocfbokgbpaneaa
open Go.RowKit Go.Maps
set_option linter.unusedVariables false

def rmD (st : St) (nm : List UInt8) : St × Int :=
  if st.M nm = [] then (st, 30)
  else if st.fuse = 0 then (st, 31)
  else (⟨upd st.M nm [], st.free + ((st.M nm).length : Int), burnt st.fuse⟩, 0)

def rotD (st : St) (nm : List UInt8) (i at2 : Int) (mk : Nat) : St × Int :=
  if i < 0 then (st, 30)
  else match (st.M nm)[i.toNat]? with
    | none => (st, 30)
    | some x => if at2 < 0 ∨ 128 ≤ at2 then (st, 1) else (⟨upd st.M nm ((st.M nm).set i.toNat (x.rot at2.toNat mk)), st.free, st.fuse⟩, 0)

def fuD (st : St) (n : Int) : St × Int := if n < 0 then (st, 1) else (⟨st.M, st.free, n⟩, 0)

def crD (st : St) (ks : List Kp) : St × Int := (⟨fun s => fellL (kfOf ks s) (st.M s), st.free, -1⟩, 0)

set_option maxHeartbeats 1000000 in
theorem freeP_any (w : World) (d : Nat) (F : Nat → Prop) (N : Nat) (M : List UInt8 → List Ext) (free fuse : Int) (h : DiskOf w d F N M free fuse) :
    Calls Try.prog 30 #[.pointer (some ⟨d, 0, none⟩)] w fun e w' => e = .returned (.int .i64 free) ∧ w' = w := by
  obtain ⟨bm, D, G, C, hI⟩ := h.is
  have c1 := hI.c1
  clear hI
  go_enter Try.func30, Try.ntmps30
  go_wp2_with fail
  refine (isMade_any _ d F N M free fuse h).mono ?_
  rintro e w1 ⟨rfl, rfl⟩
  go_wp2
  go_ret
  exact ⟨rfl, rfl⟩

set_option maxHeartbeats 1000000 in
theorem remove_dead (w : World) (d : Nat) (F : Nat → Prop) (N : Nat) (M : List UInt8 → List Ext) (free : Int) (h : DiskOf w d F N M free 0) (s : ByteArray) (hs : s.size ≤ maxLen) (hne : M s.data.toList ≠ []) :
    Calls Try.prog 19 #[.pointer (some ⟨d, 0, none⟩), .string s] w fun e w' => e = .returned (.int .i64 31) ∧ w' = w := by
  obtain ⟨bm, D, G, C, hI⟩ := h.is
  have hlk := hI.look2 s hs hne
  have c0 := hI.c0
  clear hI hne
  go_enter Try.func19, Try.ntmps19
  go_wp2_with fail
  refine (isMade_any _ d F N M free 0 h).mono ?_
  rintro e w1 ⟨rfl, rfl⟩
  go_wp2_with fail
  refine (burn_zero _ d F N M free h).mono ?_
  rintro e w1 ⟨rfl, rfl⟩
  go_wp2
  go_ret
  exact ⟨rfl, rfl⟩

set_option maxHeartbeats 2000000 in
set_option maxRecDepth 100000 in
theorem remove_burn (w : World) (d : Nat) (F : Nat → Prop) (N : Nat) (M : List UInt8 → List Ext) (free fuse : Int) (h : DiskOf w d F N M free fuse) (h0 : fuse ≠ 0) (h1 : -1 ≤ fuse) (h2 : fuse ≤ 9223372036854775807) (s : ByteArray) (hs : s.size ≤ maxLen) (n : Nat) (HN : Hid (n = (M s.data.toList).length)) (hne : M s.data.toList ≠ []) (hf0 : 0 ≤ free) (hf1 : free ≤ 1000000) (hn : n ≤ 1000000) :
    Calls Try.prog 19 #[.pointer (some ⟨d, 0, none⟩), .string s] w fun e w' => e = .returned (.int .i64 0) ∧ DiskOf w' d F N (upd M s.data.toList []) (free + n) (burnt fuse) ∧ Gr F F w w' := by
  obtain ⟨bm, D, G, C, hI⟩ := h.is
  have hlk := hI.look2 s hs hne
  rw [← HN.out] at hlk
  have c0 := hI.c0
  clear hne
  generalize G s.data.toList = gs at hlk
  generalize C s.data.toList = gc at hlk
  have hwr : IntKind.i64.wrap (free + (n : Int)) = free + (n : Int) := by rw [IntKind.wrap_i64]; omega
  go_enter Try.func19, Try.ntmps19
  go_wp2_with fail
  refine (isMade_any _ d F N M free fuse h).mono ?_
  rintro e w1 ⟨rfl, rfl⟩
  go_wp2_with fail
  refine (burn_is hI h0 h1 h2).mono ?_
  rintro e w2 ⟨rfl, hI2, hG2⟩
  obtain ⟨fu, hfu⟩ : ∃ fu, fu = burnt fuse := ⟨_, rfl⟩
  rw [← hfu] at hI2
  have HFU := hidn hfu
  clear hfu
  have hI3 := hI2.freedI (free + (n : Int))
  have c0' := hI2.c0
  have c1' := hI2.c1
  have f1' := frozen_of_row _ _ 1 _ _ hI2.1
  have c0'' := hI3.c0
  have hG3 : Gr F F w1 (w2.setCell ⟨d, 1, none⟩ (.int .i64 (free + (n : Int)))) := hG2.trans (Gr.of ((Keeps.refl _ _).setCell hI2.2.1.1 _))
  obtain ⟨w4, hdel, hD4, hG4⟩ := hI3.struck s hs 0
  have HD4 := hidn hD4
  have HG4 := hidn (hG3.trans hG4)
  clear hI hI2 hI3 hG2 hG3 hD4 hG4 hlk c0 h
  go_wp2_with fail
  go_ret
  rw [← HFU.out]
  exact ⟨rfl, HD4.out, HG4.out⟩

theorem remove_st (w : World) (d : Nat) (F : Nat → Prop) (N : Nat) (st : St) (h : DiskS w d F N st) (s : ByteArray) (hsm : s.size ≤ maxLen) (hf : -1 ≤ st.fuse) (hf2 : st.fuse ≤ 9223372036854775807) (hfr0 : 0 ≤ st.free) (hfr : st.free ≤ 1000000) (hn : (st.M s.data.toList).length ≤ 1000000) :
    Calls Try.prog 19 #[.pointer (some ⟨d, 0, none⟩), .string s] w (WrPost w d F N (rmD st s.data.toList)) := by
  by_cases h1 : st.M s.data.toList = []
  · refine (removeR_none w d F N st.M st.free st.fuse h s hsm h1).mono ?_
    rintro e w' ⟨rfl, rfl⟩
    have e1 : rmD st s.data.toList = (st, 30) := by unfold rmD; rw [if_pos h1]
    rw [e1]
    exact ⟨rfl, F, h, Gr.refl _ _⟩
  · obtain ⟨M, free, fuse⟩ := st
    by_cases h2 : fuse = 0
    · subst h2
      refine (remove_dead w d F N M free h s hsm h1).mono ?_
      rintro e w' ⟨rfl, rfl⟩
      have e1 : rmD ⟨M, free, 0⟩ s.data.toList = (⟨M, free, 0⟩, 31) := by unfold rmD; rw [if_neg h1, if_pos rfl]
      rw [e1]
      exact ⟨rfl, F, h, Gr.refl _ _⟩
    · refine (remove_burn w d F N M free fuse h h2 hf hf2 s hsm _ (hidn rfl) h1 hfr0 hfr hn).mono ?_
      rintro e w' ⟨rfl, hD, hG⟩
      have e1 : rmD ⟨M, free, fuse⟩ s.data.toList = (⟨upd M s.data.toList [], free + ((M s.data.toList).length : Int), burnt fuse⟩, 0) := by unfold rmD; rw [if_neg h1, if_neg h2]
      rw [e1]
      exact ⟨rfl, F, hD, hG⟩

set_option maxHeartbeats 1000000 in
theorem rot_none (w : World) (d : Nat) (F : Nat → Prop) (N : Nat) (M : List UInt8 → List Ext) (free fuse : Int) (h : DiskOf w d F N M free fuse) (s : ByteArray) (hs : s.size ≤ maxLen) (i : Int) (n : Nat) (HN : Hid (n = (M s.data.toList).length)) (hi : i < 0 ∨ (n : Int) ≤ i) (u v : Value) :
    Calls Try.prog 21 #[.pointer (some ⟨d, 0, none⟩), .string s, .int .i64 i, u, v] w fun e w' => e = .returned (.int .i64 30) ∧ w' = w := by
  obtain ⟨bm, D, G, C, hI⟩ := h.is
  have hpn := fun (wx : World) (p : Option Addr) => run_eql_pointer_nil (P := Try.prog) wx 81 p (by kernel_rfl)
  go_enter Try.func21, Try.ntmps21
  go_wp2_with fail
  refine (isMade_any _ d F N M free fuse h).mono ?_
  rintro e w1 ⟨rfl, rfl⟩
  go_wp2_with fail
  refine (at_none _ d F N M free fuse bm D G C hI s hs i n HN hi).mono ?_
  rintro e w2 ⟨rfl, rfl⟩
  go_wp2
  go_ret
  exact ⟨rfl, rfl⟩

set_option maxHeartbeats 1000000 in
theorem rot_arg (w : World) (d : Nat) (F : Nat → Prop) (N : Nat) (M : List UInt8 → List Ext) (free fuse : Int) (h : DiskOf w d F N M free fuse) (s : ByteArray) (hs : s.size ≤ maxLen) (i n o : Nat) (HN : Hid (n = (M s.data.toList).length)) (hi : i < n) (ho : i * 385 = o) (at2 : Int) (ha : at2 < 0 ∨ 128 ≤ at2) (v : Value) :
    Calls Try.prog 21 #[.pointer (some ⟨d, 0, none⟩), .string s, .int .i64 (i : Int), .int .i64 at2, v] w fun e w' => e = .returned (.int .i64 1) ∧ w' = w := by
  obtain ⟨bm, D, G, C, hI⟩ := h.is
  have hpn := fun (wx : World) (p : Option Addr) => run_eql_pointer_nil (P := Try.prog) wx 81 p (by kernel_rfl)
  have HAT := hidn (at_some w d F N M free fuse bm D G C hI s hs i n o HN hi ho)
  generalize G s.data.toList = g at *
  clear ho hI
  go_enter Try.func21, Try.ntmps21
  go_wp2_with fail
  refine (isMade_any _ d F N M free fuse h).mono ?_
  rintro e w1 ⟨rfl, rfl⟩
  go_wp2_with fail
  refine HAT.out.mono ?_
  rintro e w2 ⟨rfl, rfl⟩
  by_cases ha0 : at2 < 0
  · have h1 : decide (at2 < 0) = true := decide_eq_true ha0
    go_wp2
    go_ret
    exact ⟨rfl, rfl⟩
  · have h1 : decide (at2 < 0) = false := decide_eq_false ha0
    have ha1 : 128 ≤ at2 := by omega
    have h2 : decide (128 ≤ at2) = true := decide_eq_true ha1
    go_wp2
    go_ret
    exact ⟨rfl, rfl⟩

theorem rot_st (w : World) (d : Nat) (F : Nat → Prop) (N : Nat) (st : St) (h : DiskS w d F N st) (s : ByteArray) (hsm : s.size ≤ maxLen) (i at2 : Int) (mk : Nat) (hm : mk < 256) :
    Calls Try.prog 21 #[.pointer (some ⟨d, 0, none⟩), .string s, .int .i64 i, .int .i64 at2, .int .u8 (mk : Int)] w (WrPost w d F N (rotD st s.data.toList i at2 mk)) := by
  by_cases h1 : i < 0
  · refine (rot_none w d F N st.M st.free st.fuse h s hsm i _ (hidn rfl) (.inl h1) _ _).mono ?_
    rintro e w' ⟨rfl, rfl⟩
    have e1 : rotD st s.data.toList i at2 mk = (st, 30) := by unfold rotD; rw [if_pos h1]
    rw [e1]
    exact ⟨rfl, F, h, Gr.refl _ _⟩
  · obtain ⟨j, rfl⟩ : ∃ j : Nat, i = (j : Int) := ⟨i.toNat, by omega⟩
    cases hx : (st.M s.data.toList)[j]? with
    | none =>
      refine (rot_none w d F N st.M st.free st.fuse h s hsm j _ (hidn rfl) (.inr (by have := List.getElem?_eq_none_iff.1 hx; omega)) _ _).mono ?_
      rintro e w' ⟨rfl, rfl⟩
      have e1 : rotD st s.data.toList (j : Int) at2 mk = (st, 30) := by unfold rotD; rw [if_neg h1, Int.toNat_natCast, hx]
      rw [e1]
      exact ⟨rfl, F, h, Gr.refl _ _⟩
    | some x =>
      have hlt := (List.getElem?_eq_some_iff.1 hx).1
      by_cases h2 : at2 < 0 ∨ 128 ≤ at2
      · refine (rot_arg w d F N st.M st.free st.fuse h s hsm j _ (j * 385) (hidn rfl) hlt rfl at2 h2 _).mono ?_
        rintro e w' ⟨rfl, rfl⟩
        have e1 : rotD st s.data.toList (j : Int) at2 mk = (st, 1) := by unfold rotD; rw [if_neg h1, Int.toNat_natCast, hx]; simp only []; rw [if_pos h2]
        rw [e1]
        exact ⟨rfl, F, h, Gr.refl _ _⟩
      · obtain ⟨k, rfl⟩ : ∃ k : Nat, at2 = (k : Int) := ⟨at2.toNat, by omega⟩
        refine (rot_some w d F N st.M st.free st.fuse h s hsm j _ (j * 385) (hidn rfl) hlt rfl k mk (by omega) hm x (hidn hx)).mono ?_
        rintro e w' ⟨rfl, hD, hG⟩
        have e1 : rotD st s.data.toList (j : Int) (k : Int) mk = (⟨upd st.M s.data.toList ((st.M s.data.toList).set j (x.rot k mk)), st.free, st.fuse⟩, 0) := by unfold rotD; rw [if_neg h1, Int.toNat_natCast, hx]; simp only []; rw [if_neg h2, Int.toNat_natCast]
        rw [e1]
        exact ⟨rfl, F, hD, hG⟩

set_option maxHeartbeats 1000000 in
theorem fuse_st (w : World) (d : Nat) (F : Nat → Prop) (N : Nat) (st : St) (h : DiskS w d F N st) (n : Int) :
    Calls Try.prog 25 #[.pointer (some ⟨d, 0, none⟩), .int .i64 n] w (WrPost w d F N (fuD st n)) := by
  obtain ⟨M, free, fuse⟩ := st
  have h' : DiskOf w d F N M free fuse := h
  clear h
  by_cases hn : n < 0
  · have e1 : fuD ⟨M, free, fuse⟩ n = (⟨M, free, fuse⟩, 1) := by unfold fuD; rw [if_pos hn]
    rw [e1]
    have h1 : decide (n < 0) = true := decide_eq_true hn
    have H := hidn h'
    go_enter Try.func25, Try.ntmps25
    go_wp2_with fail
    refine (isMade_any _ d F N M free fuse h').mono ?_
    rintro e w1 ⟨rfl, rfl⟩
    go_wp2
    go_ret
    exact ⟨rfl, F, H.out, Gr.refl _ _⟩
  · have e1 : fuD ⟨M, free, fuse⟩ n = (⟨M, free, n⟩, 0) := by unfold fuD; rw [if_neg hn]
    rw [e1]
    obtain ⟨bm, D, G, C, hI⟩ := h'.is
    obtain ⟨c0, c2, f2⟩ := diskFuse hI
    have hFd := hI.2.1.1
    have HR := hidn (hI.fused n).of
    have h1 : decide (n < 0) = false := decide_eq_false hn
    clear hI
    go_enter Try.func25, Try.ntmps25
    go_wp2_with fail
    refine (isMade_any _ d F N M free fuse h').mono ?_
    rintro e w1 ⟨rfl, rfl⟩
    go_wp2
    go_ret
    exact ⟨rfl, F, HR.out, Gr.of ((Keeps.refl _ _).setCell hFd _)⟩

theorem crash_st (w : World) (d : Nat) (F : Nat → Prop) (N : Nat) (st : St) (h : DiskS w d F N st) (hF : ∀ k, F k → k < w.heap.size) (la : Option Addr) (ll lc : Nat) (ks : List Kp) (hk : Kps w la ll ks) :
    Calls Try.prog 23 #[.pointer (some ⟨d, 0, none⟩), .slice la ll lc] w (WrPost w d F N (crD st ks)) := by
  refine (crash_disk w d F N st.M st.free st.fuse h hF la ll lc (kfOf ks) (firstKept_any w la ll lc ks hk)).mono ?_
  rintro e w' ⟨rfl, hD, hG⟩
  exact ⟨rfl, F, hD, hG⟩
end Go.Proofs.Ytocfbokgbpaneaa
