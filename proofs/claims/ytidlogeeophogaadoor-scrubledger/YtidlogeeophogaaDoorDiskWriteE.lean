/- The disk's Write that is refused: its contracts. -/
import Derived.Test.YtidlogeeophogaaDoorDiskWrite
namespace Go.Proofs.YtidlogeeophogaaDoor
open Go.RowKit Go.Maps
set_option linter.unusedVariables false

/-- What a look-up tells has as many elements as the file. -/
theorem DiskIs.look_len {w : World} {d N : Nat} {F : Nat → Prop} {M : List UInt8 → List Ext} {free fuse : Int} {bm : Nat} {D : DataW Unit} {G C : List UInt8 → Nat} (hI : DiskIs w d F N M free fuse bm D G C) (s : ByteArray) (hsm : s.size ≤ maxLen) (n : Nat) (HN : Hid (n = (M s.data.toList).length)) :
    ∃ a c, (Instr.lookup 36 (.map (some bm)) (.string s) false).run Tryd.prog w = .ok (.slice a n c) w := by
  by_cases hne : M s.data.toList = []
  · refine ⟨none, 0, ?_⟩
    have : n = 0 := by rw [HN.out, hne]; rfl
    rw [this]
    exact hI.look_no s hsm hne
  · rw [HN.out]
    exact ⟨_, _, hI.look s hsm hne⟩

set_option maxHeartbeats 2000000 in
theorem write_arg (w : World) (d : Nat) (F : Nat → Prop) (N : Nat) (M : List UInt8 → List Ext) (free fuse : Int) (h : DiskOf w d F N M free fuse) (s : ByteArray) (hsm : s.size ≤ maxLen) (i : Int) (n : Nat) (HN : Hid (n = (M s.data.toList).length)) (a : Option Addr) (len cap : Nat)
    (hbad : nameB s.data.toList = false ∨ len ≠ 128 ∨ i < 0 ∨ (n : Int) < i) :
    Calls Tryd.prog 70 #[.pointer (some ⟨d, 0, none⟩), .string s, .int .i64 i, .slice a len cap] w fun e w' => e = .returned (.int .i64 1) ∧ w' = w := by
  obtain ⟨bm, D, G, C, hI⟩ := h.is
  obtain ⟨va, vc, hlk⟩ := hI.look_len s hsm n HN
  have c0 := hI.c0
  clear hI
  obtain ⟨nb, hnb⟩ : ∃ nb, nb = nameB s.data.toList := ⟨_, rfl⟩
  rw [← hnb] at hbad
  have HNB : Hid (nb = nameB s.data.toList) := hnb
  clear hnb
  cases nb with
  | false =>
    clear hbad
    go_enter Tryd.func70, Tryd.ntmps70
    go_wp2_with fail
    refine (isMade_any _ d F N M free fuse h).mono ?_
    rintro e w1 ⟨rfl, rfl⟩
    go_wp2_with fail
    refine (canName_any _ s hsm).mono ?_
    rw [← HNB.out]
    rintro e w1 ⟨rfl, rfl⟩
    go_wp2
    go_ret
    exact ⟨rfl, rfl⟩
  | true =>
    by_cases hl : len = 128
    · subst hl
      by_cases hi : i < 0
      · have hi' : decide (i < 0) = true := by simpa using hi
        clear hbad hi
        go_enter Tryd.func70, Tryd.ntmps70
        go_wp2_with fail
        refine (isMade_any _ d F N M free fuse h).mono ?_
        rintro e w1 ⟨rfl, rfl⟩
        go_wp2_with fail
        refine (canName_any _ s hsm).mono ?_
        rw [← HNB.out]
        rintro e w1 ⟨rfl, rfl⟩
        go_wp2
        go_ret
        exact ⟨rfl, rfl⟩
      · have hi' : decide (i < 0) = false := by simpa using hi
        have hni : (n : Int) < i := by rcases hbad with hx | hx | hx | hx <;> first | cases hx | exact absurd rfl hx | exact absurd hx hi | exact hx
        have hni' : decide ((n : Int) < i) = true := by simpa using hni
        clear hbad
        go_enter Tryd.func70, Tryd.ntmps70
        go_wp2_with fail
        refine (isMade_any _ d F N M free fuse h).mono ?_
        rintro e w1 ⟨rfl, rfl⟩
        go_wp2_with fail
        refine (canName_any _ s hsm).mono ?_
        rw [← HNB.out]
        rintro e w1 ⟨rfl, rfl⟩
        go_wp2
        go_ret
        exact ⟨rfl, rfl⟩
    · have hl' : (((len : Nat) : Int) != 128) = true := bne_iff_ne.2 (by omega)
      clear hbad
      go_enter Tryd.func70, Tryd.ntmps70
      go_wp2_with fail
      refine (isMade_any _ d F N M free fuse h).mono ?_
      rintro e w1 ⟨rfl, rfl⟩
      go_wp2_with fail
      refine (canName_any _ s hsm).mono ?_
      rw [← HNB.out]
      rintro e w1 ⟨rfl, rfl⟩
      go_wp2
      go_ret
      exact ⟨rfl, rfl⟩

set_option maxHeartbeats 2000000 in
theorem write_dead (w : World) (d : Nat) (F : Nat → Prop) (N : Nat) (M : List UInt8 → List Ext) (free : Int) (h : DiskOf w d F N M free 0) (s : ByteArray) (hs : nameB s.data.toList = true) (i n : Nat) (HN : Hid (n = (M s.data.toList).length)) (hi : i ≤ n) (a : Option Addr) (cap : Nat) :
    Calls Tryd.prog 70 #[.pointer (some ⟨d, 0, none⟩), .string s, .int .i64 i, .slice a 128 cap] w fun e w' => e = .returned (.int .i64 31) ∧ w' = w := by
  obtain ⟨hs0, hs24⟩ := name_size hs
  have hsm : s.size ≤ maxLen := by unfold maxLen; omega
  obtain ⟨bm, D, G, C, hI⟩ := h.is
  obtain ⟨va, vc, hlk⟩ := hI.look_len s hsm n HN
  have c0 := hI.c0
  have HS : Hid (nameB s.data.toList = true) := hs
  have h1 : decide ((i : Int) < 0) = false := by simp
  have h3 : decide (n < i) = false := by simp; omega
  clear hI hs hi
  go_enter Tryd.func70, Tryd.ntmps70
  go_wp2_with fail
  refine (isMade_any _ d F N M free 0 h).mono ?_
  rintro e w1 ⟨rfl, rfl⟩
  go_wp2_with fail
  refine (canName_any _ s hsm).mono ?_
  rw [HS.out]
  rintro e w1 ⟨rfl, rfl⟩
  go_wp2_with fail
  refine (burn_zero _ d F N M free h).mono ?_
  rintro e w1 ⟨rfl, rfl⟩
  go_wp2
  go_ret
  exact ⟨rfl, rfl⟩

set_option maxHeartbeats 2000000 in
theorem write_full (w : World) (d : Nat) (F : Nat → Prop) (N : Nat) (M : List UInt8 → List Ext) (fuse : Int) (h : DiskOf w d F N M 0 fuse) (s : ByteArray) (hs : nameB s.data.toList = true) (n : Nat) (HN : Hid (n = (M s.data.toList).length)) (a : Option Addr) (cap : Nat) (h0 : fuse ≠ 0) (hf : -1 ≤ fuse) (hf2 : fuse ≤ 9223372036854775807) :
    Calls Tryd.prog 70 #[.pointer (some ⟨d, 0, none⟩), .string s, .int .i64 n, .slice a 128 cap] w fun e w' => e = .returned (.int .i64 4) ∧ DiskOf w' d F N M 0 (burnt fuse) ∧ Gr F F w w' := by
  obtain ⟨hs0, hs24⟩ := name_size hs
  have hsm : s.size ≤ maxLen := by unfold maxLen; omega
  obtain ⟨bm, D, G, C, hI⟩ := h.is
  obtain ⟨va, vc, hlk⟩ := hI.look_len s hsm n HN
  have c0 := hI.c0
  have HS : Hid (nameB s.data.toList = true) := hs
  have h1 : decide ((n : Int) < 0) = false := by simp
  have h3 : decide (n < n) = false := by simp
  clear hI hs
  go_enter Tryd.func70, Tryd.ntmps70
  go_wp2_with fail
  refine (isMade_any _ d F N M 0 fuse h).mono ?_
  rintro e w1 ⟨rfl, rfl⟩
  go_wp2_with fail
  refine (canName_any _ s hsm).mono ?_
  rw [HS.out]
  rintro e w1 ⟨rfl, rfl⟩
  go_wp2_with fail
  refine (burn_yes _ d F N M 0 fuse h h0 hf hf2).mono ?_
  rintro e w1 ⟨rfl, hD1, hG1⟩
  clear hlk c0
  obtain ⟨bm0, D0, G0, C0, hI0⟩ := hD1.is
  have c1 := hI0.c1
  clear hI0
  go_wp2
  go_ret
  exact ⟨rfl, hD1, hG1⟩
end Go.Proofs.YtidlogeeophogaaDoor
