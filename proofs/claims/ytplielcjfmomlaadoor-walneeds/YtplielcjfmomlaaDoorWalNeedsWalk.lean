/- WalNeeds: the law's walk. -/
import Derived.Test.YtplielcjfmomlaaDoorMh
import Derived.Test.YtplielcjfmomlaaDoorWaR
namespace Go.Proofs.YtplielcjfmomlaaDoor
open Go.RowKit Go.Maps
set_option linter.unusedVariables false

theorem Pow10.below {w w' : World} (h : Pow10 w) (hb : Below w.heap.size w w') : Pow10 w' := by
  have h' : w.var? Tryd.prog "internal/strconv.uint64pow10" = _ := h
  show w'.var? Tryd.prog "internal/strconv.uint64pow10" = _
  rw [← h']
  unfold World.var? at h' ⊢
  rw [gPow] at h' ⊢
  simp only [Option.bind_some] at h' ⊢
  cases hx : w.heap[0]? with
  | none => rw [hx] at h'; simp at h'
  | some o => rw [hb.block _ (Array.getElem?_eq_some_iff.1 hx).1, hx]

set_option maxRecDepth 100000 in
set_option maxHeartbeats 2000000 in
theorem append_nothing (w : World) (d : Nat) (F : Nat → Prop) (N : Nat) (M : List UInt8 → List Ext) (free fuse : Int) (h : DiskOf w d F N M free fuse) (hM0 : M [] = []) (seg at' g : Int) (hs0 : 0 ≤ seg) (hs1 : seg ≤ 4611686018427387904) (hg0 : 0 ≤ g) (hg1 : g ≤ 4611686018427387904) (a : Option Addr) (cap : Nat) :
    Calls Tryd.prog 9 #[.pointer (some ⟨d, 0, none⟩), .int .i64 seg, .int .i64 at', .int .i64 g, .slice a 0 cap] w fun e w' => e = .returned (.tuple #[.int .i64 0, .int .i64 1]) ∧ Below w.heap.size w w' := by
  have HND := fun wx => wneed_any wx 0
  have hn0 : needB 0 = 0 := rfl
  rw [hn0] at HND
  go_enter Tryd.func9, Tryd.ntmps9
  go_wp2_with fail
  refine (walMade _ d F N M free fuse h hM0).mono ?_
  rintro e w1 ⟨rfl, hb1⟩
  go_wp2_with fail
  refine (HND _).mono ?_
  rintro e w1' ⟨rfl, rfl⟩
  go_wp2_with fail
  refine (isNumber_yes _ _ hs0 hs1).mono ?_
  rintro e w1'' ⟨rfl, rfl⟩
  go_wp2_with fail
  refine (isNumber_yes _ _ hg0 hg1).mono ?_
  rintro e w1''' ⟨rfl, rfl⟩
  go_wp2
  go_ret2
  exact ⟨rfl, hb1⟩

set_option maxRecDepth 100000 in
set_option maxHeartbeats 4000000 in
theorem needs_rest (size seg : Int) (hsg : seg ≤ 9223372036854775807) (a : Option Addr) (n cap : Nat) (zs : List Nat) (hn : n ≤ 500) (w : World) (hB : Bs w a n zs) (hT : CrcTab w) (hP : Pow10 w) (a' : Option Addr) (l' c' : Nat) (hsl : (n = l' ∧ a = a' ∧ cap = c' ∧ l' ≤ 500) ∨ (500 < l' ∧ n = 500 ∧ a = a' ∧ cap = c' ∧ 500 ≤ c')) :
    Calls Tryd.prog 3 #[.int .i64 size, .int .i64 seg, .slice a' l' c'] w fun e w' => e = .returned (.bool true) ∧ Below w.heap.size w w' := by
  have HT := hidn hT
  have HP := hidn hP
  have HB := hidn hB
  have hAp : ∀ w1 : World, Below w.heap.size w w1 → ∀ d F, DiskOf w1 d F 0 (fun _ => []) 20 (-1) → Sound5 w1 F → (∀ k, F k → w.heap.size ≤ k) → Calls Tryd.prog 9 #[.pointer (some ⟨d, 0, none⟩), .int .i64 3, .int .i64 0, .int .i64 1, .slice a n cap] w1 fun e w' =>
      ∃ (E : Nat) (F2 : Nat → Prop) (M : List UInt8 → List Ext), e = .returned (.tuple #[.int .i64 (E : Int), .int .i64 (if n = 0 then 1 else 0)]) ∧ E ≤ 5 ∧ Hid (needB (n : Int) = E) ∧ Hid (∃ N, DiskOf w' d F2 N M (20 - E - E) (-1)) ∧ Below w.heap.size w w' := by
    intro w1 b1 d F hD hS hF
    by_cases h0 : n = 0
    · subst h0
      refine (append_nothing w1 d F 0 _ 20 (-1) hD rfl 3 0 1 (by omega) (by omega) (by omega) (by omega) a cap).mono ?_
      rintro e w2 ⟨rfl, hb2⟩
      exact ⟨0, F, fun _ => [], rfl, by omega, hidn rfl, hidn ⟨0, by simpa using hD.below hb2⟩, b1.trans (hb2.mono b1.size)⟩
    · have hBF : BsF F w1 a n zs := ⟨HB.out.below b1, fun y hy hn hF' => by
        have h9 := block_lt_of_cell (HB.out.2.2.2.2 _ hy 0 hn)
        have e : (y.add 0).block = y.block := by unfold Addr.add; split <;> rfl
        have := hF _ hF'
        omega⟩
      refine (append_end w1 d F 0 _ 20 hD hS 3 (by omega) 0 (logOK_new 3) 1 (by omega) a n cap zs hBF (by omega) (by omega) (by omega) (by omega) ((n + 3) / 106 + 1) (hidn rfl) (by omega) (by omega)).mono ?_
      rintro e w2 ⟨rfl, F2, hD2, hG2⟩
      refine ⟨(n + 3) / 106 + 1, F2, _, by simp [h0], by omega, hidn (needB_yes n (by omega) (by omega)), hidn ⟨_, hD2⟩, b1.trans (hG2.1.below b1.size hF)⟩
  have hnd1 := fun wx => wneed_any wx (n : Int)
  have hnd2 := fun wx => wneed_any wx size
  have hrd2 := fun wx => refNeed18 wx size
  obtain ⟨ns, hns⟩ : ∃ ns, ns = needB size := ⟨_, rfl⟩
  rw [← hns] at hnd2 hrd2
  have hsd : (segD seg).size ≤ 100 := by unfold segD; rw [ByteArray.size_append]; have := decA_size seg hsg; show 1 + _ ≤ 100; omega
  have hnm1 := fun (wx : World) (hx : Pow10 wx) => wname_any wx seg hsg hx
  have hnm2 := fun wx => refName_any wx seg hsg
  generalize segD seg = sd at *
  clear hns hT hP hB
  go_enter Tryd.func3, Tryd.ntmps3
  rcases hsl with ⟨rfl, rfl, rfl, h5⟩ | ⟨h5, rfl, rfl, rfl, h6⟩
  · have h5' : decide ((500 : Int) < (n : Int)) = false := by simp; omega
    have h5'' : decide (500 < n) = false := by simp; omega
    go_wp2_with fail
    refine (new_any _ 20 (by omega)).mono ?_
    rintro e w1 ⟨rfl, hD1, hb1, hs1⟩
    have hS1 : Sound5 w1 (fun k => w.heap.size ≤ k ∧ k < w.heap.size + 2) := ⟨HT.out.below hb1, fun hF => by have := HT.out.lt; omega, fun k hk => by omega⟩
    have HAp := hidn (hAp w1 hb1 _ _ hD1 hS1 (fun k hk => hk.1))
    clear hAp hD1 hS1 hs1 hb1
    go_wp2_with fail
    refine HAp.out.mono ?_
    clear HAp
    rintro e w2 ⟨E, F2, M, rfl, hE5, HEn, HD2, b2⟩
    obtain ⟨N2, hD2⟩ := HD2.out
    have HD := hidn hD2
    obtain ⟨fr, hfr⟩ : ∃ fr : Int, fr = 20 - (E : Int) - E := ⟨_, rfl⟩
    rw [← hfr] at HD
    obtain ⟨E2, hE2⟩ : ∃ E2 : Nat, E2 = 2 * E := ⟨_, rfl⟩
    have hw1 : IntKind.i64.wrap (20 - fr) = (E2 : Int) := by rw [IntKind.wrap_i64]; omega
    have hw1' : 20 - fr = (E2 : Int) := by omega
    have hw2 : IntKind.i64.wrap (2 * (E : Int)) = (E2 : Int) := by rw [IntKind.wrap_i64]; omega
    have hw2' : 2 * (E : Int) = (E2 : Int) := by omega
    have hE2b : E2 ≤ 10 := by omega
    have hne1 : ((E2 : Int) != (E2 : Int)) = false := by simp
    have hne2 : ((E : Int) != (E : Int)) = false := by simp
    rw [HEn.out] at hnd1
    clear hfr hE2 HD2 hD2
    by_cases h0 : n = 0
    · subst h0
      have hd0 : decide ((0 : Int) < ((0 : Nat) : Int)) = false := by simp
      simp only [if_true]
      go_wp2_with fail
      refine (hnd1 _).mono ?_
      rintro e w3 ⟨rfl, rfl⟩
      go_wp2_with fail
      refine (free_any _ _ F2 _ M _ _ HD.out).mono ?_
      rintro e w3' ⟨rfl, rfl⟩
      go_wp2_with fail
      refine (hnd2 _).mono ?_
      rintro e w4 ⟨rfl, rfl⟩
      go_wp2_with fail
      refine (hrd2 _).mono ?_
      rintro e w4' ⟨rfl, rfl⟩
      have hnn : ((ns : Int) == (ns : Int)) = true := by simp
      go_wp2_with fail
      refine (hnm1 _ (HP.out.below b2)).mono ?_
      rintro e w5 ⟨rfl, hb5⟩
      have b5 := b2.trans (hb5.mono b2.size)
      go_wp2_with fail
      refine (hnm2 _).mono ?_
      rintro e w5' ⟨rfl, rfl⟩
      go_wp2_with fail
      refine (awake18_any _ (HT.out.below b5)).mono ?_
      rintro e w6 ⟨rfl, hb6⟩
      have b6 := b5.trans (hb6.mono b5.size)
      go_wp2
      go_ret
      exact ⟨rfl, b6⟩
    · have hd1 : decide ((0 : Int) < (n : Int)) = true := by simp; omega
      have hd2 : decide (0 < n) = true := by simp; omega
      have hd3 : (0 : Int) < (n : Int) := by omega
      simp only [h0, if_false]
      clear h0
      go_wp2_with fail
      refine (hnd1 _).mono ?_
      rintro e w3 ⟨rfl, rfl⟩
      go_wp2_with fail
      refine (free_any _ _ F2 _ M _ _ HD.out).mono ?_
      rintro e w3' ⟨rfl, rfl⟩
      go_wp2_with fail
      refine (hnd2 _).mono ?_
      rintro e w4 ⟨rfl, rfl⟩
      go_wp2_with fail
      refine (hrd2 _).mono ?_
      rintro e w4' ⟨rfl, rfl⟩
      have hnn : ((ns : Int) == (ns : Int)) = true := by simp
      go_wp2_with fail
      refine (hnm1 _ (HP.out.below b2)).mono ?_
      rintro e w5 ⟨rfl, hb5⟩
      have b5 := b2.trans (hb5.mono b2.size)
      go_wp2_with fail
      refine (hnm2 _).mono ?_
      rintro e w5' ⟨rfl, rfl⟩
      go_wp2_with fail
      refine (awake18_any _ (HT.out.below b5)).mono ?_
      rintro e w6 ⟨rfl, hb6⟩
      have b6 := b5.trans (hb6.mono b5.size)
      go_wp2
      go_ret
      exact ⟨rfl, b6⟩
  · have h5' : decide ((500 : Int) < (l' : Int)) = true := by simp; omega
    have h5'' : decide (500 < l') = true := by simp; omega
    have h6' : (500 : Int) ≤ (cap : Int) := by omega
    go_wp2_with fail
    refine (new_any _ 20 (by omega)).mono ?_
    rintro e w1 ⟨rfl, hD1, hb1, hs1⟩
    have hS1 : Sound5 w1 (fun k => w.heap.size ≤ k ∧ k < w.heap.size + 2) := ⟨HT.out.below hb1, fun hF => by have := HT.out.lt; omega, fun k hk => by omega⟩
    have HAp := hidn (hAp w1 hb1 _ _ hD1 hS1 (fun k hk => hk.1))
    clear hAp hD1 hS1 hs1 hb1
    go_wp2_with fail
    refine HAp.out.mono ?_
    clear HAp
    rintro e w2 ⟨E, F2, M, rfl, hE5, HEn, HD2, b2⟩
    obtain ⟨N2, hD2⟩ := HD2.out
    have HD := hidn hD2
    obtain ⟨fr, hfr⟩ : ∃ fr : Int, fr = 20 - (E : Int) - E := ⟨_, rfl⟩
    rw [← hfr] at HD
    obtain ⟨E2, hE2⟩ : ∃ E2 : Nat, E2 = 2 * E := ⟨_, rfl⟩
    have hw1 : IntKind.i64.wrap (20 - fr) = (E2 : Int) := by rw [IntKind.wrap_i64]; omega
    have hw1' : 20 - fr = (E2 : Int) := by omega
    have hw2 : IntKind.i64.wrap (2 * (E : Int)) = (E2 : Int) := by rw [IntKind.wrap_i64]; omega
    have hw2' : 2 * (E : Int) = (E2 : Int) := by omega
    have hE2b : E2 ≤ 10 := by omega
    have hne1 : ((E2 : Int) != (E2 : Int)) = false := by simp
    have hne2 : ((E : Int) != (E : Int)) = false := by simp
    rw [HEn.out] at hnd1
    clear hfr hE2 HD2 hD2
    simp only [show ((500 : Nat) = 0) = False from by simp, if_false]
    go_wp2_with fail
    refine (hnd1 _).mono ?_
    rintro e w3 ⟨rfl, rfl⟩
    go_wp2_with fail
    refine (free_any _ _ F2 _ M _ _ HD.out).mono ?_
    rintro e w3' ⟨rfl, rfl⟩
    go_wp2_with fail
    refine (hnd2 _).mono ?_
    rintro e w4 ⟨rfl, rfl⟩
    go_wp2_with fail
    refine (hrd2 _).mono ?_
    rintro e w4' ⟨rfl, rfl⟩
    have hnn : ((ns : Int) == (ns : Int)) = true := by simp
    go_wp2_with fail
    refine (hnm1 _ (HP.out.below b2)).mono ?_
    rintro e w5 ⟨rfl, hb5⟩
    have b5 := b2.trans (hb5.mono b2.size)
    go_wp2_with fail
    refine (hnm2 _).mono ?_
    rintro e w5' ⟨rfl, rfl⟩
    go_wp2_with fail
    refine (awake18_any _ (HT.out.below b5)).mono ?_
    rintro e w6 ⟨rfl, hb6⟩
    have b6 := b5.trans (hb6.mono b5.size)
    go_wp2
    go_ret
    exact ⟨rfl, b6⟩

theorem walNeeds_walk (size seg : Int) (hsg : (Lit.int .i64 seg).wf = true) (a : Option Addr) (l c : Nat) (hlc : l ≤ c) (zs : List Nat) (w : World) (hB : Bs w a l zs) (hT : CrcTab w) (hP : Pow10 w) :
    Calls Tryd.prog 3 #[.int .i64 size, .int .i64 seg, .slice a l c] w fun e w' => e = .returned (.bool true) ∧ Below w.heap.size w w' := by
  have h9 : seg ≤ 9223372036854775807 := by
    have h8 : (decide (IntKind.i64.min ≤ seg) && decide (seg ≤ IntKind.i64.max)) = true := hsg
    rw [show IntKind.i64.max = 9223372036854775807 from rfl] at h8
    simp at h8
    exact h8.2
  by_cases h5 : l ≤ 500
  · exact needs_rest size seg h9 a l c zs h5 w hB hT hP a l c (.inl ⟨rfl, rfl, rfl, h5⟩)
  · exact needs_rest size seg h9 a 500 c (zs.take 500) (by omega) w (bs_cut hB 500 (by omega)) hT hP a l c (.inr ⟨by omega, rfl, rfl, rfl, by omega⟩)
end Go.Proofs.YtplielcjfmomlaaDoor
