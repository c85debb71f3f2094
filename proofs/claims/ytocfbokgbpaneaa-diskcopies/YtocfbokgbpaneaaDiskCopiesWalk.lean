/- DiskCopies: the law's walk. -/
import Derived.Test.YtocfbokgbpaneaaTwF
import Derived.Test.YtocfbokgbpaneaaRyV
import Derived.Test.YtocfbokgbpaneaaMp
namespace Go.Proofs.Ytocfbokgbpaneaa
open Go.RowKit Go.Maps
set_option linter.unusedVariables false

theorem StKOk.below {w w' : World} {s : StK} (h : StKOk w s) (hb : Below w.heap.size w w') : StKOk w' s := by
  obtain ⟨h1, h2, h3, h4⟩ := h
  exact ⟨h1, h2.below hb, h3.below hb, h4⟩

theorem viewY_key {R R' : List Yf} (h : R'.map keyY = R.map keyY) : viewY R' = viewY R := h

/-- The program's disk is copied. -/
theorem copyD_two (W0 w : World) (d N y : Nat) (room : Int) (st : St) (h : Two W0 w d N y room st) (hN : N ≤ 1000000) :
    Calls Try.prog 5 #[.pointer (some ⟨d, 0, none⟩)] w fun e w' => ∃ c, e = .returned (.pointer (some ⟨c, 0, none⟩)) ∧ Two W0 w' d N y room st ∧ Below w.heap.size w w' ∧ ∃ F', DiskS w' c F' N st ∧ ∀ k, F' k → w.heap.size ≤ k ∧ k < w'.heap.size := by
  obtain ⟨h0, Fd, Fy, h1, h2, h3, h4, h5⟩ := id h
  obtain ⟨V, hV⟩ := h.rel
  refine (copy_disk w d Fd N st.M st.free st.fuse h1 hN (fun s => by have := hV.len s; omega)).mono ?_
  rintro e w' ⟨c, rfl, ⟨F', hD, hF⟩, hb⟩
  exact ⟨c, rfl, h.below hb, hb, F', hD, hF⟩

/-- Then the document's; both copies stand side by side, behind the originals. -/
theorem copyY_two (W0 w1 w : World) (d N y : Nat) (room : Int) (st : St) (h : Two W0 w d N y room st) (hb1 : Below w1.heap.size w1 w) (c : Nat) (F' : Nat → Prop) (hc : DiskS w c F' N st) (hF' : ∀ k, F' k → w1.heap.size ≤ k ∧ k < w.heap.size) :
    Calls Try.prog 6 #[.pointer (some ⟨y, 0, none⟩)] w fun e w' => ∃ z, e = .returned (.pointer (some ⟨z, 0, none⟩)) ∧ Two W0 w' d N y room st ∧ Two w1 w' c N z room st := by
  obtain ⟨h0, Fd, Fy, h1, ⟨fa, fc, R, hR, hV⟩, h3, h4, h5⟩ := id h
  have hs := hV.short
  refine (copyY_any w y Fy fa fc R room st.fuse hR (fun k hk => (h4 k hk).2) R.length rfl hs.1 (fun f hf => ?_)).mono ?_
  · have : f.l.length ≤ sumL R := by
      have := sumV_mem (V := viewY R) (p := (f.name, f.l.map Yc.x)) (List.mem_map_of_mem hf)
      have e : sumV (viewY R) = sumL R := by simp [sumV, viewY, sumL, List.map_map, Function.comp_def]
      rw [e] at this
      simpa using this
    omega
  · rintro e w' ⟨z, fa', fc', R', Fz, rfl, hz, hk, hFz, hb⟩
    refine ⟨z, rfl, h.below hb, hb1.trans (hb.mono hb1.size), F', Fz, hc.below hb, ⟨fa', fc', R', hz, by rw [viewY_key hk]; exact hV⟩, fun k hk => ?_, fun k hk => ?_, fun k hk he => ?_⟩
    · have := hF' k hk; have := hb.size; exact ⟨by omega, by omega⟩
    · have := hFz k hk; have := hb1.size; exact ⟨by omega, by omega⟩
    · have := hF' k hk; have := hFz k he; omega

set_option maxHeartbeats 8000000 in
set_option maxRecDepth 100000 in
theorem diskCopies_walk (la : Option Addr) (ll lc : Nat) (sts : List StK) (ma : Option Addr) (ml mc : Nat) (mts : List StK) (w : World) (hL : StsK w la ll sts) (hM : StsK w ma ml mts) :
    Calls Try.prog 3 #[.slice la ll lc, .slice ma ml mc] w fun e w' => e = .returned (.bool true) ∧ Below w.heap.size w w' := by
  have hpd := fun (wx : World) (p : Option Addr) => run_neq_pointer_nil (P := Try.prog) wx 23 p (by kernel_rfl)
  have HL := hidn hL
  have HM := hidn hM
  have hml := hM.2.1
  unfold maxLen at hml
  have HLn := hidn hM.1
  clear hL hM
  go_enter Try.func3, Try.ntmps3
  go_wp2_with fail
  refine (disks_any w 20 (by decide) la ll lc sts HL.out).mono ?_
  rintro e w1 ⟨d, y, rfl, st, hT⟩
  have HT := hidn hT
  clear hT
  go_wp2_with fail
  refine (copyD_two w w1 d 40 y 20 st HT.out (by decide)).mono ?_
  rintro e w2 ⟨c, rfl, hT2, hb2, F', hc, hF'⟩
  have HT2 := hidn hT2
  have HC := hidn (And.intro hb2 (And.intro hc hF'))
  clear hT2 hb2 hc hF'
  go_wp2_with fail
  refine (copyY_two w w1 w2 d 40 y 20 st HT2.out HC.out.1 c F' HC.out.2.1 HC.out.2.2).mono ?_
  rintro e w3 ⟨z, rfl, hT3, hZ⟩
  have HT3 := hidn hT3
  have HB3 := hidn hZ.1
  have HI0 : Hid (∃ st', Two w1 w3 c (40 + min 0 20) z 20 st') := hidn ⟨st, hZ⟩
  have HO0 : Hid (Two w w1 d 40 y 20 st) := HT
  clear hT3 hZ HT2 HC HT HT3
  go_wp2_with fail
  go_loopw [26] (fun iv wr => ∃ k : Nat, k ≤ ml ∧ iv = .int .i64 (k : Int) ∧ Hid (∃ st', Two w1 wr c (40 + min k 20) z 20 st')) (fun iv _ => ml - (intOf iv).toNat)
  case atStart => exact ⟨0, Nat.zero_le _, rfl, HI0⟩
  case round =>
    clear HI0
    obtain ⟨j, hj, rfl, HI⟩ := hrel
    by_cases hlt : j < ml
    · have hlt2 : (j : Int) < (ml : Int) := by omega
      obtain ⟨s, hs⟩ : ∃ s, mts[j]? = some s := ⟨_, List.getElem?_eq_getElem (by rw [HLn.out]; exact hlt)⟩
      have hB1 : Below w.heap.size w w1 := HO0.out.1
      have hB : Below w.heap.size w wr := by obtain ⟨st', hT⟩ := HI.out; exact hB1.trans (hT.1.mono hB1.size)
      obtain ⟨mb, mo, rfl, c0, c1, c2, c3, c4, c5, c6, c7⟩ := HM.out.sts.at2 hB (HM.out.step hs)
      have HOK := hidn ((HM.out.2.2.2.1 s (List.mem_of_getElem? hs)).below hB1)
      obtain ⟨m, hm⟩ : ∃ m : Nat, s.s.m6 = (m : Int) := ⟨s.s.m6.toNat, by have := HOK.out.2.2.2.1; omega⟩
      have HMM := hidn hm
      rw [hm] at c6
      clear hs hB hB1 hm
      have HTS : Hid (∃ st', Two w1 (wr.alloc (.cells #[.int .i64 s.s.op, .int .i64 s.s.i, .int .i64 s.s.at2, .int .i64 s.s.n3, .string s.s.nm, .slice s.s.ba s.s.bl s.s.bc, .int .u8 (m : Int), .slice s.s.ka s.s.kl s.s.kc] 32)) c (40 + min j 20) z 20 st') := hidn (by
        obtain ⟨st', hT⟩ := HI.out
        exact ⟨st', hT.below ((Below.refl _ _).alloc (Nat.le_refl _) _)⟩)
      by_cases h20 : j < 20
      · have h20i : (j : Int) < 20 := by omega
        go_wp2_with fail
        obtain ⟨st', hT⟩ := HTS.out
        refine (do_step w1 _ c (40 + min j 20) z 20 st' hT (by omega) s HOK.out m HMM.out).mono ?_
        rintro e w4 ⟨rfl, st2, hT'⟩
        have HI2 : Hid (∃ st', Two w1 w4 c (40 + min (j + 1) 20) z 20 st') := hidn ⟨st2, hT'.mono (by omega)⟩
        clear hT hT' c0 c1 c2 c3 c4 c5 c6 c7 HI HTS
        go_wp2
        go_roundw
        case rel => exact ⟨j + 1, hlt, by simp, HI2⟩
        case measure => simp [intOf]; omega
      · have h20i : ¬ (j : Int) < 20 := by omega
        have HI2 : Hid (∃ st', Two w1 (wr.alloc (.cells #[.int .i64 s.s.op, .int .i64 s.s.i, .int .i64 s.s.at2, .int .i64 s.s.n3, .string s.s.nm, .slice s.s.ba s.s.bl s.s.bc, .int .u8 (m : Int), .slice s.s.ka s.s.kl s.s.kc] 32)) c (40 + min (j + 1) 20) z 20 st') := hidn (by
          obtain ⟨st', hT⟩ := HTS.out
          exact ⟨st', hT.mono (by omega)⟩)
        clear HI HTS
        go_wp2
        go_roundw
        case rel => exact ⟨j + 1, hlt, by simp, HI2⟩
        case measure => simp [intOf]; omega
    · have hlt2 : ¬ (j : Int) < (ml : Int) := by omega
      go_wp2_with fail
      obtain ⟨st', hT⟩ := HI.out
      refine (same_any w1 _ c (40 + min j 20) z 20 st' hT (by omega)).mono ?_
      rintro e w4 ⟨rfl, hb4⟩
      have hO : Two w w4 d 40 y 20 st := HO0.out.below (hT.1.trans (hb4.mono hT.1.size))
      have HO := hidn hO
      clear hT hb4 hO HI
      go_wp2_with fail
      refine (same_any w _ d 40 y 20 st HO.out (by omega)).mono ?_
      rintro e w5 ⟨rfl, hb5⟩
      have HB := hidn (HO.out.1.trans (hb5.mono HO.out.1.size))
      clear hb5 HO
      go_wp2
      go_ret
      exact ⟨rfl, HB.out⟩
end Go.Proofs.Ytocfbokgbpaneaa
