/- Pairs: Mend, of an extent one half of which is right. -/
import Derived.Test.YtdigblglehchbaaDoorPairFull
import Derived.Test.YtdigblglehchbaaDoorPairOld
namespace Go.Proofs.YtdigblglehchbaaDoor
open Go.RowKit Go.Maps
set_option linter.unusedVariables false
set_option maxHeartbeats 2000000 in
theorem holds_any (w : World) (d : Nat) (F : Nat → Prop) (N : Nat) (M : List UInt8 → List Ext) (free fuse : Int) (h : DiskOf w d F N M free fuse) (hT : CrcTab w) (s : ByteArray) (hsm : s.size ≤ maxLen) (i n g : Nat) (HN : Hid (n = (M s.data.toList).length)) (hi : i < n) (hi2 : i ≤ 2147483647)
    (a : Option Addr) (len cap : Nat) (p fz : List Nat) (hB : Bs w a len p) (hl : len ≤ 106) (hg : g ≤ 4611686018427387904) (HF : Hid (fz = frameB (nums s) i g p)) (im : List Nat) (x : Ext) (HX : Hid ((M s.data.toList)[i]? = some x)) (HM : Hid (im = x.rd)) :
    Calls Tryd.prog 27 #[.pointer (some ⟨d, 0, none⟩), .string s, .int .i64 i, .int .i64 g, .slice a len cap] w fun e w' => e = .returned (.bool (decide (im = fz))) ∧ Below w.heap.size w w' := by
  go_enter Tryd.func27, Tryd.ntmps27
  go_wp2_with fail
  refine (frame_bs s i g i g rfl rfl a len cap p _ hB hT hsm hi2 hg hl fz HF).mono ?_
  rintro e w1 ⟨b, rfl, hb, _, hB1, hb1⟩
  have hD1 := h.below hb1
  go_wp2_with fail
  refine (diskRead_some _ d F N M free fuse hD1 s hsm i n (i * 385) HN hi rfl im x HX HM).mono ?_
  rintro e w2 ⟨b2, rfl, hb2, hB2, hbl2⟩
  have hB12 := hB1.below hbl2
  have B2 := hb1.trans (hbl2.mono hb1.size)
  clear hB1 hb1 hbl2
  go_wp2_with fail
  refine (equal_any _ _ _ _ _ _ _ _ _ hB2 hB12).mono ?_
  rintro e w3 ⟨rfl, rfl⟩
  go_wp2_with fail
  go_ret
  exact ⟨rfl, B2⟩
/-- A file behind a mending: the extent is as it ought to be. -/
def mendF (M : List UInt8 → List Ext) (f : List UInt8) (i : Nat) (x : Ext) (z : List Nat) : List UInt8 → List Ext := if x.rd = z then M else upd M f (((M f).set i (x.wrote z)).map Ext.synced)
theorem mendF_other (M : List UInt8 → List Ext) (f : List UInt8) (i : Nat) (x : Ext) (z : List Nat) (t : List UInt8) (ht : t ≠ f) : mendF M f i x z t = M t := by
  unfold mendF
  split
  · rfl
  · exact upd_other _ _ _ _ ht
/-- The disk behind so many files of a pair. -/
def mendK (M : List UInt8 → List Ext) (fa fb : ByteArray) (i : Nat) (xa xb : Ext) (za zb : List Nat) : Nat → List UInt8 → List Ext
  | 0 => M
  | 1 => mendF M fa.data.toList i xa za
  | _ => mendF (mendF M fa.data.toList i xa za) fb.data.toList i xb zb
def MendPost (w : World) (d : Nat) (F : Nat → Prop) (N : Nat) (M : List UInt8 → List Ext) (free : Int) (w' : World) : Prop := DiskOf w' d F N M free (-1) ∧ Gr F F w w'
set_option maxHeartbeats 4000000 in
theorem pmend_any (w : World) (d : Nat) (F : Nat → Prop) (N : Nat) (M : List UInt8 → List Ext) (free : Int) (h : DiskOf w d F N M free (-1)) (hS : Sound5 w F) (s : ByteArray) (hs : s.size ≤ 20) (hnA : nameB (fileA s).data.toList = true) (hnB : nameB (fileB s).data.toList = true) (i n g : Nat) (hin : i < n) (hi2 : i ≤ 2147483647) (hg : g ≤ 4611686018427387904)
    (hlA : n = (M (fileA s).data.toList).length) (hlB : n = (M (fileB s).data.toList).length) (xa xb : Ext) (hA : (M (fileA s).data.toList)[i]? = some xa) (hB : (M (fileB s).data.toList)[i]? = some xb) (p : List Nat) (l : Nat) (hl : l ≤ 106) (za zb : List Nat) (HZA : Hid (za = frameB (nums (fileA s)) i g p)) (HZB : Hid (zb = frameB (nums (fileB s)) i g p))
    (hget : Calls Tryd.prog 26 #[.pointer (some ⟨d, 0, none⟩), .string s, .int .i64 i] w fun e w' => ∃ a c, e = .returned (.tuple #[.slice a l c, .int .i64 g, .int .i64 0]) ∧ Bs w' a l p ∧ Fr5 w.heap.size a ∧ Below w.heap.size w w') :
    Calls Tryd.prog 13 #[.pointer (some ⟨d, 0, none⟩), .string s, .int .i64 i] w fun e w' => ∃ b, e = .returned (.tuple #[.bool b, .int .i64 0]) ∧ MendPost w d F N (mendF (mendF M (fileA s).data.toList i xa za) (fileB s).data.toList i xb zb) free w' := by
  have HA := hidn hA
  have HB := hidn hB
  have HLA := hidn hlA
  have HLB := hidn hlB
  have hHv := fun wx => halves_any wx s (by omega)
  have hsA : (fileA s).size ≤ maxLen := by have := (name_size hnA).2; unfold maxLen; omega
  have hsB : (fileB s).size ≤ maxLen := by have := (name_size hnB).2; unfold maxLen; omega
  have HNE := hidn (file_ne s)
  obtain ⟨fa, hfa⟩ : ∃ fa, fa = fileA s := ⟨_, rfl⟩
  obtain ⟨fb, hfb⟩ : ∃ fb, fb = fileB s := ⟨_, rfl⟩
  rw [← hfa] at HA HLA hsA hnA HZA HNE hHv
  rw [← hfb] at HB HLB hsB hnB HZB HNE hHv
  rw [← hfa, ← hfb]
  clear hfa hfb hA hB hlA hlB
  have hi0 : ∀ wx : World, (Instr.index 51 (.agg #[.string fa, .string fb]) (.int .i64 0)).run Tryd.prog wx = .ok (.string fa) wx := fun wx => by kernel_rfl
  have hi1 : ∀ wx : World, (Instr.index 51 (.agg #[.string fa, .string fb]) (.int .i64 1)).run Tryd.prog wx = .ok (.string fb) wx := fun wx => by kernel_rfl
  have HD := hidn h
  have HS := hidn hS
  have HNA := hidn hnA
  have HNB := hidn hnB
  clear h hS hnA hnB
  go_enter Tryd.func13, Tryd.ntmps13
  go_wp2_with fail
  refine hget.mono ?_
  rintro e w1 ⟨pa, pc, rfl, hBp, hFp, hb1⟩
  go_wp2_with fail
  refine (hHv _).mono ?_
  rintro e w2 ⟨rfl, hb2⟩
  have hb12 : Below w.heap.size w w2 := hb1.trans (hb2.mono hb1.size)
  have HBp := hidn (hBp.below hb2)
  have HFp := hidn hFp
  have HD2 := hidn (HD.out.below hb12)
  have HS2 := hidn (HS.out.below hb12)
  have HB2 := hidn hb12
  clear hBp hFp hb1 hb2 hb12 hHv
  have HBF2 : Hid (BsF F w2 pa l p) := hidn ⟨HBp.out, fun x hx _ hF => by
    have h1 := HFp.out x hx
    have h2 := HS.out.lt _ hF
    omega⟩
  have HG2 : Hid (Gr F F w w2) := hidn (Gr.of (Keeps.of_below HB2.out))
  clear HBp HFp HB2
  go_wp2_with fail
  go_loopw [11, 29] (fun bv iv wr => ∃ k : Nat, k ≤ 2 ∧ iv = .int .i64 k ∧ (∃ b, bv = .bool b) ∧ Hid (DiskOf wr d F N (mendK M fa fb i xa xb za zb k) free (-1)) ∧ Hid (Sound5 wr F) ∧ Hid (BsF F wr pa l p) ∧ Hid (Gr F F w wr)) (fun _ iv _ => 2 - (intOf iv).toNat)
  case atStart => exact ⟨0, by omega, rfl, ⟨false, rfl⟩, HD2, HS2, HBF2, HG2⟩
  case round =>
    obtain ⟨k, hk, rfl, ⟨wb, rfl⟩, HDk, HSk, HBk, HGk⟩ := hrel
    match k, hk with
    | 0, _ =>
      have hDk : DiskOf wr d F N (M) free (-1) := HDk.out
      have hx : (M fa.data.toList)[i]? = some xa := HA.out
      have hlen : n = (M fa.data.toList).length := HLA.out
      obtain ⟨Mk, hMk⟩ : ∃ Mk, Mk = M := ⟨_, rfl⟩
      rw [← hMk] at hDk hx hlen
      have HMk := hidn hMk
      have HDk' := hidn hDk
      have HXk := hidn hx
      have HLk := hidn hlen
      clear HDk hDk hx hlen hMk
      simp only [show ((0 : Nat) : Int) = 0 from rfl]
      go_wp2_with fail
      refine (holds_any _ d F N Mk free (-1) HDk'.out HSk.out.tab fa hsA i n g HLk hin hi2 pa l pc p za HBk.out.1 hl hg HZA xa.rd xa HXk (hidn rfl)).mono ?_
      rintro e w3 ⟨rfl, hb3⟩
      have HD3 := hidn (HDk'.out.below hb3)
      have HS3 := hidn (HSk.out.below hb3)
      have HB3 := hidn (HBk.out.below hb3)
      have HG3 := hidn (HGk.out.trans (Gr.of (Keeps.of_below hb3)))
      clear hb3
      by_cases he : xa.rd = za
      · have hde : decide (xa.rd = za) = true := decide_eq_true he
        have HNX : Hid (DiskOf w3 d F N (mendF M fa.data.toList i xa za) free (-1)) := hidn (by
          unfold mendF
          rw [if_pos he]
          show DiskOf w3 d F N M free (-1)
          rw [← HMk.out]
          exact HD3.out)
        rw [hde]
        clear he hde
        go_wp2
        go_roundw
        case rel => exact ⟨1, by omega, by first | rfl | go_num | simp, ⟨_, rfl⟩, HNX, HS3, HB3, HG3⟩
        case measure => simp [intOf]
      · have hde : decide (xa.rd = za) = false := decide_eq_false he
        have HNE2 := hidn he
        rw [hde]
        clear he hde
        go_wp2_with fail
        refine (pairWrite_old _ d F N Mk free (-1) HD3.out HS3.out fa HNA.out i n (i * 385) g HLk hin hi2 rfl pa l pc p za HB3.out.1 hl hg HZA (by omega) (by omega) (by omega) xa HXk).mono ?_
        rintro e w4 ⟨rfl, hD4, hG4⟩
        rw [show burnt (-1) = -1 by decide] at hD4
        have HD4 := hidn hD4
        have HS4 := hidn (HS3.out.gr hG4)
        have HB4 := hidn (HB3.out.gr hG4)
        have HG4 := hidn (HG3.out.trans hG4)
        clear hD4 hG4
        go_wp2_with fail
        refine (sync_disk _ d F N _ free (-1) HD4.out fa hsA (by rw [upd_same]; intro e; have h1 := congrArg List.length e; rw [List.length_set, ← HLk.out] at h1; simp at h1; omega) (by omega) (by omega) (by omega)).mono ?_
        rintro e w5 ⟨rfl, hD5, hG5⟩
        rw [show burnt (-1) = -1 by decide, upd_upd, upd_same] at hD5
        have HNX : Hid (DiskOf w5 d F N (mendF M fa.data.toList i xa za) free (-1)) := hidn (by
          unfold mendF
          rw [if_neg HNE2.out]
          show DiskOf w5 d F N (upd M fa.data.toList (((M fa.data.toList).set i (xa.wrote za)).map Ext.synced)) free (-1)
          rw [← HMk.out]
          exact hD5)
        have HS5 := hidn (HS4.out.gr hG5)
        have HB5 := hidn (HB4.out.gr hG5)
        have HG5 := hidn (HG4.out.trans hG5)
        clear hD5 hG5
        go_wp2
        go_roundw
        case rel => exact ⟨1, by omega, by first | rfl | go_num | simp, ⟨_, rfl⟩, HNX, HS5, HB5, HG5⟩
        case measure => simp [intOf]
    | 1, _ =>
      have hDk : DiskOf wr d F N (mendF M fa.data.toList i xa za) free (-1) := HDk.out
      have hx : (mendF M fa.data.toList i xa za fb.data.toList)[i]? = some xb := (by rw [mendF_other _ _ _ _ _ _ HNE.out]; exact HB.out)
      have hlen : n = (mendF M fa.data.toList i xa za fb.data.toList).length := (by rw [mendF_other _ _ _ _ _ _ HNE.out]; exact HLB.out)
      obtain ⟨Mk, hMk⟩ : ∃ Mk, Mk = mendF M fa.data.toList i xa za := ⟨_, rfl⟩
      rw [← hMk] at hDk hx hlen
      have HMk := hidn hMk
      have HDk' := hidn hDk
      have HXk := hidn hx
      have HLk := hidn hlen
      clear HDk hDk hx hlen hMk
      simp only [show ((1 : Nat) : Int) = 1 from rfl]
      go_wp2_with fail
      refine (holds_any _ d F N Mk free (-1) HDk'.out HSk.out.tab fb hsB i n g HLk hin hi2 pa l pc p zb HBk.out.1 hl hg HZB xb.rd xb HXk (hidn rfl)).mono ?_
      rintro e w3 ⟨rfl, hb3⟩
      have HD3 := hidn (HDk'.out.below hb3)
      have HS3 := hidn (HSk.out.below hb3)
      have HB3 := hidn (HBk.out.below hb3)
      have HG3 := hidn (HGk.out.trans (Gr.of (Keeps.of_below hb3)))
      clear hb3
      by_cases he : xb.rd = zb
      · have hde : decide (xb.rd = zb) = true := decide_eq_true he
        have HNX : Hid (DiskOf w3 d F N (mendF (mendF M fa.data.toList i xa za) fb.data.toList i xb zb) free (-1)) := hidn (by
          unfold mendF
          rw [if_pos he]
          show DiskOf w3 d F N (mendF M fa.data.toList i xa za) free (-1)
          rw [← HMk.out]
          exact HD3.out)
        rw [hde]
        clear he hde
        go_wp2
        go_roundw
        case rel => exact ⟨2, by omega, by first | rfl | go_num | simp, ⟨_, rfl⟩, HNX, HS3, HB3, HG3⟩
        case measure => simp [intOf]
      · have hde : decide (xb.rd = zb) = false := decide_eq_false he
        have HNE2 := hidn he
        rw [hde]
        clear he hde
        go_wp2_with fail
        refine (pairWrite_old _ d F N Mk free (-1) HD3.out HS3.out fb HNB.out i n (i * 385) g HLk hin hi2 rfl pa l pc p zb HB3.out.1 hl hg HZB (by omega) (by omega) (by omega) xb HXk).mono ?_
        rintro e w4 ⟨rfl, hD4, hG4⟩
        rw [show burnt (-1) = -1 by decide] at hD4
        have HD4 := hidn hD4
        have HS4 := hidn (HS3.out.gr hG4)
        have HB4 := hidn (HB3.out.gr hG4)
        have HG4 := hidn (HG3.out.trans hG4)
        clear hD4 hG4
        go_wp2_with fail
        refine (sync_disk _ d F N _ free (-1) HD4.out fb hsB (by rw [upd_same]; intro e; have h1 := congrArg List.length e; rw [List.length_set, ← HLk.out] at h1; simp at h1; omega) (by omega) (by omega) (by omega)).mono ?_
        rintro e w5 ⟨rfl, hD5, hG5⟩
        rw [show burnt (-1) = -1 by decide, upd_upd, upd_same] at hD5
        have HNX : Hid (DiskOf w5 d F N (mendF (mendF M fa.data.toList i xa za) fb.data.toList i xb zb) free (-1)) := hidn (by
          unfold mendF
          rw [if_neg HNE2.out]
          show DiskOf w5 d F N (upd (mendF M fa.data.toList i xa za) fb.data.toList (((mendF M fa.data.toList i xa za fb.data.toList).set i (xb.wrote zb)).map Ext.synced)) free (-1)
          rw [← HMk.out]
          exact hD5)
        have HS5 := hidn (HS4.out.gr hG5)
        have HB5 := hidn (HB4.out.gr hG5)
        have HG5 := hidn (HG4.out.trans hG5)
        clear hD5 hG5
        go_wp2
        go_roundw
        case rel => exact ⟨2, by omega, by first | rfl | go_num | simp, ⟨_, rfl⟩, HNX, HS5, HB5, HG5⟩
        case measure => simp [intOf]
    | 2, _ =>
      simp only [show ((2 : Nat) : Int) = 2 from rfl]
      go_wp2
      go_ret2
      exact ⟨_, rfl, HDk.out, HGk.out⟩
end Go.Proofs.YtdigblglehchbaaDoor
