/- Pairs: Put of a new extent, and of one that is there, on a disk that stops; Fuse. -/
import Derived.Test.YtoopdmfijbbfdaaDoorMd
import Derived.Test.YtoopdmfijbbfdaaDoorMh
namespace Go.Proofs.YtoopdmfijbbfdaaDoor
open Go.RowKit Go.Maps
set_option linter.unusedVariables false

set_option maxHeartbeats 1000000 in
theorem pairWrite_old (w : World) (d : Nat) (F : Nat → Prop) (N : Nat) (M : List UInt8 → List Ext) (free fuse : Int) (h : DiskOf w d F N M free fuse) (hS : Sound5 w F) (s : ByteArray) (hs : nameB s.data.toList = true) (i n o g : Nat) (HN : Hid (n = (M s.data.toList).length)) (hi : i < n) (hi2 : i ≤ 2147483647) (ho : i * 385 = o)
    (a : Option Addr) (len cap : Nat) (p fz : List Nat) (hB : Bs w a len p) (hl : len ≤ 106) (hg : g ≤ 4611686018427387904) (HF : Hid (fz = frameB (nums s) i g p)) (h0 : fuse ≠ 0) (hf : -1 ≤ fuse) (hf2 : fuse ≤ 9223372036854775807) (x : Ext) (HX : Hid ((M s.data.toList)[i]? = some x)) :
    Calls Tryd.prog 56 #[.pointer (some ⟨d, 0, none⟩), .string s, .int .i64 i, .int .i64 g, .slice a len cap] w fun e w' => e = .returned (.int .i64 0) ∧ DiskOf w' d F N (upd M s.data.toList ((M s.data.toList).set i (x.wrote fz))) free (burnt fuse) ∧ Gr F F w w' := by
  have hsm : s.size ≤ maxLen := by have := (name_size hs).2; unfold maxLen; omega
  have HSN := hidn hs
  have HO := hidn ho
  clear hs ho
  go_enter Tryd.func56, Tryd.ntmps56
  go_wp2_with fail
  refine (frame_bs s i g i g rfl rfl a len cap p _ hB hS.tab hsm hi2 hg hl fz HF).mono ?_
  rintro e w1 ⟨b, rfl, hb, _, hB1, hb1⟩
  have hD1 := h.below hb1
  have hBF := BsF.fresh hB1 hb hS.lt
  go_wp2_with fail
  refine (write_old _ d F N M free fuse hD1 s HSN.out i n o HN hi HO.out b 0 128 fz hBF h0 hf hf2 x HX).mono ?_
  rintro e w2 ⟨rfl, hD2, hG2⟩
  go_wp2
  go_ret
  exact ⟨rfl, hD2, (Gr.of (Keeps.of_below hb1)).trans hG2⟩

set_option maxHeartbeats 1000000 in
theorem pairWrite_dead (w : World) (d : Nat) (F : Nat → Prop) (N : Nat) (M : List UInt8 → List Ext) (free : Int) (h : DiskOf w d F N M free 0) (hS : Sound5 w F) (s : ByteArray) (hs : nameB s.data.toList = true) (i n g : Nat) (HN : Hid (n = (M s.data.toList).length)) (hi : i ≤ n) (hi2 : i ≤ 2147483647)
    (a : Option Addr) (len cap : Nat) (p : List Nat) (hB : Bs w a len p) (hl : len ≤ 106) (hg : g ≤ 4611686018427387904) :
    Calls Tryd.prog 56 #[.pointer (some ⟨d, 0, none⟩), .string s, .int .i64 i, .int .i64 g, .slice a len cap] w fun e w' => e = .returned (.int .i64 31) ∧ Below w.heap.size w w' := by
  have hsm : s.size ≤ maxLen := by have := (name_size hs).2; unfold maxLen; omega
  have HSN := hidn hs
  clear hs
  go_enter Tryd.func56, Tryd.ntmps56
  go_wp2_with fail
  refine (frame_bs s i g i g rfl rfl a len cap p _ hB hS.tab hsm hi2 hg hl _ rfl).mono ?_
  rintro e w1 ⟨b, rfl, hb, _, hB1, hb1⟩
  have hD1 := h.below hb1
  go_wp2_with fail
  refine (write_dead _ d F N M free hD1 s HSN.out i n HN hi (some ⟨b, 0, none⟩) 128).mono ?_
  rintro e w2 ⟨rfl, rfl⟩
  go_wp2
  go_ret
  exact ⟨rfl, hb1⟩

set_option maxHeartbeats 1000000 in
theorem fuse_any (w : World) (d : Nat) (F : Nat → Prop) (N : Nat) (M : List UInt8 → List Ext) (free fuse : Int) (h : DiskOf w d F N M free fuse) (n : Nat) :
    Calls Tryd.prog 26 #[.pointer (some ⟨d, 0, none⟩), .int .i64 n] w fun e w' => e = .returned (.int .i64 0) ∧ DiskOf w' d F N M free n ∧ Gr F F w w' := by
  obtain ⟨bm, D, G, C, hI⟩ := h.is
  obtain ⟨c0, c2, f2⟩ := diskFuse hI
  have hFd := hI.2.1.1
  have HR := hidn (hI.fused n).of
  have h1 : decide ((n : Int) < 0) = false := by simp
  clear hI
  go_enter Tryd.func26, Tryd.ntmps26
  go_wp2_with fail
  refine (isMade_any _ d F N M free fuse h).mono ?_
  rintro e w1 ⟨rfl, rfl⟩
  go_wp2
  go_ret
  exact ⟨rfl, HR.out, Gr.of ((Keeps.refl _ _).setCell hFd _)⟩

set_option maxHeartbeats 2000000 in
theorem put_new (w : World) (d : Nat) (F : Nat → Prop) (N : Nat) (M : List UInt8 → List Ext) (free : Int) (h : DiskOf w d F N M free (-1)) (hS : Sound5 w F) (hM0 : M [] = []) (s : ByteArray) (hs : s.size ≤ 1000) (hnA : nameB (fileA s).data.toList = true) (hnB : nameB (fileB s).data.toList = true) (hA : M (fileA s).data.toList = []) (hB : M (fileB s).data.toList = [])
    (g : Nat) (hg : g ≤ 4611686018427387904) (a : Option Addr) (len cap : Nat) (p : List Nat) (hBz : BsF F w a len p) (hlen : len ≤ 106) (za zb : List Nat) (HZA : Hid (za = frameB (nums (fileA s)) 0 g p)) (HZB : Hid (zb = frameB (nums (fileB s)) 0 g p)) (hN : N + 2 < maxLen) (hfr : 2 ≤ free) (hfr2 : free ≤ 1000000) :
    Calls Tryd.prog 38 #[.pointer (some ⟨d, 0, none⟩), .string s, .int .i64 0, .int .i64 g, .slice a len cap] w fun e w' => e = .returned (.int .i64 0) ∧ ∃ F', DiskOf w' d F' (N + 1 + 1) (upd (upd M (fileA s).data.toList [(zeroE.wrote za).synced]) (fileB s).data.toList [(zeroE.wrote zb).synced]) (free - 1 - 1) (-1) ∧ Gr F F' w w' := by
  have hsm : s.size ≤ maxLen := by unfold maxLen; omega
  have HNE := hidn (file_ne s)
  have HD := hidn h
  have HS := hidn hS
  have HA := hidn hA
  have HB := hidn hB
  have HnA := hidn hnA
  have HnB := hidn hnB
  have HBz := hidn hBz
  have hHv := fun wx => halves_any wx s hs
  clear hA hB hnA hnB hBz
  go_enter Tryd.func38, Tryd.ntmps38
  go_wp2_with fail
  refine (pairMade _ d F N M free (-1) HD.out hM0).mono ?_
  rintro e w1 ⟨rfl, hb1⟩
  go_wp2_with fail
  refine (hHv _).mono ?_
  rintro e w4 ⟨rfl, hb4⟩
  have hb14 : Below w.heap.size w w4 := hb1.trans (hb4.mono hb1.size)
  have HD4 := hidn (HD.out.below hb14)
  have HG4 := hidn (Gr.of (Keeps.of_below (F := F) hb14))
  clear hb1 hb4 hb14 hHv h hS
  obtain ⟨fa, hfa⟩ : ∃ fa, fa = fileA s := ⟨_, rfl⟩
  obtain ⟨fb, hfb⟩ : ∃ fb, fb = fileB s := ⟨_, rfl⟩
  rw [← hfa] at HNE HA HnA HZA
  rw [← hfb] at HNE HB HnB HZB
  rw [← hfa, ← hfb]
  have HFA := hidn hfa
  have HFB := hidn hfb
  clear hfa hfb
  have hsA : fa.size ≤ maxLen := by have := (name_size HnA.out).2; unfold maxLen; omega
  have hsB : fb.size ≤ maxLen := by have := (name_size HnB.out).2; unfold maxLen; omega
  have hi0 : ∀ wx : World, (Instr.index 91 (.agg #[.string fa, .string fb]) (.int .i64 0)).run Tryd.prog wx = .ok (.string fa) wx := fun wx => by kernel_rfl
  have hi1 : ∀ wx : World, (Instr.index 91 (.agg #[.string fa, .string fb]) (.int .i64 1)).run Tryd.prog wx = .ok (.string fb) wx := fun wx => by kernel_rfl
  go_wp2_with fail
  go_loopw [20] (fun iv wr => ∃ (k : Nat) (F' : Nat → Prop), k ≤ 2 ∧ iv = .int .i64 k ∧ Hid (Gr F F' w wr) ∧ ((k = 0 ∧ Hid (DiskOf wr d F' N M free (-1))) ∨ (k = 1 ∧ Hid (DiskOf wr d F' (N + 1) (upd M fa.data.toList [(zeroE.wrote za).synced]) (free - 1) (-1))) ∨
      (k = 2 ∧ Hid (DiskOf wr d F' (N + 1 + 1) (upd (upd M fa.data.toList [(zeroE.wrote za).synced]) fb.data.toList [(zeroE.wrote zb).synced]) (free - 1 - 1) (-1))))) (fun iv _ => 2 - (intOf iv).toNat)
  case atStart => exact ⟨0, F, by omega, rfl, HG4, Or.inl ⟨rfl, HD4⟩⟩
  case round =>
    obtain ⟨k, F', hk, rfl, HGk, (⟨rfl, HDk⟩ | ⟨rfl, HDk⟩ | ⟨rfl, HDk⟩)⟩ := hrel
    · go_wp2_with fail
      refine (pairWrite_new _ d F' N M free (-1) HDk.out (HS.out.gr HGk.out) fa HnA.out 0 0 g (hidn (by rw [HA.out]; rfl)) rfl a len cap p za (HBz.out.gr HGk.out).1 hlen hg HZA (by omega) (by omega) (by omega) (by omega) (by omega) (by omega) hfr2).mono ?_
      rw [HA.out, List.nil_append, burnt_none]
      rintro e w6 ⟨rfl, F6, hD6, hG6⟩
      have HD6 := hidn hD6
      have HG6 := hidn (HGk.out.trans hG6)
      clear hD6 hG6
      go_wp2_with fail
      refine (sync_disk _ d F6 (N + 1) _ (free - 1) (-1) HD6.out fa hsA (by rw [upd_same]; simp) (by omega) (by omega) (by omega)).mono ?_
      rw [upd_upd, upd_same, burnt_none]
      rintro e w7 ⟨rfl, hD7, hG7⟩
      have HD7 := hidn hD7
      have HG7 := hidn (HG6.out.trans hG7)
      clear hD7 hG7
      go_wp2
      go_roundw
      case rel => exact ⟨1, F6, by omega, by first | rfl | go_num | simp, HG7, Or.inr (Or.inl ⟨rfl, HD7⟩)⟩
      case measure => simp [intOf]
    · go_wp2_with fail
      refine (pairWrite_new _ d F' (N + 1) _ (free - 1) (-1) HDk.out (HS.out.gr HGk.out) fb HnB.out 0 0 g (hidn (by rw [upd_other _ _ _ _ HNE.out, HB.out]; rfl)) rfl a len cap p zb (HBz.out.gr HGk.out).1 hlen hg HZB (by omega) (by omega) (by omega) (by omega) (by omega) (by omega) (by omega)).mono ?_
      rw [upd_other _ _ _ _ HNE.out, HB.out, List.nil_append, burnt_none]
      rintro e w6 ⟨rfl, F6, hD6, hG6⟩
      have HD6 := hidn hD6
      have HG6 := hidn (HGk.out.trans hG6)
      clear hD6 hG6
      go_wp2_with fail
      refine (sync_disk _ d F6 (N + 1 + 1) _ (free - 1 - 1) (-1) HD6.out fb hsB (by rw [upd_same]; simp) (by omega) (by omega) (by omega)).mono ?_
      rw [upd_upd, upd_same, burnt_none]
      rintro e w7 ⟨rfl, hD7, hG7⟩
      have HD7 := hidn hD7
      have HG7 := hidn (HG6.out.trans hG7)
      clear hD7 hG7
      go_wp2
      go_roundw
      case rel => exact ⟨2, F6, by omega, by first | rfl | go_num | simp, HG7, Or.inr (Or.inr ⟨rfl, HD7⟩)⟩
      case measure => simp [intOf]
    · go_wp2
      go_ret
      have h1 := HDk.out
      rw [HFA.out, HFB.out] at h1
      exact ⟨rfl, F', h1, HGk.out⟩
end Go.Proofs.YtoopdmfijbbfdaaDoor
