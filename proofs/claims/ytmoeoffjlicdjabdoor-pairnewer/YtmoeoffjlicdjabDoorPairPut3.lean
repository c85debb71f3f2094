/- Pairs: Put of an extent that is there, on a disk that stops behind some changes. -/
import Derived.Test.YtmoeoffjlicdjabDoorPairPut2
namespace Go.Proofs.YtmoeoffjlicdjabDoor
open Go.RowKit Go.Maps
set_option linter.unusedVariables false

set_option maxHeartbeats 2000000 in
theorem put_old0 (w : World) (d : Nat) (F : Nat → Prop) (N : Nat) (M : List UInt8 → List Ext) (free : Int) (h : DiskOf w d F N M free 0) (hS : Sound5 w F) (hM0 : M [] = []) (s : ByteArray) (hs : s.size ≤ 1000) (hnA : nameB (fileA s).data.toList = true) (hnB : nameB (fileB s).data.toList = true) (xa xb : Ext) (hA : M (fileA s).data.toList = [xa]) (hB : M (fileB s).data.toList = [xb])
    (g : Nat) (hg : g ≤ 4611686018427387904) (a : Option Addr) (len cap : Nat) (p : List Nat) (hBz : BsF F w a len p) (hlen : len ≤ 106) (za zb : List Nat) (HZA : Hid (za = frameB (nums (fileA s)) 0 g p)) (HZB : Hid (zb = frameB (nums (fileB s)) 0 g p)) :
    Calls Tryd.prog 21 #[.pointer (some ⟨d, 0, none⟩), .string s, .int .i64 0, .int .i64 g, .slice a len cap] w fun e w' => e = .returned (.int .i64 31) ∧ DiskOf w' d F N M free 0 ∧ Gr F F w w' := by
  have hsm : s.size ≤ maxLen := by unfold maxLen; omega
  have HNE := hidn (file_ne s)
  have HD := hidn h
  have HS := hidn hS
  have HA := hidn hA
  have HB := hidn hB
  have HnA := hidn hnA
  have HnB := hidn hnB
  have HBz := hidn hBz
  have hHv := fun wx => halves_any wx s hs
  clear hA hB hnA hnB hBz
  go_enter Tryd.func21, Tryd.ntmps21
  go_wp2_with fail
  refine (pairMade _ d F N M free 0 HD.out hM0).mono ?_
  rintro e w1 ⟨rfl, hb1⟩
  go_wp2_with fail
  refine (hHv _).mono ?_
  rintro e w4 ⟨rfl, hb4⟩
  have hb14 : Below w.heap.size w w4 := hb1.trans (hb4.mono hb1.size)
  have HD4 := hidn (HD.out.below hb14)
  have HG4 := hidn (Gr.of (Keeps.of_below (F := F) hb14))
  clear hb1 hb4 hb14 hHv h hS
  obtain ⟨fa, hfa⟩ : ∃ fa, fa = fileA s := ⟨_, rfl⟩
  obtain ⟨fb, hfb⟩ : ∃ fb, fb = fileB s := ⟨_, rfl⟩
  rw [← hfa] at HNE HA HnA HZA
  rw [← hfb] at HNE HB HnB HZB
  rw [← hfa, ← hfb]
  have HFA := hidn hfa
  have HFB := hidn hfb
  clear hfa hfb
  have hsA : fa.size ≤ maxLen := by have := (name_size HnA.out).2; unfold maxLen; omega
  have hsB : fb.size ≤ maxLen := by have := (name_size HnB.out).2; unfold maxLen; omega
  have hi0 : ∀ wx : World, (Instr.index 60 (.agg #[.string fa, .string fb]) (.int .i64 0)).run Tryd.prog wx = .ok (.string fa) wx := fun wx => by kernel_rfl
  have hi1 : ∀ wx : World, (Instr.index 60 (.agg #[.string fa, .string fb]) (.int .i64 1)).run Tryd.prog wx = .ok (.string fb) wx := fun wx => by kernel_rfl
  go_wp2_with fail
  go_loopw [20] (fun iv wr => ∃ k : Nat, k ≤ 2 ∧ iv = .int .i64 k ∧ Hid (Gr F F w wr) ∧ ((k = 0 ∧ Hid (DiskOf wr d F N M free 0)))) (fun iv _ => 2 - (intOf iv).toNat)
  case atStart => exact ⟨0, by omega, rfl, HG4, ⟨rfl, HD4⟩⟩
  case round =>
    obtain ⟨k, hk, rfl, HGk, ⟨rfl, HDk⟩⟩ := hrel
    go_wp2_with fail
    refine (pairWrite_dead _ d F N _ free HDk.out (HS.out.gr HGk.out) fa HnA.out 0 1 g (hidn (by rw [HA.out]; rfl)) (by omega) (by omega) a len cap p (HBz.out.gr HGk.out).1 hlen hg).mono ?_
    rintro e w6 ⟨rfl, hb6⟩
    have HD6 := hidn (HDk.out.below hb6)
    have HG6 := hidn (HGk.out.trans (Gr.of (Keeps.of_below hb6)))
    clear hb6
    go_wp2
    go_ret
    have h1 := HD6.out
    exact ⟨rfl, h1, HG6.out⟩

set_option maxHeartbeats 2000000 in
theorem put_old1 (w : World) (d : Nat) (F : Nat → Prop) (N : Nat) (M : List UInt8 → List Ext) (free : Int) (h : DiskOf w d F N M free 1) (hS : Sound5 w F) (hM0 : M [] = []) (s : ByteArray) (hs : s.size ≤ 1000) (hnA : nameB (fileA s).data.toList = true) (hnB : nameB (fileB s).data.toList = true) (xa xb : Ext) (hA : M (fileA s).data.toList = [xa]) (hB : M (fileB s).data.toList = [xb])
    (g : Nat) (hg : g ≤ 4611686018427387904) (a : Option Addr) (len cap : Nat) (p : List Nat) (hBz : BsF F w a len p) (hlen : len ≤ 106) (za zb : List Nat) (HZA : Hid (za = frameB (nums (fileA s)) 0 g p)) (HZB : Hid (zb = frameB (nums (fileB s)) 0 g p)) :
    Calls Tryd.prog 21 #[.pointer (some ⟨d, 0, none⟩), .string s, .int .i64 0, .int .i64 g, .slice a len cap] w fun e w' => e = .returned (.int .i64 31) ∧ DiskOf w' d F N (upd M (fileA s).data.toList [xa.wrote za]) free 0 ∧ Gr F F w w' := by
  have hsm : s.size ≤ maxLen := by unfold maxLen; omega
  have HNE := hidn (file_ne s)
  have HD := hidn h
  have HS := hidn hS
  have HA := hidn hA
  have HB := hidn hB
  have HnA := hidn hnA
  have HnB := hidn hnB
  have HBz := hidn hBz
  have hHv := fun wx => halves_any wx s hs
  clear hA hB hnA hnB hBz
  go_enter Tryd.func21, Tryd.ntmps21
  go_wp2_with fail
  refine (pairMade _ d F N M free 1 HD.out hM0).mono ?_
  rintro e w1 ⟨rfl, hb1⟩
  go_wp2_with fail
  refine (hHv _).mono ?_
  rintro e w4 ⟨rfl, hb4⟩
  have hb14 : Below w.heap.size w w4 := hb1.trans (hb4.mono hb1.size)
  have HD4 := hidn (HD.out.below hb14)
  have HG4 := hidn (Gr.of (Keeps.of_below (F := F) hb14))
  clear hb1 hb4 hb14 hHv h hS
  obtain ⟨fa, hfa⟩ : ∃ fa, fa = fileA s := ⟨_, rfl⟩
  obtain ⟨fb, hfb⟩ : ∃ fb, fb = fileB s := ⟨_, rfl⟩
  rw [← hfa] at HNE HA HnA HZA
  rw [← hfb] at HNE HB HnB HZB
  rw [← hfa, ← hfb]
  have HFA := hidn hfa
  have HFB := hidn hfb
  clear hfa hfb
  have hsA : fa.size ≤ maxLen := by have := (name_size HnA.out).2; unfold maxLen; omega
  have hsB : fb.size ≤ maxLen := by have := (name_size HnB.out).2; unfold maxLen; omega
  have hi0 : ∀ wx : World, (Instr.index 60 (.agg #[.string fa, .string fb]) (.int .i64 0)).run Tryd.prog wx = .ok (.string fa) wx := fun wx => by kernel_rfl
  have hi1 : ∀ wx : World, (Instr.index 60 (.agg #[.string fa, .string fb]) (.int .i64 1)).run Tryd.prog wx = .ok (.string fb) wx := fun wx => by kernel_rfl
  go_wp2_with fail
  go_loopw [20] (fun iv wr => ∃ k : Nat, k ≤ 2 ∧ iv = .int .i64 k ∧ Hid (Gr F F w wr) ∧ ((k = 0 ∧ Hid (DiskOf wr d F N M free 1)))) (fun iv _ => 2 - (intOf iv).toNat)
  case atStart => exact ⟨0, by omega, rfl, HG4, ⟨rfl, HD4⟩⟩
  case round =>
    obtain ⟨k, hk, rfl, HGk, ⟨rfl, HDk⟩⟩ := hrel
    go_wp2_with fail
    refine (pairWrite_old _ d F N _ free 1 HDk.out (HS.out.gr HGk.out) fa HnA.out 0 1 0 g (hidn (by rw [HA.out]; rfl)) (by omega) (by omega) rfl a len cap p za (HBz.out.gr HGk.out).1 hlen hg HZA (by omega) (by omega) (by omega) xa (hidn (by rw [HA.out]; rfl))).mono ?_
    rw [HA.out, List.set_cons_zero]
    rw [show burnt 1 = 0 from rfl]
    rintro e w6 ⟨rfl, hD6, hG6⟩
    have HD6 := hidn hD6
    have HG6 := hidn (HGk.out.trans hG6)
    clear hD6 hG6
    go_wp2_with fail
    refine (sync_dead _ d F N _ free HD6.out fa hsA (by rw [upd_same]; simp)).mono ?_
    rintro e w7 ⟨rfl, rfl⟩
    go_wp2
    go_ret
    have h1 := HD6.out
    rw [HFA.out] at h1
    exact ⟨rfl, h1, HG6.out⟩

set_option maxHeartbeats 2000000 in
theorem put_old2 (w : World) (d : Nat) (F : Nat → Prop) (N : Nat) (M : List UInt8 → List Ext) (free : Int) (h : DiskOf w d F N M free 2) (hS : Sound5 w F) (hM0 : M [] = []) (s : ByteArray) (hs : s.size ≤ 1000) (hnA : nameB (fileA s).data.toList = true) (hnB : nameB (fileB s).data.toList = true) (xa xb : Ext) (hA : M (fileA s).data.toList = [xa]) (hB : M (fileB s).data.toList = [xb])
    (g : Nat) (hg : g ≤ 4611686018427387904) (a : Option Addr) (len cap : Nat) (p : List Nat) (hBz : BsF F w a len p) (hlen : len ≤ 106) (za zb : List Nat) (HZA : Hid (za = frameB (nums (fileA s)) 0 g p)) (HZB : Hid (zb = frameB (nums (fileB s)) 0 g p)) :
    Calls Tryd.prog 21 #[.pointer (some ⟨d, 0, none⟩), .string s, .int .i64 0, .int .i64 g, .slice a len cap] w fun e w' => e = .returned (.int .i64 31) ∧ DiskOf w' d F N (upd M (fileA s).data.toList [(xa.wrote za).synced]) free 0 ∧ Gr F F w w' := by
  have hsm : s.size ≤ maxLen := by unfold maxLen; omega
  have HNE := hidn (file_ne s)
  have HD := hidn h
  have HS := hidn hS
  have HA := hidn hA
  have HB := hidn hB
  have HnA := hidn hnA
  have HnB := hidn hnB
  have HBz := hidn hBz
  have hHv := fun wx => halves_any wx s hs
  clear hA hB hnA hnB hBz
  go_enter Tryd.func21, Tryd.ntmps21
  go_wp2_with fail
  refine (pairMade _ d F N M free 2 HD.out hM0).mono ?_
  rintro e w1 ⟨rfl, hb1⟩
  go_wp2_with fail
  refine (hHv _).mono ?_
  rintro e w4 ⟨rfl, hb4⟩
  have hb14 : Below w.heap.size w w4 := hb1.trans (hb4.mono hb1.size)
  have HD4 := hidn (HD.out.below hb14)
  have HG4 := hidn (Gr.of (Keeps.of_below (F := F) hb14))
  clear hb1 hb4 hb14 hHv h hS
  obtain ⟨fa, hfa⟩ : ∃ fa, fa = fileA s := ⟨_, rfl⟩
  obtain ⟨fb, hfb⟩ : ∃ fb, fb = fileB s := ⟨_, rfl⟩
  rw [← hfa] at HNE HA HnA HZA
  rw [← hfb] at HNE HB HnB HZB
  rw [← hfa, ← hfb]
  have HFA := hidn hfa
  have HFB := hidn hfb
  clear hfa hfb
  have hsA : fa.size ≤ maxLen := by have := (name_size HnA.out).2; unfold maxLen; omega
  have hsB : fb.size ≤ maxLen := by have := (name_size HnB.out).2; unfold maxLen; omega
  have hi0 : ∀ wx : World, (Instr.index 60 (.agg #[.string fa, .string fb]) (.int .i64 0)).run Tryd.prog wx = .ok (.string fa) wx := fun wx => by kernel_rfl
  have hi1 : ∀ wx : World, (Instr.index 60 (.agg #[.string fa, .string fb]) (.int .i64 1)).run Tryd.prog wx = .ok (.string fb) wx := fun wx => by kernel_rfl
  go_wp2_with fail
  go_loopw [20] (fun iv wr => ∃ k : Nat, k ≤ 2 ∧ iv = .int .i64 k ∧ Hid (Gr F F w wr) ∧ ((k = 0 ∧ Hid (DiskOf wr d F N M free 2)) ∨ (k = 1 ∧ Hid (DiskOf wr d F N (upd M fa.data.toList [(xa.wrote za).synced]) free 0)))) (fun iv _ => 2 - (intOf iv).toNat)
  case atStart => exact ⟨0, by omega, rfl, HG4, Or.inl ⟨rfl, HD4⟩⟩
  case round =>
    obtain ⟨k, hk, rfl, HGk, (⟨rfl, HDk⟩ | ⟨rfl, HDk⟩)⟩ := hrel
    · go_wp2_with fail
      refine (pairWrite_old _ d F N _ free 2 HDk.out (HS.out.gr HGk.out) fa HnA.out 0 1 0 g (hidn (by rw [HA.out]; rfl)) (by omega) (by omega) rfl a len cap p za (HBz.out.gr HGk.out).1 hlen hg HZA (by omega) (by omega) (by omega) xa (hidn (by rw [HA.out]; rfl))).mono ?_
      rw [HA.out, List.set_cons_zero]
      rw [show burnt 2 = 1 from rfl]
      rintro e w6 ⟨rfl, hD6, hG6⟩
      have HD6 := hidn hD6
      have HG6 := hidn (HGk.out.trans hG6)
      clear hD6 hG6
      go_wp2_with fail
      refine (sync_disk _ d F N _ free 1 HD6.out fa hsA (by rw [upd_same]; simp) (by omega) (by omega) (by omega)).mono ?_
      rw [upd_upd, upd_same, show burnt 1 = 0 from rfl]
      rintro e w7 ⟨rfl, hD7, hG7⟩
      have HD7 := hidn hD7
      have HG7 := hidn (HG6.out.trans hG7)
      clear hD7 hG7
      go_wp2
      go_roundw
      case rel => exact ⟨1, by omega, by first | rfl | go_num | simp, HG7, Or.inr ⟨rfl, HD7⟩⟩
      case measure => simp [intOf]
    · go_wp2_with fail
      refine (pairWrite_dead _ d F N _ free HDk.out (HS.out.gr HGk.out) fb HnB.out 0 1 g (hidn (by rw [upd_other _ _ _ _ HNE.out, HB.out]; rfl)) (by omega) (by omega) a len cap p (HBz.out.gr HGk.out).1 hlen hg).mono ?_
      rintro e w6 ⟨rfl, hb6⟩
      have HD6 := hidn (HDk.out.below hb6)
      have HG6 := hidn (HGk.out.trans (Gr.of (Keeps.of_below hb6)))
      clear hb6
      go_wp2
      go_ret
      have h1 := HD6.out
      rw [HFA.out] at h1
      exact ⟨rfl, h1, HG6.out⟩

set_option maxHeartbeats 2000000 in
theorem put_old3 (w : World) (d : Nat) (F : Nat → Prop) (N : Nat) (M : List UInt8 → List Ext) (free : Int) (h : DiskOf w d F N M free 3) (hS : Sound5 w F) (hM0 : M [] = []) (s : ByteArray) (hs : s.size ≤ 1000) (hnA : nameB (fileA s).data.toList = true) (hnB : nameB (fileB s).data.toList = true) (xa xb : Ext) (hA : M (fileA s).data.toList = [xa]) (hB : M (fileB s).data.toList = [xb])
    (g : Nat) (hg : g ≤ 4611686018427387904) (a : Option Addr) (len cap : Nat) (p : List Nat) (hBz : BsF F w a len p) (hlen : len ≤ 106) (za zb : List Nat) (HZA : Hid (za = frameB (nums (fileA s)) 0 g p)) (HZB : Hid (zb = frameB (nums (fileB s)) 0 g p)) :
    Calls Tryd.prog 21 #[.pointer (some ⟨d, 0, none⟩), .string s, .int .i64 0, .int .i64 g, .slice a len cap] w fun e w' => e = .returned (.int .i64 31) ∧ DiskOf w' d F N (upd (upd M (fileA s).data.toList [(xa.wrote za).synced]) (fileB s).data.toList [xb.wrote zb]) free 0 ∧ Gr F F w w' := by
  have hsm : s.size ≤ maxLen := by unfold maxLen; omega
  have HNE := hidn (file_ne s)
  have HD := hidn h
  have HS := hidn hS
  have HA := hidn hA
  have HB := hidn hB
  have HnA := hidn hnA
  have HnB := hidn hnB
  have HBz := hidn hBz
  have hHv := fun wx => halves_any wx s hs
  clear hA hB hnA hnB hBz
  go_enter Tryd.func21, Tryd.ntmps21
  go_wp2_with fail
  refine (pairMade _ d F N M free 3 HD.out hM0).mono ?_
  rintro e w1 ⟨rfl, hb1⟩
  go_wp2_with fail
  refine (hHv _).mono ?_
  rintro e w4 ⟨rfl, hb4⟩
  have hb14 : Below w.heap.size w w4 := hb1.trans (hb4.mono hb1.size)
  have HD4 := hidn (HD.out.below hb14)
  have HG4 := hidn (Gr.of (Keeps.of_below (F := F) hb14))
  clear hb1 hb4 hb14 hHv h hS
  obtain ⟨fa, hfa⟩ : ∃ fa, fa = fileA s := ⟨_, rfl⟩
  obtain ⟨fb, hfb⟩ : ∃ fb, fb = fileB s := ⟨_, rfl⟩
  rw [← hfa] at HNE HA HnA HZA
  rw [← hfb] at HNE HB HnB HZB
  rw [← hfa, ← hfb]
  have HFA := hidn hfa
  have HFB := hidn hfb
  clear hfa hfb
  have hsA : fa.size ≤ maxLen := by have := (name_size HnA.out).2; unfold maxLen; omega
  have hsB : fb.size ≤ maxLen := by have := (name_size HnB.out).2; unfold maxLen; omega
  have hi0 : ∀ wx : World, (Instr.index 60 (.agg #[.string fa, .string fb]) (.int .i64 0)).run Tryd.prog wx = .ok (.string fa) wx := fun wx => by kernel_rfl
  have hi1 : ∀ wx : World, (Instr.index 60 (.agg #[.string fa, .string fb]) (.int .i64 1)).run Tryd.prog wx = .ok (.string fb) wx := fun wx => by kernel_rfl
  go_wp2_with fail
  go_loopw [20] (fun iv wr => ∃ k : Nat, k ≤ 2 ∧ iv = .int .i64 k ∧ Hid (Gr F F w wr) ∧ ((k = 0 ∧ Hid (DiskOf wr d F N M free 3)) ∨ (k = 1 ∧ Hid (DiskOf wr d F N (upd M fa.data.toList [(xa.wrote za).synced]) free 1)))) (fun iv _ => 2 - (intOf iv).toNat)
  case atStart => exact ⟨0, by omega, rfl, HG4, Or.inl ⟨rfl, HD4⟩⟩
  case round =>
    obtain ⟨k, hk, rfl, HGk, (⟨rfl, HDk⟩ | ⟨rfl, HDk⟩)⟩ := hrel
    · go_wp2_with fail
      refine (pairWrite_old _ d F N _ free 3 HDk.out (HS.out.gr HGk.out) fa HnA.out 0 1 0 g (hidn (by rw [HA.out]; rfl)) (by omega) (by omega) rfl a len cap p za (HBz.out.gr HGk.out).1 hlen hg HZA (by omega) (by omega) (by omega) xa (hidn (by rw [HA.out]; rfl))).mono ?_
      rw [HA.out, List.set_cons_zero]
      rw [show burnt 3 = 2 from rfl]
      rintro e w6 ⟨rfl, hD6, hG6⟩
      have HD6 := hidn hD6
      have HG6 := hidn (HGk.out.trans hG6)
      clear hD6 hG6
      go_wp2_with fail
      refine (sync_disk _ d F N _ free 2 HD6.out fa hsA (by rw [upd_same]; simp) (by omega) (by omega) (by omega)).mono ?_
      rw [upd_upd, upd_same, show burnt 2 = 1 from rfl]
      rintro e w7 ⟨rfl, hD7, hG7⟩
      have HD7 := hidn hD7
      have HG7 := hidn (HG6.out.trans hG7)
      clear hD7 hG7
      go_wp2
      go_roundw
      case rel => exact ⟨1, by omega, by first | rfl | go_num | simp, HG7, Or.inr ⟨rfl, HD7⟩⟩
      case measure => simp [intOf]
    · go_wp2_with fail
      refine (pairWrite_old _ d F N _ free 1 HDk.out (HS.out.gr HGk.out) fb HnB.out 0 1 0 g (hidn (by rw [upd_other _ _ _ _ HNE.out, HB.out]; rfl)) (by omega) (by omega) rfl a len cap p zb (HBz.out.gr HGk.out).1 hlen hg HZB (by omega) (by omega) (by omega) xb (hidn (by rw [upd_other _ _ _ _ HNE.out, HB.out]; rfl))).mono ?_
      rw [upd_other _ _ _ _ HNE.out, HB.out, List.set_cons_zero]
      rw [show burnt 1 = 0 from rfl]
      rintro e w6 ⟨rfl, hD6, hG6⟩
      have HD6 := hidn hD6
      have HG6 := hidn (HGk.out.trans hG6)
      clear hD6 hG6
      go_wp2_with fail
      refine (sync_dead _ d F N _ free HD6.out fb hsB (by rw [upd_same]; simp)).mono ?_
      rintro e w7 ⟨rfl, rfl⟩
      go_wp2
      go_ret
      have h1 := HD6.out
      rw [HFA.out, HFB.out] at h1
      exact ⟨rfl, h1, HG6.out⟩

set_option maxHeartbeats 2000000 in
theorem put_old4 (w : World) (d : Nat) (F : Nat → Prop) (N : Nat) (M : List UInt8 → List Ext) (free : Int) (h : DiskOf w d F N M free 4) (hS : Sound5 w F) (hM0 : M [] = []) (s : ByteArray) (hs : s.size ≤ 1000) (hnA : nameB (fileA s).data.toList = true) (hnB : nameB (fileB s).data.toList = true) (xa xb : Ext) (hA : M (fileA s).data.toList = [xa]) (hB : M (fileB s).data.toList = [xb])
    (g : Nat) (hg : g ≤ 4611686018427387904) (a : Option Addr) (len cap : Nat) (p : List Nat) (hBz : BsF F w a len p) (hlen : len ≤ 106) (za zb : List Nat) (HZA : Hid (za = frameB (nums (fileA s)) 0 g p)) (HZB : Hid (zb = frameB (nums (fileB s)) 0 g p)) :
    Calls Tryd.prog 21 #[.pointer (some ⟨d, 0, none⟩), .string s, .int .i64 0, .int .i64 g, .slice a len cap] w fun e w' => e = .returned (.int .i64 0) ∧ DiskOf w' d F N (upd (upd M (fileA s).data.toList [(xa.wrote za).synced]) (fileB s).data.toList [(xb.wrote zb).synced]) free 0 ∧ Gr F F w w' := by
  have hsm : s.size ≤ maxLen := by unfold maxLen; omega
  have HNE := hidn (file_ne s)
  have HD := hidn h
  have HS := hidn hS
  have HA := hidn hA
  have HB := hidn hB
  have HnA := hidn hnA
  have HnB := hidn hnB
  have HBz := hidn hBz
  have hHv := fun wx => halves_any wx s hs
  clear hA hB hnA hnB hBz
  go_enter Tryd.func21, Tryd.ntmps21
  go_wp2_with fail
  refine (pairMade _ d F N M free 4 HD.out hM0).mono ?_
  rintro e w1 ⟨rfl, hb1⟩
  go_wp2_with fail
  refine (hHv _).mono ?_
  rintro e w4 ⟨rfl, hb4⟩
  have hb14 : Below w.heap.size w w4 := hb1.trans (hb4.mono hb1.size)
  have HD4 := hidn (HD.out.below hb14)
  have HG4 := hidn (Gr.of (Keeps.of_below (F := F) hb14))
  clear hb1 hb4 hb14 hHv h hS
  obtain ⟨fa, hfa⟩ : ∃ fa, fa = fileA s := ⟨_, rfl⟩
  obtain ⟨fb, hfb⟩ : ∃ fb, fb = fileB s := ⟨_, rfl⟩
  rw [← hfa] at HNE HA HnA HZA
  rw [← hfb] at HNE HB HnB HZB
  rw [← hfa, ← hfb]
  have HFA := hidn hfa
  have HFB := hidn hfb
  clear hfa hfb
  have hsA : fa.size ≤ maxLen := by have := (name_size HnA.out).2; unfold maxLen; omega
  have hsB : fb.size ≤ maxLen := by have := (name_size HnB.out).2; unfold maxLen; omega
  have hi0 : ∀ wx : World, (Instr.index 60 (.agg #[.string fa, .string fb]) (.int .i64 0)).run Tryd.prog wx = .ok (.string fa) wx := fun wx => by kernel_rfl
  have hi1 : ∀ wx : World, (Instr.index 60 (.agg #[.string fa, .string fb]) (.int .i64 1)).run Tryd.prog wx = .ok (.string fb) wx := fun wx => by kernel_rfl
  go_wp2_with fail
  go_loopw [20] (fun iv wr => ∃ k : Nat, k ≤ 2 ∧ iv = .int .i64 k ∧ Hid (Gr F F w wr) ∧ ((k = 0 ∧ Hid (DiskOf wr d F N M free 4)) ∨ (k = 1 ∧ Hid (DiskOf wr d F N (upd M fa.data.toList [(xa.wrote za).synced]) free 2)) ∨ (k = 2 ∧ Hid (DiskOf wr d F N (upd (upd M fa.data.toList [(xa.wrote za).synced]) fb.data.toList [(xb.wrote zb).synced]) free 0)))) (fun iv _ => 2 - (intOf iv).toNat)
  case atStart => exact ⟨0, by omega, rfl, HG4, Or.inl ⟨rfl, HD4⟩⟩
  case round =>
    obtain ⟨k, hk, rfl, HGk, (⟨rfl, HDk⟩ | ⟨rfl, HDk⟩ | ⟨rfl, HDk⟩)⟩ := hrel
    · go_wp2_with fail
      refine (pairWrite_old _ d F N _ free 4 HDk.out (HS.out.gr HGk.out) fa HnA.out 0 1 0 g (hidn (by rw [HA.out]; rfl)) (by omega) (by omega) rfl a len cap p za (HBz.out.gr HGk.out).1 hlen hg HZA (by omega) (by omega) (by omega) xa (hidn (by rw [HA.out]; rfl))).mono ?_
      rw [HA.out, List.set_cons_zero]
      rw [show burnt 4 = 3 from rfl]
      rintro e w6 ⟨rfl, hD6, hG6⟩
      have HD6 := hidn hD6
      have HG6 := hidn (HGk.out.trans hG6)
      clear hD6 hG6
      go_wp2_with fail
      refine (sync_disk _ d F N _ free 3 HD6.out fa hsA (by rw [upd_same]; simp) (by omega) (by omega) (by omega)).mono ?_
      rw [upd_upd, upd_same, show burnt 3 = 2 from rfl]
      rintro e w7 ⟨rfl, hD7, hG7⟩
      have HD7 := hidn hD7
      have HG7 := hidn (HG6.out.trans hG7)
      clear hD7 hG7
      go_wp2
      go_roundw
      case rel => exact ⟨1, by omega, by first | rfl | go_num | simp, HG7, Or.inr (Or.inl ⟨rfl, HD7⟩)⟩
      case measure => simp [intOf]
    · go_wp2_with fail
      refine (pairWrite_old _ d F N _ free 2 HDk.out (HS.out.gr HGk.out) fb HnB.out 0 1 0 g (hidn (by rw [upd_other _ _ _ _ HNE.out, HB.out]; rfl)) (by omega) (by omega) rfl a len cap p zb (HBz.out.gr HGk.out).1 hlen hg HZB (by omega) (by omega) (by omega) xb (hidn (by rw [upd_other _ _ _ _ HNE.out, HB.out]; rfl))).mono ?_
      rw [upd_other _ _ _ _ HNE.out, HB.out, List.set_cons_zero]
      rw [show burnt 2 = 1 from rfl]
      rintro e w6 ⟨rfl, hD6, hG6⟩
      have HD6 := hidn hD6
      have HG6 := hidn (HGk.out.trans hG6)
      clear hD6 hG6
      go_wp2_with fail
      refine (sync_disk _ d F N _ free 1 HD6.out fb hsB (by rw [upd_same]; simp) (by omega) (by omega) (by omega)).mono ?_
      rw [upd_upd, upd_same, show burnt 1 = 0 from rfl]
      rintro e w7 ⟨rfl, hD7, hG7⟩
      have HD7 := hidn hD7
      have HG7 := hidn (HG6.out.trans hG7)
      clear hD7 hG7
      go_wp2
      go_roundw
      case rel => exact ⟨2, by omega, by first | rfl | go_num | simp, HG7, Or.inr (Or.inr ⟨rfl, HD7⟩)⟩
      case measure => simp [intOf]
    · go_wp2
      go_ret
      have h1 := HDk.out
      rw [HFA.out, HFB.out] at h1
      exact ⟨rfl, h1, HGk.out⟩
end Go.Proofs.YtmoeoffjlicdjabDoor
