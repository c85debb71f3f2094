/- Pairs: Drop, Store on a disk that has neither file; Need. -/
import Derived.Test.YthnnpgleljfgjaaDoorPairHalf1
namespace Go.Proofs.YthnnpgleljfgjaaDoor
open Go.RowKit Go.Maps
set_option linter.unusedVariables false

theorem fileA_list (s : ByteArray) : (fileA s).data.toList = s.data.toList ++ [46, 97] := by simp [fileA, ByteArray.data_append]
theorem fileB_list (s : ByteArray) : (fileB s).data.toList = s.data.toList ++ [46, 98] := by simp [fileB, ByteArray.data_append]
theorem file_ne (s : ByteArray) : (fileB s).data.toList ≠ (fileA s).data.toList := by
  rw [fileA_list, fileB_list]
  intro h
  have := List.append_cancel_left h
  simp at this

theorem bs_cut {w : World} {a : Option Addr} {len : Nat} {zs : List Nat} (h : Bs w a len zs) (m : Nat) (hm : m ≤ len) : Bs w a m (zs.take m) := by
  obtain ⟨hl, hx, hz, hn, hc⟩ := h
  refine ⟨by simp; omega, by omega, fun x hx => hz x (List.mem_of_mem_take hx), (fun h => by have := hn h; omega), fun x hx j hj => ?_⟩
  rw [hc x hx j (by omega)]
  simp [List.getD_eq_getElem?_getD, hj]
/-- The name 'x'. -/
def nmX : ByteArray := ⟨#[120]⟩
theorem nmX_A : nameB (fileA nmX).data.toList = true := by decide +kernel
theorem nmX_B : nameB (fileB nmX).data.toList = true := by decide +kernel

set_option maxHeartbeats 1000000 in
theorem drop_none (w : World) (d : Nat) (F : Nat → Prop) (N : Nat) (M : List UInt8 → List Ext) (free fuse : Int) (h : DiskOf w d F N M free fuse) (hM0 : M [] = []) (s : ByteArray) (hs : s.size ≤ 1000) (hA : M (fileA s).data.toList = []) (hB : M (fileB s).data.toList = []) :
    Calls Tryd.prog 10 #[.pointer (some ⟨d, 0, none⟩), .string s] w fun e w' => e = .returned (.int .i64 0) ∧ Below w.heap.size w w' := by
  have hsA : (fileA s).size ≤ maxLen := by
    have : (fileA s).size = s.size + 2 := by show (fileA s).data.size = _; rw [← Array.length_toList, fileA_list]; simp
    rw [this]; unfold maxLen; omega
  have hsB : (fileB s).size ≤ maxLen := by
    have : (fileB s).size = s.size + 2 := by show (fileB s).data.size = _; rw [← Array.length_toList, fileB_list]; simp
    rw [this]; unfold maxLen; omega
  have HA := hidn hA
  have HB := hidn hB
  clear hA hB
  go_enter Tryd.func10, Tryd.ntmps10
  go_wp2_with fail
  refine (pairMade _ d F N M free fuse h hM0).mono ?_
  rintro e w1 ⟨rfl, hb1⟩
  go_wp2_with fail
  refine (halves_any _ s hs).mono ?_
  rintro e w2 ⟨rfl, hb2⟩
  have hb12 : Below w.heap.size w w2 := hb1.trans (hb2.mono hb1.size)
  have hD2 := hidn (h.below hb12)
  clear h hb1 hb2
  generalize fileA s = fa at *
  generalize fileB s = fb at *
  have hi0 : ∀ wx : World, (Instr.index 52 (.agg #[.string fa, .string fb]) (.int .i64 0)).run Tryd.prog wx = .ok (.string fa) wx := fun wx => by kernel_rfl
  have hi1 : ∀ wx : World, (Instr.index 52 (.agg #[.string fa, .string fb]) (.int .i64 1)).run Tryd.prog wx = .ok (.string fb) wx := fun wx => by kernel_rfl
  go_wp2_with fail
  go_loopw [13] (fun iv wr => ∃ k : Nat, k ≤ 2 ∧ iv = .int .i64 k ∧ wr = w2) (fun iv _ => 2 - (intOf iv).toNat)
  case atStart => exact ⟨0, by omega, rfl, rfl⟩
  case round =>
    obtain ⟨k, hk, rfl, rfl⟩ := hrel
    match k, hk with
    | 0, _ =>
      go_wp2_with fail
      refine (remove_none _ d F N M free fuse hD2.out fa hsA HA.out).mono ?_
      rintro e w3 ⟨rfl, rfl⟩
      go_wp2
      go_roundw
      case rel => exact ⟨1, by omega, by first | rfl | go_num | simp, by first | rfl | trivial⟩
      case measure => simp [intOf]
    | 1, _ =>
      go_wp2_with fail
      refine (remove_none _ d F N M free fuse hD2.out fb hsB HB.out).mono ?_
      rintro e w3 ⟨rfl, rfl⟩
      go_wp2
      go_roundw
      case rel => exact ⟨2, by omega, by first | rfl | go_num | simp, by first | rfl | trivial⟩
      case measure => simp [intOf]
    | 2, _ =>
      go_wp2
      go_ret
      exact ⟨rfl, hb12⟩

set_option maxHeartbeats 2000000 in
theorem store_new (w : World) (d : Nat) (F : Nat → Prop) (N : Nat) (M : List UInt8 → List Ext) (free : Int) (h : DiskOf w d F N M free (-1)) (hS : Sound5 w F) (hM0 : M [] = []) (s : ByteArray) (hs : s.size ≤ 1000) (hnA : nameB (fileA s).data.toList = true) (hnB : nameB (fileB s).data.toList = true) (hA : M (fileA s).data.toList = []) (hB : M (fileB s).data.toList = [])
    (g : Nat) (hg : g ≤ 4611686018427387904) (a : Option Addr) (len cap : Nat) (zs : List Nat) (hBz : BsF F w a len zs) (hcap : len ≤ cap) (hlen : len ≤ 100000) (E : Nat) (HE : Hid (E = extB len)) (hN : N + E + E < maxLen) (hfr : (E : Int) + E ≤ free) (hfr2 : free ≤ 1000000) :
    Calls Tryd.prog 8 #[.pointer (some ⟨d, 0, none⟩), .string s, .int .i64 g, .slice a len cap] w fun e w' => e = .returned (.int .i64 0) ∧ ∃ F', DiskOf w' d F' (N + E + E) (upd (upd M (fileA s).data.toList ((fileL (fileA s) g zs E).map Ext.synced)) (fileB s).data.toList ((fileL (fileB s) g zs E).map Ext.synced)) (free - E - E) (-1) ∧ Gr F F' w w' := by
  have hsm : s.size ≤ maxLen := by unfold maxLen; omega
  have hne := file_ne s
  have HNE := hidn hne
  have HD := hidn h
  have HS := hidn hS
  have HA := hidn hA
  have HB := hidn hB
  have HnA := hidn hnA
  have HnB := hidn hnB
  have HBz := hidn hBz
  obtain ⟨fz, hfz⟩ : ∃ fz, fz = frameB (nums s) 0 g [] := ⟨_, rfl⟩
  have HFZ := hidn hfz
  have hHv := fun wx => halves_any wx s hs
  have hDr := fun (wx : World) (hx : DiskOf wx d F N M free (-1)) => drop_none wx d F N M free (-1) hx hM0 s hs hA hB
  clear hne hA hB hnA hnB hBz hfz
  go_enter Tryd.func8, Tryd.ntmps8
  go_wp2_with fail
  refine (pairMade _ d F N M free (-1) HD.out hM0).mono ?_
  rintro e w1 ⟨rfl, hb1⟩
  go_wp2_with fail
  refine (frame_bs s 0 g 0 g rfl rfl none 0 0 [] _ (Bs.nil _) (HS.out.tab.below hb1) hsm (by omega) hg (by omega) fz HFZ).mono ?_
  rintro e w2 ⟨b2, rfl, _, _, _, hb2⟩
  have hb12 : Below w.heap.size w w2 := hb1.trans (hb2.mono hb1.size)
  clear hb1 hb2
  go_wp2_with fail
  refine (hDr _ (HD.out.below hb12)).mono ?_
  rintro e w3 ⟨rfl, hb3⟩
  have hb13 : Below w.heap.size w w3 := hb12.trans (hb3.mono hb12.size)
  clear hb12 hb3
  go_wp2_with fail
  refine (hHv _).mono ?_
  rintro e w4 ⟨rfl, hb4⟩
  have hb14 : Below w.heap.size w w4 := hb13.trans (hb4.mono hb13.size)
  have HD4 := hidn (HD.out.below hb14)
  have HG4 := hidn (Gr.of (Keeps.of_below (F := F) hb14))
  clear hb13 hb4 hb14 hHv hDr h hS
  obtain ⟨fa, hfa⟩ : ∃ fa, fa = fileA s := ⟨_, rfl⟩
  obtain ⟨fb, hfb⟩ : ∃ fb, fb = fileB s := ⟨_, rfl⟩
  rw [← hfa] at HNE HA HnA
  rw [← hfb] at HNE HB HnB
  rw [← hfa, ← hfb]
  have HFA := hidn hfa
  have HFB := hidn hfb
  clear hfa hfb
  have hi0 : ∀ wx : World, (Instr.index 52 (.agg #[.string fa, .string fb]) (.int .i64 0)).run Tryd.prog wx = .ok (.string fa) wx := fun wx => by kernel_rfl
  have hi1 : ∀ wx : World, (Instr.index 52 (.agg #[.string fa, .string fb]) (.int .i64 1)).run Tryd.prog wx = .ok (.string fb) wx := fun wx => by kernel_rfl
  go_wp2_with fail
  go_loopw [35] (fun iv wr => ∃ (k : Nat) (F' : Nat → Prop), k ≤ 2 ∧ iv = .int .i64 k ∧ Hid (Gr F F' w wr) ∧ ((k = 0 ∧ Hid (DiskOf wr d F' N M free (-1))) ∨ (k = 1 ∧ Hid (DiskOf wr d F' (N + E) (upd M fa.data.toList ((fileL fa g zs E).map Ext.synced)) (free - E) (-1))) ∨
      (k = 2 ∧ Hid (DiskOf wr d F' (N + E + E) (upd (upd M fa.data.toList ((fileL fa g zs E).map Ext.synced)) fb.data.toList ((fileL fb g zs E).map Ext.synced)) (free - E - E) (-1))))) (fun iv _ => 2 - (intOf iv).toNat)
  case atStart => exact ⟨0, F, by omega, rfl, HG4, Or.inl ⟨rfl, HD4⟩⟩
  case round =>
    obtain ⟨k, F', hk, rfl, HGk, (⟨rfl, HDk⟩ | ⟨rfl, HDk⟩ | ⟨rfl, HDk⟩)⟩ := hrel
    · go_wp2_with fail
      refine (storeHalf_new _ d F' N M free HDk.out (HS.out.gr HGk.out) fa HnA.out HA.out g hg a len cap zs (HBz.out.gr HGk.out) hcap hlen E HE (by omega) (by omega) hfr2).mono ?_
      rintro e w6 ⟨rfl, F6, hD6, hG6⟩
      have HD6 := hidn hD6
      have HG6 := hidn (HGk.out.trans hG6)
      clear hD6 hG6
      go_wp2
      go_roundw
      case rel => exact ⟨1, F6, by omega, by first | rfl | go_num | simp, HG6, Or.inr (Or.inl ⟨rfl, HD6⟩)⟩
      case measure => simp [intOf]
    · go_wp2_with fail
      refine (storeHalf_new _ d F' (N + E) _ (free - E) HDk.out (HS.out.gr HGk.out) fb HnB.out (by rw [upd_other _ _ _ _ HNE.out]; exact HB.out) g hg a len cap zs (HBz.out.gr HGk.out) hcap hlen E HE (by omega) (by omega) (by omega)).mono ?_
      rintro e w6 ⟨rfl, F6, hD6, hG6⟩
      have HD6 := hidn hD6
      have HG6 := hidn (HGk.out.trans hG6)
      clear hD6 hG6
      go_wp2
      go_roundw
      case rel => exact ⟨2, F6, by omega, by first | rfl | go_num | simp, HG6, Or.inr (Or.inr ⟨rfl, HD6⟩)⟩
      case measure => simp [intOf]
    · go_wp2
      go_ret
      have h1 := HDk.out
      rw [HFA.out, HFB.out] at h1
      exact ⟨rfl, F', h1, HGk.out⟩

end Go.Proofs.YthnnpgleljfgjaaDoor