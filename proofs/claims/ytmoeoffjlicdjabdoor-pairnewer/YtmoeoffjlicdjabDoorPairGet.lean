/- Pairs: Get, where both extents are right and the first one's generation is not the lesser one. -/
import Derived.Test.YtmoeoffjlicdjabDoorPairPut3
import Derived.Test.YtmoeoffjlicdjabDoorExtLaws
namespace Go.Proofs.YtmoeoffjlicdjabDoor
open Go.RowKit Go.Maps
set_option linter.unusedVariables false

set_option maxHeartbeats 2000000 in
theorem get_first (w : World) (d : Nat) (F : Nat → Prop) (N : Nat) (M : List UInt8 → List Ext) (free fuse : Int) (h : DiskOf w d F N M free fuse) (hT : CrcTab w) (hM0 : M [] = []) (s : ByteArray) (hs : s.size ≤ 20) (xa xb : Ext) (hA : M (fileA s).data.toList = [xa]) (hB : M (fileB s).data.toList = [xb])
    (za zb : List Nat) (HZA : Hid (za = xa.rd)) (HZB : Hid (zb = xb.rd)) (pa pb : List Nat) (ga gb la lb : Nat) (HOA : Hid (openB za (nums (fileA s)) 0 = some (pa, ga))) (HOB : Hid (openB zb (nums (fileB s)) 0 = some (pb, gb))) (hla : pa.length = la) (hlb : pb.length = lb) (hpa : ∀ x ∈ pa, x < 256) (hpb : ∀ x ∈ pb, x < 256) (hgg : gb ≤ ga) :
    Calls Tryd.prog 24 #[.pointer (some ⟨d, 0, none⟩), .string s, .int .i64 0] w fun e w' => ∃ a c, e = .returned (.tuple #[.slice a la c, .int .i64 ga, .int .i64 0]) ∧ Bs w' a la pa ∧ Below w.heap.size w w' := by
  have HD := hidn h
  have HA := hidn hA
  have HB := hidn hB
  have hHv := fun wx => halves_any wx s (by omega)
  have hsA : (fileA s).size ≤ maxLen := by
    have : (fileA s).size = s.size + 2 := by show (fileA s).data.size = _; rw [← Array.length_toList, fileA_list]; simp
    rw [this]; unfold maxLen; omega
  have hsB : (fileB s).size ≤ maxLen := by
    have : (fileB s).size = s.size + 2 := by show (fileB s).data.size = _; rw [← Array.length_toList, fileB_list]; simp
    rw [this]; unfold maxLen; omega
  have HLA := hidn hla
  have HLB := hidn hlb
  have HPA := hidn hpa
  have HPB := hidn hpb
  have hgt : decide (ga < gb) = false := by simp; omega
  clear hA hB hla hlb hpa hpb hgg
  go_enter Tryd.func24, Tryd.ntmps24
  go_wp2_with fail
  refine (pairMade _ d F N M free fuse HD.out hM0).mono ?_
  rintro e w1 ⟨rfl, hb1⟩
  go_wp2_with fail
  refine (hHv _).mono ?_
  rintro e w4 ⟨rfl, hb4⟩
  have hb14 : Below w.heap.size w w4 := hb1.trans (hb4.mono hb1.size)
  clear hb1 hb4 hHv h
  obtain ⟨fa, hfa⟩ : ∃ fa, fa = fileA s := ⟨_, rfl⟩
  obtain ⟨fb, hfb⟩ : ∃ fb, fb = fileB s := ⟨_, rfl⟩
  rw [← hfa] at HA HOA hsA
  rw [← hfb] at HB HOB hsB
  rw [← hfa, ← hfb]
  clear hfa hfb
  have hi0 : ∀ wx : World, (Instr.index 60 (.agg #[.string fa, .string fb]) (.int .i64 0)).run Tryd.prog wx = .ok (.string fa) wx := fun wx => by kernel_rfl
  have hi1 : ∀ wx : World, (Instr.index 60 (.agg #[.string fa, .string fb]) (.int .i64 1)).run Tryd.prog wx = .ok (.string fb) wx := fun wx => by kernel_rfl
  go_wp2_with fail
  go_loopw [9, 10, 11, 24] (fun bv gv fv iv wr => ∃ k : Nat, iv = .int .i64 k ∧ Below w.heap.size w wr ∧ ((k = 0 ∧ bv = .slice none 0 0 ∧ gv = .int .i64 0 ∧ fv = .bool false) ∨ (k = 1 ∧ ∃ a c, bv = .slice a la c ∧ gv = .int .i64 ga ∧ fv = .bool true ∧ Bs wr a la pa) ∨ (k = 2 ∧ ∃ a c, bv = .slice a la c ∧ gv = .int .i64 ga ∧ fv = .bool true ∧ Bs wr a la pa))) (fun _ _ _ iv _ => 2 - (intOf iv).toNat)
  case atStart => exact ⟨0, rfl, hb14, Or.inl ⟨rfl, rfl, rfl, rfl⟩⟩
  case round =>
    obtain ⟨k, rfl, hbk, (⟨rfl, rfl, rfl, rfl⟩ | ⟨rfl, a1, c1, rfl, rfl, rfl, hB1⟩ | ⟨rfl, a1, c1, rfl, rfl, rfl, hB1⟩)⟩ := hrel
    · go_wp2_with fail
      refine (diskRead_some _ d F N M free fuse (HD.out.below hbk) fa hsA 0 1 0 (hidn (by rw [HA.out]; rfl)) (by omega) rfl za xa (hidn (by rw [HA.out]; rfl)) HZA).mono ?_
      rintro e w6 ⟨b6, rfl, hb6, hB6, hbl6⟩
      have hbk6 : Below w.heap.size w w6 := hbk.trans (hbl6.mono hbk.size)
      go_wp2_with fail
      refine (open_yes fa 0 b6 0 128 za _ hB6 (Nat.le_refl _) (hT.below hbk6) hsA pa ga la HLA.out HPA.out HOA).mono ?_
      rintro e w7 ⟨a7, c7, rfl, hB7, hb7⟩
      have hbk7 : Below w.heap.size w w7 := hbk6.trans (hb7.mono hbk6.size)
      clear hbk hbl6 hB6 hbk6 hb7
      go_wp2
      go_roundw
      case rel => exact ⟨1, by first | rfl | go_num | simp, hbk7, Or.inr (Or.inl ⟨rfl, a7, c7, rfl, rfl, rfl, hB7⟩)⟩
      case measure => simp [intOf]
    · go_wp2_with fail
      refine (diskRead_some _ d F N M free fuse (HD.out.below hbk) fb hsB 0 1 0 (hidn (by rw [HB.out]; rfl)) (by omega) rfl zb xb (hidn (by rw [HB.out]; rfl)) HZB).mono ?_
      rintro e w6 ⟨b6, rfl, hb6, hB6, hbl6⟩
      have hbk6 : Below w.heap.size w w6 := hbk.trans (hbl6.mono hbk.size)
      have hB16 := hB1.below hbl6
      go_wp2_with fail
      refine (open_yes fb 0 b6 0 128 zb _ hB6 (Nat.le_refl _) (hT.below hbk6) hsB pb gb lb HLB.out HPB.out HOB).mono ?_
      rintro e w7 ⟨a7, c7, rfl, hB7, hb7⟩
      have hbk7 : Below w.heap.size w w7 := hbk6.trans (hb7.mono hbk6.size)
      have hB17 := hB16.below hb7
      clear hbk hbl6 hB6 hbk6 hb7 hB16 hB1 hB7
      go_wp2
      go_roundw
      case rel => exact ⟨2, by first | rfl | go_num | simp, hbk7, Or.inr (Or.inr ⟨rfl, a1, c1, rfl, rfl, rfl, hB17⟩)⟩
      case measure => simp [intOf]
    · go_wp2
      go_ret3
      exact ⟨a1, c1, rfl, hB1, hbk⟩
end Go.Proofs.YtmoeoffjlicdjabDoor
