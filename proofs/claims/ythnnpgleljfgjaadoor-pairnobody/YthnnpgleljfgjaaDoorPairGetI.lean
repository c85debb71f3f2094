/- Pairs: Get at any index, where both extents are right, or neither is. -/
import Derived.Test.YthnnpgleljfgjaaDoorPairPut1
import Derived.Test.YthnnpgleljfgjaaDoorDiskRot
import Derived.Test.YthnnpgleljfgjaaDoorExtLaws
namespace Go.Proofs.YthnnpgleljfgjaaDoor
open Go.RowKit Go.Maps
set_option linter.unusedVariables false

set_option maxHeartbeats 2000000 in
theorem get_ith (w : World) (d : Nat) (F : Nat → Prop) (N : Nat) (M : List UInt8 → List Ext) (free fuse : Int) (h : DiskOf w d F N M free fuse) (hT : CrcTab w) (hM0 : M [] = []) (s : ByteArray) (hs : s.size ≤ 20) (i n : Nat) (xa xb : Ext) (hA : (M (fileA s).data.toList)[i]? = some xa) (hB : (M (fileB s).data.toList)[i]? = some xb) (hnA : n = (M (fileA s).data.toList).length) (hnB : n = (M (fileB s).data.toList).length)
    (za zb : List Nat) (HZA : Hid (za = xa.rd)) (HZB : Hid (zb = xb.rd)) (pa pb : List Nat) (ga gb la lb : Nat) (HOA : Hid (openB za (nums (fileA s)) (i : Int) = some (pa, ga))) (HOB : Hid (openB zb (nums (fileB s)) (i : Int) = some (pb, gb))) (hla : pa.length = la) (hlb : pb.length = lb) (hpa : ∀ x ∈ pa, x < 256) (hpb : ∀ x ∈ pb, x < 256) (hgg : gb ≤ ga) :
    Calls Tryd.prog 6 #[.pointer (some ⟨d, 0, none⟩), .string s, .int .i64 i] w fun e w' => ∃ a c, e = .returned (.tuple #[.slice a la c, .int .i64 ga, .int .i64 0]) ∧ Bs w' a la pa ∧ Below w.heap.size w w' := by
  have HD := hidn h
  have HA := hidn hA
  have HB := hidn hB
  have hHv := fun wx => halves_any wx s (by omega)
  have hsA : (fileA s).size ≤ maxLen := by
    have : (fileA s).size = s.size + 2 := by show (fileA s).data.size = _; rw [← Array.length_toList, fileA_list]; simp
    rw [this]; unfold maxLen; omega
  have hsB : (fileB s).size ≤ maxLen := by
    have : (fileB s).size = s.size + 2 := by show (fileB s).data.size = _; rw [← Array.length_toList, fileB_list]; simp
    rw [this]; unfold maxLen; omega
  have HLA := hidn hla
  have HLB := hidn hlb
  have HPA := hidn hpa
  have HPB := hidn hpb
  have hgt : decide (ga < gb) = false := by simp; omega
  have HnA := hidn hnA
  have HnB := hidn hnB
  have hin : i < n := by rw [hnA]; exact (List.getElem?_eq_some_iff.1 hA).1
  have HIN := hidn hin
  clear hnA hnB hin
  clear hA hB hla hlb hpa hpb hgg
  go_enter Tryd.func6, Tryd.ntmps6
  go_wp2_with fail
  refine (pairMade _ d F N M free fuse HD.out hM0).mono ?_
  rintro e w1 ⟨rfl, hb1⟩
  go_wp2_with fail
  refine (hHv _).mono ?_
  rintro e w4 ⟨rfl, hb4⟩
  have hb14 : Below w.heap.size w w4 := hb1.trans (hb4.mono hb1.size)
  clear hb1 hb4 hHv h
  obtain ⟨fa, hfa⟩ : ∃ fa, fa = fileA s := ⟨_, rfl⟩
  obtain ⟨fb, hfb⟩ : ∃ fb, fb = fileB s := ⟨_, rfl⟩
  rw [← hfa] at HA HOA hsA HnA
  rw [← hfb] at HB HOB hsB HnB
  rw [← hfa, ← hfb]
  clear hfa hfb
  have hi0 : ∀ wx : World, (Instr.index 52 (.agg #[.string fa, .string fb]) (.int .i64 0)).run Tryd.prog wx = .ok (.string fa) wx := fun wx => by kernel_rfl
  have hi1 : ∀ wx : World, (Instr.index 52 (.agg #[.string fa, .string fb]) (.int .i64 1)).run Tryd.prog wx = .ok (.string fb) wx := fun wx => by kernel_rfl
  go_wp2_with fail
  go_loopw [9, 10, 11, 24] (fun bv gv fv iv wr => ∃ k : Nat, iv = .int .i64 k ∧ Below w.heap.size w wr ∧ ((k = 0 ∧ bv = .slice none 0 0 ∧ gv = .int .i64 0 ∧ fv = .bool false) ∨ (k = 1 ∧ ∃ a c, bv = .slice a la c ∧ gv = .int .i64 ga ∧ fv = .bool true ∧ Bs wr a la pa) ∨ (k = 2 ∧ ∃ a c, bv = .slice a la c ∧ gv = .int .i64 ga ∧ fv = .bool true ∧ Bs wr a la pa))) (fun _ _ _ iv _ => 2 - (intOf iv).toNat)
  case atStart => exact ⟨0, rfl, hb14, Or.inl ⟨rfl, rfl, rfl, rfl⟩⟩
  case round =>
    obtain ⟨k, rfl, hbk, (⟨rfl, rfl, rfl, rfl⟩ | ⟨rfl, a1, c1, rfl, rfl, rfl, hB1⟩ | ⟨rfl, a1, c1, rfl, rfl, rfl, hB1⟩)⟩ := hrel
    · go_wp2_with fail
      refine (diskRead_some _ d F N M free fuse (HD.out.below hbk) fa hsA i n (i * 385) HnA HIN.out rfl za xa HA HZA).mono ?_
      rintro e w6 ⟨b6, rfl, hb6, hB6, hbl6⟩
      have hbk6 : Below w.heap.size w w6 := hbk.trans (hbl6.mono hbk.size)
      go_wp2_with fail
      refine (open_yes fa i b6 0 128 za _ hB6 (Nat.le_refl _) (hT.below hbk6) hsA pa ga la HLA.out HPA.out HOA).mono ?_
      rintro e w7 ⟨a7, c7, rfl, hB7, hb7⟩
      have hbk7 : Below w.heap.size w w7 := hbk6.trans (hb7.mono hbk6.size)
      clear hbk hbl6 hB6 hbk6 hb7
      go_wp2
      go_roundw
      case rel => exact ⟨1, by first | rfl | go_num | simp, hbk7, Or.inr (Or.inl ⟨rfl, a7, c7, rfl, rfl, rfl, hB7⟩)⟩
      case measure => simp [intOf]
    · go_wp2_with fail
      refine (diskRead_some _ d F N M free fuse (HD.out.below hbk) fb hsB i n (i * 385) HnB HIN.out rfl zb xb HB HZB).mono ?_
      rintro e w6 ⟨b6, rfl, hb6, hB6, hbl6⟩
      have hbk6 : Below w.heap.size w w6 := hbk.trans (hbl6.mono hbk.size)
      have hB16 := hB1.below hbl6
      go_wp2_with fail
      refine (open_yes fb i b6 0 128 zb _ hB6 (Nat.le_refl _) (hT.below hbk6) hsB pb gb lb HLB.out HPB.out HOB).mono ?_
      rintro e w7 ⟨a7, c7, rfl, hB7, hb7⟩
      have hbk7 : Below w.heap.size w w7 := hbk6.trans (hb7.mono hbk6.size)
      have hB17 := hB16.below hb7
      clear hbk hbl6 hB6 hbk6 hb7 hB16 hB1 hB7
      go_wp2
      go_roundw
      case rel => exact ⟨2, by first | rfl | go_num | simp, hbk7, Or.inr (Or.inr ⟨rfl, a1, c1, rfl, rfl, rfl, hB17⟩)⟩
      case measure => simp [intOf]
    · go_wp2
      go_ret3
      exact ⟨a1, c1, rfl, hB1, hbk⟩
set_option maxHeartbeats 2000000 in
theorem get_lost (w : World) (d : Nat) (F : Nat → Prop) (N : Nat) (M : List UInt8 → List Ext) (free fuse : Int) (h : DiskOf w d F N M free fuse) (hT : CrcTab w) (hM0 : M [] = []) (s : ByteArray) (hs : s.size ≤ 20) (i n : Nat) (xa xb : Ext) (hA : (M (fileA s).data.toList)[i]? = some xa) (hB : (M (fileB s).data.toList)[i]? = some xb) (hnA : n = (M (fileA s).data.toList).length) (hnB : n = (M (fileB s).data.toList).length)
    (za zb : List Nat) (HZA : Hid (za = xa.rd)) (HZB : Hid (zb = xb.rd)) (HOA : Hid (openB za (nums (fileA s)) (i : Int) = none)) (HOB : Hid (openB zb (nums (fileB s)) (i : Int) = none)) :
    Calls Tryd.prog 6 #[.pointer (some ⟨d, 0, none⟩), .string s, .int .i64 i] w fun e w' => e = .returned (.tuple #[.slice none 0 0, .int .i64 0, .int .i64 50]) ∧ Below w.heap.size w w' := by
  have HD := hidn h
  have HA := hidn hA
  have HB := hidn hB
  have hHv := fun wx => halves_any wx s (by omega)
  have hsA : (fileA s).size ≤ maxLen := by
    have : (fileA s).size = s.size + 2 := by show (fileA s).data.size = _; rw [← Array.length_toList, fileA_list]; simp
    rw [this]; unfold maxLen; omega
  have hsB : (fileB s).size ≤ maxLen := by
    have : (fileB s).size = s.size + 2 := by show (fileB s).data.size = _; rw [← Array.length_toList, fileB_list]; simp
    rw [this]; unfold maxLen; omega
  have HnA := hidn hnA
  have HnB := hidn hnB
  have hin : i < n := by rw [hnA]; exact (List.getElem?_eq_some_iff.1 hA).1
  have HIN := hidn hin
  clear hnA hnB hin
  clear hA hB
  go_enter Tryd.func6, Tryd.ntmps6
  go_wp2_with fail
  refine (pairMade _ d F N M free fuse HD.out hM0).mono ?_
  rintro e w1 ⟨rfl, hb1⟩
  go_wp2_with fail
  refine (hHv _).mono ?_
  rintro e w4 ⟨rfl, hb4⟩
  have hb14 : Below w.heap.size w w4 := hb1.trans (hb4.mono hb1.size)
  clear hb1 hb4 hHv h
  obtain ⟨fa, hfa⟩ : ∃ fa, fa = fileA s := ⟨_, rfl⟩
  obtain ⟨fb, hfb⟩ : ∃ fb, fb = fileB s := ⟨_, rfl⟩
  rw [← hfa] at HA HOA hsA HnA
  rw [← hfb] at HB HOB hsB HnB
  rw [← hfa, ← hfb]
  clear hfa hfb
  have hi0 : ∀ wx : World, (Instr.index 52 (.agg #[.string fa, .string fb]) (.int .i64 0)).run Tryd.prog wx = .ok (.string fa) wx := fun wx => by kernel_rfl
  have hi1 : ∀ wx : World, (Instr.index 52 (.agg #[.string fa, .string fb]) (.int .i64 1)).run Tryd.prog wx = .ok (.string fb) wx := fun wx => by kernel_rfl
  go_wp2_with fail
  go_loopw [9, 10, 11, 24] (fun bv gv fv iv wr => ∃ k : Nat, k ≤ 2 ∧ iv = .int .i64 k ∧ Below w.heap.size w wr ∧ bv = .slice none 0 0 ∧ gv = .int .i64 0 ∧ fv = .bool false) (fun _ _ _ iv _ => 2 - (intOf iv).toNat)
  case atStart => exact ⟨0, by omega, rfl, hb14, rfl, rfl, rfl⟩
  case round =>
    obtain ⟨k, hk, rfl, hbk, rfl, rfl, rfl⟩ := hrel
    match k, hk with
    | 0, _ =>
      go_wp2_with fail
      refine (diskRead_some _ d F N M free fuse (HD.out.below hbk) fa hsA i n (i * 385) HnA HIN.out rfl za xa HA HZA).mono ?_
      rintro e w6 ⟨b6, rfl, hb6, hB6, hbl6⟩
      have hbk6 : Below w.heap.size w w6 := hbk.trans (hbl6.mono hbk.size)
      go_wp2_with fail
      refine (open_no fa i b6 0 128 za _ hB6 (Nat.le_refl _) (hT.below hbk6) hsA HOA).mono ?_
      rintro e w7 ⟨rfl, hb7⟩
      have hbk7 : Below w.heap.size w w7 := hbk6.trans (hb7.mono hbk6.size)
      clear hbk hbl6 hB6 hbk6 hb7
      go_wp2
      go_roundw
      case rel => exact ⟨1, by omega, by first | rfl | go_num | simp, hbk7, rfl, rfl, rfl⟩
      case measure => simp [intOf]
    | 1, _ =>
      go_wp2_with fail
      refine (diskRead_some _ d F N M free fuse (HD.out.below hbk) fb hsB i n (i * 385) HnB HIN.out rfl zb xb HB HZB).mono ?_
      rintro e w6 ⟨b6, rfl, hb6, hB6, hbl6⟩
      have hbk6 : Below w.heap.size w w6 := hbk.trans (hbl6.mono hbk.size)
      go_wp2_with fail
      refine (open_no fb i b6 0 128 zb _ hB6 (Nat.le_refl _) (hT.below hbk6) hsB HOB).mono ?_
      rintro e w7 ⟨rfl, hb7⟩
      have hbk7 : Below w.heap.size w w7 := hbk6.trans (hb7.mono hbk6.size)
      clear hbk hbl6 hB6 hbk6 hb7
      go_wp2
      go_roundw
      case rel => exact ⟨2, by omega, by first | rfl | go_num | simp, hbk7, rfl, rfl, rfl⟩
      case measure => simp [intOf]
    | 2, _ =>
      go_wp2
      go_ret3
      exact ⟨rfl, hbk⟩

set_option maxHeartbeats 1000000 in
theorem mend_lost (w : World) (d : Nat) (s : ByteArray) (i : Nat)
    (hget : Calls Tryd.prog 6 #[.pointer (some ⟨d, 0, none⟩), .string s, .int .i64 i] w fun e w' => e = .returned (.tuple #[.slice none 0 0, .int .i64 0, .int .i64 50]) ∧ Below w.heap.size w w') :
    Calls Tryd.prog 7 #[.pointer (some ⟨d, 0, none⟩), .string s, .int .i64 i] w fun e w' => e = .returned (.tuple #[.bool false, .int .i64 50]) ∧ Below w.heap.size w w' := by
  go_enter Tryd.func7, Tryd.ntmps7
  go_wp2_with fail
  refine hget.mono ?_
  rintro e w1 ⟨rfl, hb1⟩
  go_wp2
  go_ret2
  exact ⟨rfl, hb1⟩
end Go.Proofs.YthnnpgleljfgjaaDoor
