/- Pairs: Get at any index, where both extents are right, or neither is. -/
import Derived.Test.YtdigblglehchbaaDoorMe
import Derived.Test.YtdigblglehchbaaDoorDiskRot
import Derived.Test.YtdigblglehchbaaDoorExtLaws
namespace Go.Proofs.YtdigblglehchbaaDoor
open Go.RowKit Go.Maps
set_option linter.unusedVariables false

set_option maxHeartbeats 2000000 in
theorem get_ith (w : World) (d : Nat) (F : Nat → Prop) (N : Nat) (M : List UInt8 → List Ext) (free fuse : Int) (h : DiskOf w d F N M free fuse) (hT : CrcTab w) (hM0 : M [] = []) (s : ByteArray) (hs : s.size ≤ 20) (i n : Nat) (xa xb : Ext) (hA : (M (fileA s).data.toList)[i]? = some xa) (hB : (M (fileB s).data.toList)[i]? = some xb) (hnA : n = (M (fileA s).data.toList).length) (hnB : n = (M (fileB s).data.toList).length)
    (za zb : List Nat) (HZA : Hid (za = xa.rd)) (HZB : Hid (zb = xb.rd)) (pa pb : List Nat) (ga gb la lb : Nat) (HOA : Hid (openB za (nums (fileA s)) (i : Int) = some (pa, ga))) (HOB : Hid (openB zb (nums (fileB s)) (i : Int) = some (pb, gb))) (hla : pa.length = la) (hlb : pb.length = lb) (hpa : ∀ x ∈ pa, x < 256) (hpb : ∀ x ∈ pb, x < 256) (hgg : gb ≤ ga) :
    Calls Tryd.prog 26 #[.pointer (some ⟨d, 0, none⟩), .string s, .int .i64 i] w fun e w' => ∃ a c, e = .returned (.tuple #[.slice a la c, .int .i64 ga, .int .i64 0]) ∧ Bs w' a la pa ∧ Below w.heap.size w w' := by
  have HD := hidn h
  have HA := hidn hA
  have HB := hidn hB
  have hHv := fun wx => halves_any wx s (by omega)
  have hsA : (fileA s).size ≤ maxLen := by
    have : (fileA s).size = s.size + 2 := by show (fileA s).data.size = _; rw [← Array.length_toList, fileA_list]; simp
    rw [this]; unfold maxLen; omega
  have hsB : (fileB s).size ≤ maxLen := by
    have : (fileB s).size = s.size + 2 := by show (fileB s).data.size = _; rw [← Array.length_toList, fileB_list]; simp
    rw [this]; unfold maxLen; omega
  have HLA := hidn hla
  have HLB := hidn hlb
  have HPA := hidn hpa
  have HPB := hidn hpb
  have hgt : decide (ga < gb) = false := by simp; omega
  have HnA := hidn hnA
  have HnB := hidn hnB
  have hin : i < n := by rw [hnA]; exact (List.getElem?_eq_some_iff.1 hA).1
  have HIN := hidn hin
  clear hnA hnB hin
  clear hA hB hla hlb hpa hpb hgg
  go_enter Tryd.func26, Tryd.ntmps26
  go_wp2_with fail
  refine (pairMade _ d F N M free fuse HD.out hM0).mono ?_
  rintro e w1 ⟨rfl, hb1⟩
  go_wp2_with fail
  refine (hHv _).mono ?_
  rintro e w4 ⟨rfl, hb4⟩
  have hb14 : Below w.heap.size w w4 := hb1.trans (hb4.mono hb1.size)
  clear hb1 hb4 hHv h
  obtain ⟨fa, hfa⟩ : ∃ fa, fa = fileA s := ⟨_, rfl⟩
  obtain ⟨fb, hfb⟩ : ∃ fb, fb = fileB s := ⟨_, rfl⟩
  rw [← hfa] at HA HOA hsA HnA
  rw [← hfb] at HB HOB hsB HnB
  rw [← hfa, ← hfb]
  clear hfa hfb
  have hi0 : ∀ wx : World, (Instr.index 51 (.agg #[.string fa, .string fb]) (.int .i64 0)).run Tryd.prog wx = .ok (.string fa) wx := fun wx => by kernel_rfl
  have hi1 : ∀ wx : World, (Instr.index 51 (.agg #[.string fa, .string fb]) (.int .i64 1)).run Tryd.prog wx = .ok (.string fb) wx := fun wx => by kernel_rfl
  go_wp2_with fail
  go_loopw [9, 10, 11, 24] (fun bv gv fv iv wr => ∃ k : Nat, iv = .int .i64 k ∧ Below w.heap.size w wr ∧ ((k = 0 ∧ bv = .slice none 0 0 ∧ gv = .int .i64 0 ∧ fv = .bool false) ∨ (k = 1 ∧ ∃ a c, bv = .slice a la c ∧ gv = .int .i64 ga ∧ fv = .bool true ∧ Bs wr a la pa) ∨ (k = 2 ∧ ∃ a c, bv = .slice a la c ∧ gv = .int .i64 ga ∧ fv = .bool true ∧ Bs wr a la pa))) (fun _ _ _ iv _ => 2 - (intOf iv).toNat)
  case atStart => exact ⟨0, rfl, hb14, Or.inl ⟨rfl, rfl, rfl, rfl⟩⟩
  case round =>
    obtain ⟨k, rfl, hbk, (⟨rfl, rfl, rfl, rfl⟩ | ⟨rfl, a1, c1, rfl, rfl, rfl, hB1⟩ | ⟨rfl, a1, c1, rfl, rfl, rfl, hB1⟩)⟩ := hrel
    · go_wp2_with fail
      refine (diskRead_some _ d F N M free fuse (HD.out.below hbk) fa hsA i n (i * 385) HnA HIN.out rfl za xa HA HZA).mono ?_
      rintro e w6 ⟨b6, rfl, hb6, hB6, hbl6⟩
      have hbk6 : Below w.heap.size w w6 := hbk.trans (hbl6.mono hbk.size)
      go_wp2_with fail
      refine (open_yes fa i b6 0 128 za _ hB6 (Nat.le_refl _) (hT.below hbk6) hsA pa ga la HLA.out HPA.out HOA).mono ?_
      rintro e w7 ⟨a7, c7, rfl, hB7, hb7⟩
      have hbk7 : Below w.heap.size w w7 := hbk6.trans (hb7.mono hbk6.size)
      clear hbk hbl6 hB6 hbk6 hb7
      go_wp2
      go_roundw
      case rel => exact ⟨1, by first | rfl | go_num | simp, hbk7, Or.inr (Or.inl ⟨rfl, a7, c7, rfl, rfl, rfl, hB7⟩)⟩
      case measure => simp [intOf]
    · go_wp2_with fail
      refine (diskRead_some _ d F N M free fuse (HD.out.below hbk) fb hsB i n (i * 385) HnB HIN.out rfl zb xb HB HZB).mono ?_
      rintro e w6 ⟨b6, rfl, hb6, hB6, hbl6⟩
      have hbk6 : Below w.heap.size w w6 := hbk.trans (hbl6.mono hbk.size)
      have hB16 := hB1.below hbl6
      go_wp2_with fail
      refine (open_yes fb i b6 0 128 zb _ hB6 (Nat.le_refl _) (hT.below hbk6) hsB pb gb lb HLB.out HPB.out HOB).mono ?_
      rintro e w7 ⟨a7, c7, rfl, hB7, hb7⟩
      have hbk7 : Below w.heap.size w w7 := hbk6.trans (hb7.mono hbk6.size)
      have hB17 := hB16.below hb7
      clear hbk hbl6 hB6 hbk6 hb7 hB16 hB1 hB7
      go_wp2
      go_roundw
      case rel => exact ⟨2, by first | rfl | go_num | simp, hbk7, Or.inr (Or.inr ⟨rfl, a1, c1, rfl, rfl, rfl, hB17⟩)⟩
      case measure => simp [intOf]
    · go_wp2
      go_ret3
      exact ⟨a1, c1, rfl, hB1, hbk⟩
set_option maxHeartbeats 2000000 in
theorem get_lost (w : World) (d : Nat) (F : Nat → Prop) (N : Nat) (M : List UInt8 → List Ext) (free fuse : Int) (h : DiskOf w d F N M free fuse) (hT : CrcTab w) (hM0 : M [] = []) (s : ByteArray) (hs : s.size ≤ 20) (i n : Nat) (xa xb : Ext) (hA : (M (fileA s).data.toList)[i]? = some xa) (hB : (M (fileB s).data.toList)[i]? = some xb) (hnA : n = (M (fileA s).data.toList).length) (hnB : n = (M (fileB s).data.toList).length)
    (za zb : List Nat) (HZA : Hid (za = xa.rd)) (HZB : Hid (zb = xb.rd)) (HOA : Hid (openB za (nums (fileA s)) (i : Int) = none)) (HOB : Hid (openB zb (nums (fileB s)) (i : Int) = none)) :
    Calls Tryd.prog 26 #[.pointer (some ⟨d, 0, none⟩), .string s, .int .i64 i] w fun e w' => e = .returned (.tuple #[.slice none 0 0, .int .i64 0, .int .i64 50]) ∧ Below w.heap.size w w' := by
  have HD := hidn h
  have HA := hidn hA
  have HB := hidn hB
  have hHv := fun wx => halves_any wx s (by omega)
  have hsA : (fileA s).size ≤ maxLen := by
    have : (fileA s).size = s.size + 2 := by show (fileA s).data.size = _; rw [← Array.length_toList, fileA_list]; simp
    rw [this]; unfold maxLen; omega
  have hsB : (fileB s).size ≤ maxLen := by
    have : (fileB s).size = s.size + 2 := by show (fileB s).data.size = _; rw [← Array.length_toList, fileB_list]; simp
    rw [this]; unfold maxLen; omega
  have HnA := hidn hnA
  have HnB := hidn hnB
  have hin : i < n := by rw [hnA]; exact (List.getElem?_eq_some_iff.1 hA).1
  have HIN := hidn hin
  clear hnA hnB hin
  clear hA hB
  go_enter Tryd.func26, Tryd.ntmps26
  go_wp2_with fail
  refine (pairMade _ d F N M free fuse HD.out hM0).mono ?_
  rintro e w1 ⟨rfl, hb1⟩
  go_wp2_with fail
  refine (hHv _).mono ?_
  rintro e w4 ⟨rfl, hb4⟩
  have hb14 : Below w.heap.size w w4 := hb1.trans (hb4.mono hb1.size)
  clear hb1 hb4 hHv h
  obtain ⟨fa, hfa⟩ : ∃ fa, fa = fileA s := ⟨_, rfl⟩
  obtain ⟨fb, hfb⟩ : ∃ fb, fb = fileB s := ⟨_, rfl⟩
  rw [← hfa] at HA HOA hsA HnA
  rw [← hfb] at HB HOB hsB HnB
  rw [← hfa, ← hfb]
  clear hfa hfb
  have hi0 : ∀ wx : World, (Instr.index 51 (.agg #[.string fa, .string fb]) (.int .i64 0)).run Tryd.prog wx = .ok (.string fa) wx := fun wx => by kernel_rfl
  have hi1 : ∀ wx : World, (Instr.index 51 (.agg #[.string fa, .string fb]) (.int .i64 1)).run Tryd.prog wx = .ok (.string fb) wx := fun wx => by kernel_rfl
  go_wp2_with fail
  go_loopw [9, 10, 11, 24] (fun bv gv fv iv wr => ∃ k : Nat, k ≤ 2 ∧ iv = .int .i64 k ∧ Below w.heap.size w wr ∧ bv = .slice none 0 0 ∧ gv = .int .i64 0 ∧ fv = .bool false) (fun _ _ _ iv _ => 2 - (intOf iv).toNat)
  case atStart => exact ⟨0, by omega, rfl, hb14, rfl, rfl, rfl⟩
  case round =>
    obtain ⟨k, hk, rfl, hbk, rfl, rfl, rfl⟩ := hrel
    match k, hk with
    | 0, _ =>
      go_wp2_with fail
      refine (diskRead_some _ d F N M free fuse (HD.out.below hbk) fa hsA i n (i * 385) HnA HIN.out rfl za xa HA HZA).mono ?_
      rintro e w6 ⟨b6, rfl, hb6, hB6, hbl6⟩
      have hbk6 : Below w.heap.size w w6 := hbk.trans (hbl6.mono hbk.size)
      go_wp2_with fail
      refine (open_no fa i b6 0 128 za _ hB6 (Nat.le_refl _) (hT.below hbk6) hsA HOA).mono ?_
      rintro e w7 ⟨rfl, hb7⟩
      have hbk7 : Below w.heap.size w w7 := hbk6.trans (hb7.mono hbk6.size)
      clear hbk hbl6 hB6 hbk6 hb7
      go_wp2
      go_roundw
      case rel => exact ⟨1, by omega, by first | rfl | go_num | simp, hbk7, rfl, rfl, rfl⟩
      case measure => simp [intOf]
    | 1, _ =>
      go_wp2_with fail
      refine (diskRead_some _ d F N M free fuse (HD.out.below hbk) fb hsB i n (i * 385) HnB HIN.out rfl zb xb HB HZB).mono ?_
      rintro e w6 ⟨b6, rfl, hb6, hB6, hbl6⟩
      have hbk6 : Below w.heap.size w w6 := hbk.trans (hbl6.mono hbk.size)
      go_wp2_with fail
      refine (open_no fb i b6 0 128 zb _ hB6 (Nat.le_refl _) (hT.below hbk6) hsB HOB).mono ?_
      rintro e w7 ⟨rfl, hb7⟩
      have hbk7 : Below w.heap.size w w7 := hbk6.trans (hb7.mono hbk6.size)
      clear hbk hbl6 hB6 hbk6 hb7
      go_wp2
      go_roundw
      case rel => exact ⟨2, by omega, by first | rfl | go_num | simp, hbk7, rfl, rfl, rfl⟩
      case measure => simp [intOf]
    | 2, _ =>
      go_wp2
      go_ret3
      exact ⟨rfl, hbk⟩

set_option maxHeartbeats 1000000 in
theorem mend_lost (w : World) (d : Nat) (s : ByteArray) (i : Nat)
    (hget : Calls Tryd.prog 26 #[.pointer (some ⟨d, 0, none⟩), .string s, .int .i64 i] w fun e w' => e = .returned (.tuple #[.slice none 0 0, .int .i64 0, .int .i64 50]) ∧ Below w.heap.size w w') :
    Calls Tryd.prog 13 #[.pointer (some ⟨d, 0, none⟩), .string s, .int .i64 i] w fun e w' => e = .returned (.tuple #[.bool false, .int .i64 50]) ∧ Below w.heap.size w w' := by
  go_enter Tryd.func13, Tryd.ntmps13
  go_wp2_with fail
  refine hget.mono ?_
  rintro e w1 ⟨rfl, hb1⟩
  go_wp2
  go_ret2
  exact ⟨rfl, hb1⟩
end Go.Proofs.YtdigblglehchbaaDoor

namespace Go.Proofs.YtdigblglehchbaaDoor
open Go.RowKit Go.Maps
set_option linter.unusedVariables false

theorem there_below {w w' : World} {b o n : Nat} (h : w.there b o n) (hb : Below w.heap.size w w') (hlt : b < w.heap.size) : w'.there b o n := by
  intro j hj
  have h1 := h j hj
  exact ⟨by rw [hb.cell (p := ⟨b, o + j, none⟩) hlt]; exact h1.1, by rw [hb.frozen (p := ⟨b, o + j, none⟩) hlt]; exact h1.2⟩
theorem slice_from (tb T lo : Nat) (h : lo < T) (wx : World) : (Instr.slice 22 (.slice (some ⟨tb, 0, none⟩) T T) (some (.int .i64 (lo : Int))) none none).run Tryd.prog wx = .ok (.slice (some ⟨tb, lo, none⟩) (T - lo) (T - lo)) wx := by
  rw [run_slice_l (P := Tryd.prog) wx 22 (some ⟨tb, 0, none⟩) T T (by kernel_rfl) .i64 (lo : Int) (by omega) (by omega)]
  have hsz : (sizeOf (Tryd.prog.elem 22)).run Tryd.prog wx = .ok 1 wx := by kernel_rfl
  rw [hsz]
  simp only [Result.andThen, sliced, Int.toNat_natCast, Nat.mul_one]
  rw [if_neg (by omega)]
  simp [add_none]

theorem below_setCells {B : Nat} (b : Nat) (hB : B ≤ b) : ∀ (vs : List Value) (o : Nat) (w : World), Below B w (w.setCells b o vs)
  | [], _, w => Below.refl _ w
  | v :: r, o, w => ((Below.refl B w).setCell (p := ⟨b, o, none⟩) hB v).trans (below_setCells b hB r (o + 1) _)

set_option maxHeartbeats 4000000 in
theorem load_lost (w : World) (d : Nat) (F : Nat → Prop) (N : Nat) (M : List UInt8 → List Ext) (free fuse : Int) (h : DiskOf w d F N M free fuse) (hT : CrcTab w) (hM0 : M [] = []) (s : ByteArray) (hs : s.size ≤ 20) (g E K : Nat) (hE : E ≤ 1000) (hK : K < E) (hEA : E = (M (fileA s).data.toList).length) (hEB : E = (M (fileB s).data.toList).length)
    (hok : ∀ i, i < K → ∃ xa xb pa pb, (M (fileA s).data.toList)[i]? = some xa ∧ (M (fileB s).data.toList)[i]? = some xb ∧ openB xa.rd (nums (fileA s)) (i : Int) = some (pa, g) ∧ openB xb.rd (nums (fileB s)) (i : Int) = some (pb, g) ∧ pa.length = 106 ∧ (∀ x ∈ pa, x < 256) ∧ ∀ x ∈ pb, x < 256)
    (hlost : ∀ wx, Below w.heap.size w wx → Calls Tryd.prog 26 #[.pointer (some ⟨d, 0, none⟩), .string s, .int .i64 K] wx fun e w' => e = .returned (.tuple #[.slice none 0 0, .int .i64 0, .int .i64 50]) ∧ Below wx.heap.size wx w') :
    Calls Tryd.prog 10 #[.pointer (some ⟨d, 0, none⟩), .string s, .int .i64 g] w fun e w' => e = .returned (.tuple #[.slice none 0 0, .int .i64 50]) ∧ Below w.heap.size w w' := by
  have HD := hidn h
  have HOK := hidn hok
  have HLO := hidn hlost
  have HEA := hidn hEA
  have HEB := hidn hEB
  have hHv := fun wx => halves_any wx s (by omega)
  have hsA : (fileA s).size ≤ maxLen := by
    have : (fileA s).size = s.size + 2 := by show (fileA s).data.size = _; rw [← Array.length_toList, fileA_list]; simp
    rw [this]; unfold maxLen; omega
  have hsB : (fileB s).size ≤ maxLen := by
    have : (fileB s).size = s.size + 2 := by show (fileB s).data.size = _; rw [← Array.length_toList, fileB_list]; simp
    rw [this]; unfold maxLen; omega
  obtain ⟨T, hTT⟩ : ∃ T, T = E * 106 := ⟨_, rfl⟩
  have hwT : IntKind.i64.wrap ((E : Int) * 106) = (T : Int) := by rw [IntKind.wrap_i64]; omega
  obtain ⟨i0, hi, hz0, hz1, hz2⟩ := info_parts Tryd.info5
  obtain ⟨Z, hZ⟩ : ∃ Z, Z = madeCells (Value.int .u8 0).cells (((T : Nat) : Int).toNat * i0.size) := ⟨_, rfl⟩
  have hZs : Z.size = T := by rw [hZ, size_madeCells, hz1]; simp
  have hmk : ∀ W : World, (Instr.makeSlice 22 (.int .i64 (T : Int)) (.int .i64 (T : Int))).run Tryd.prog W = .ok (.slice (some ⟨W.heap.size, 0, none⟩) T T) (W.alloc (.cells Z 5)) := fun W => by
    have h := run_make (P := Tryd.prog) W 22 5 i0 (.int .u8 0) Tryd.underlying22 hi hz0 .i64 .i64 (T : Int) (T : Int) (by omega) (by omega) (by rw [hz2]; omega) (by omega)
    rw [← hZ] at h
    simpa using h
  have HZS := hidn hZs
  have HTT := hidn hTT
  have hTb : T ≤ 106000 := by rw [hTT]; omega
  have hE0 : 0 < E := by omega
  have hE0' : ((E : Int) == 0) = false := beq_eq_false_iff_ne.2 (by omega)
  clear hZ hZs hTT hEA hEB hok hlost
  go_enter Tryd.func10, Tryd.ntmps10
  go_wp2_with fail
  refine (pairMade _ d F N M free fuse HD.out hM0).mono ?_
  rintro e w1 ⟨rfl, hb1⟩
  go_wp2_with fail
  refine (hHv _).mono ?_
  rintro e w4 ⟨rfl, hb4⟩
  have hb14 : Below w.heap.size w w4 := hb1.trans (hb4.mono hb1.size)
  clear hb1 hb4 hHv h
  obtain ⟨fa, hfa⟩ : ∃ fa, fa = fileA s := ⟨_, rfl⟩
  obtain ⟨fb, hfb⟩ : ∃ fb, fb = fileB s := ⟨_, rfl⟩
  rw [← hfa] at HEA hsA
  rw [← hfb] at HEB hsB
  rw [← hfa, ← hfb]
  have HFA := hidn hfa
  have HFB := hidn hfb
  clear hfa hfb
  have hi0 : ∀ wx : World, (Instr.index 51 (.agg #[.string fa, .string fb]) (.int .i64 0)).run Tryd.prog wx = .ok (.string fa) wx := fun wx => by kernel_rfl
  have hi1 : ∀ wx : World, (Instr.index 51 (.agg #[.string fa, .string fb]) (.int .i64 1)).run Tryd.prog wx = .ok (.string fb) wx := fun wx => by kernel_rfl
  have HD4 := hidn (HD.out.below hb14)
  go_wp2_with fail
  go_loopw [8, 22] (fun cv iv wr => ∃ k : Nat, k ≤ 2 ∧ iv = .int .i64 k ∧ wr = w4 ∧ cv = .int .i64 (if k = 0 then (0 : Int) else (E : Int))) (fun _ iv _ => 2 - (intOf iv).toNat)
  case atStart => exact ⟨0, by omega, rfl, rfl, rfl⟩
  case round =>
    obtain ⟨k, hk, rfl, rfl, rfl⟩ := hrel
    match k, hk with
    | 0, _ =>
      go_wp2_with fail
      refine (extents_disk _ d F N M free fuse HD4.out fa hsA E HEA).mono ?_
      rintro e w6 ⟨rfl, rfl⟩
      go_wp2
      go_roundw
      case rel => exact ⟨1, by omega, by first | rfl | go_num | simp, by first | rfl | trivial, by first | rfl | simp⟩
      case measure => simp [intOf]
    | 1, _ =>
      go_wp2_with fail
      refine (extents_disk _ d F N M free fuse HD4.out fb hsB E HEB).mono ?_
      rintro e w6 ⟨rfl, rfl⟩
      go_wp2
      go_roundw
      case rel => exact ⟨2, by omega, by first | rfl | go_num | simp, by first | rfl | trivial, by first | rfl | simp⟩
      case measure => simp [intOf]
    | 2, _ =>
      go_wp2_with fail
      obtain ⟨tb, htb⟩ : ∃ tb, tb = wr.heap.size := ⟨_, rfl⟩
      obtain ⟨w5, hw5⟩ : ∃ w5, w5 = wr.alloc (.cells Z 5) := ⟨_, rfl⟩
      have hblk : w5.heap[tb]? = some (.cells Z 5 (0, 0)) := by rw [hw5, htb]; exact heap_alloc_new _ _
      have hb5 : Below w.heap.size w w5 := by rw [hw5]; exact hb14.alloc hb14.size _
      have hth : w5.there tb 0 T := by
        intro j hj
        rw [Nat.zero_add]
        refine ⟨?_, frozen_of_row _ _ j _ _ hblk⟩
        rw [cell_of_row _ _ _ _ _ _ hblk, Array.getElem?_eq_getElem (by rw [HZS.out]; exact hj)]
        rfl
      have hge : w.heap.size ≤ tb := by rw [htb]; exact hb14.size
      have hlt5 : tb < w5.heap.size := (Array.getElem?_eq_some_iff.1 hblk).1
      rw [← htb, ← hw5]
      simp only [show ((2 : Nat) : Int) = 2 from rfl]
      have HTH := hidn hth
      clear htb hw5 hblk hth hmk hi0 hi1
      go_loopw [12, 37] (fun ev iv wq => ∃ i lo : Nat, i ≤ K ∧ iv = .int .i64 i ∧ ev = .int .i64 lo ∧ Hid (lo = 106 * i) ∧ Below w.heap.size w wq ∧ Hid (wq.there tb 0 T) ∧ tb < wq.heap.size) (fun _ iv _ => K + 1 - (intOf iv).toNat)
      case atStart => exact ⟨0, 0, Nat.zero_le _, rfl, rfl, hidn rfl, hb5, HTH, hlt5⟩
      case round =>
        obtain ⟨i, lo, hi, rfl, rfl, HLOI, hbq, HTQ, hltq⟩ := hrel
        have hiE : decide (i < E) = true := by simp; omega
        by_cases hik : i < K
        · obtain ⟨xa, xb, pa, pb, q1, q2, q3, q4, q5, q6, q7⟩ := HOK.out i hik
          go_wp2_with fail
          refine (get_ith _ d F N M free fuse (HD.out.below hbq) (hT.below hbq) hM0 s hs i E xa xb q1 q2 (by rw [← HFA.out]; exact HEA.out) (by rw [← HFB.out]; exact HEB.out) xa.rd xb.rd (hidn rfl) (hidn rfl) pa pb g g 106 pb.length (hidn q3) (hidn q4) q5 rfl q6 q7 (Nat.le_refl _)).mono ?_
          rintro e w6 ⟨a6, c6, rfl, hB6, hb6⟩
          have hbq6 : Below w.heap.size w w6 := hbq.trans (hb6.mono hbq.size)
          have hth6 := there_below HTQ.out hb6 hltq
          have hlt6 : tb < w6.heap.size := Nat.lt_of_lt_of_le hltq hb6.size
          obtain ⟨b6, o6, rfl, _, _⟩ := hB6.pos (by omega)
          have hloT : lo + 106 ≤ T := by rw [HLOI.out, HTT.out]; omega
          have hsl := slice_from tb T lo (by omega)
          have hinfo : (Tryd.prog.info? 5).map (·.size) = some 1 := by kernel_rfl
          have hcp : ∀ ty, (Builtin.copy_ #[22, 22] ty #[.slice (some ⟨tb, lo, none⟩) (T - lo) (T - lo), .slice (some ⟨b6, o6, none⟩) 106 c6]).run Tryd.prog w6 = .ok (.int .i64 106) (w6.setCells tb lo (vb pa)) := by
            intro ty
            have := run_copy_cells (P := Tryd.prog) w6 22 22 ty 5 tb lo (T - lo) (T - lo) ⟨b6, o6, none⟩ 106 c6 (vb pa) Tryd.underlying22 hinfo (by rw [length_vb, q5]; show 106 = min 106 (T - lo); omega) (fun j v hj => by rw [add_none]; exact bs_range hB6 j v hj) (fun j hj => by have := (hth6 (lo + j) (by rw [length_vb, q5] at hj; omega)).1; simpa using this) (fun j hj => by have := (hth6 (lo + j) (by rw [length_vb, q5] at hj; omega)).2; simpa using this) (fun v hv => one_vb _ v hv)
            rw [length_vb, q5] at this
            exact this
          have hwl : IntKind.i64.wrap ((lo : Int) + 106) = ((lo + 106 : Nat) : Int) := by rw [IntKind.wrap_i64]; omega
          obtain ⟨l2, hl2⟩ : ∃ l2, l2 = lo + 106 := ⟨_, rfl⟩
          rw [← hl2] at hwl
          obtain ⟨w7, hw7⟩ : ∃ w7, w7 = w6.setCells tb lo (vb pa) := ⟨_, rfl⟩
          rw [← hw7] at hcp
          have hb7 : Below w.heap.size w w7 := by
            rw [hw7]
            exact hbq6.trans (below_setCells tb hge _ _ _)
          have HT7 : Hid (w7.there tb 0 T) := hidn (by rw [hw7]; exact World.there_setCells hth6 _ _ _)
          have hlt7 : tb < w7.heap.size := Nat.lt_of_lt_of_le hlt6 (by rw [hw7]; exact (below_setCells (B := w.heap.size) tb hge _ _ _).size)
          have HL2 : Hid (l2 = 106 * (i + 1)) := hidn (by rw [hl2, HLOI.out]; omega)
          clear q1 q2 q3 q4 q5 q6 q7 hB6 hb6 hbq hbq6 hth6 hlt6 hw7 hl2 hloT hinfo hltq
          go_wp2
          go_roundw
          case rel => exact ⟨i + 1, l2, hik, by go_num, rfl, HL2, hb7, HT7, hlt7⟩
          case measure => simp [intOf]; omega
        · obtain rfl : i = K := by omega
          go_wp2_with fail
          refine (HLO.out _ hbq).mono ?_
          rintro e w6 ⟨rfl, hb6⟩
          go_wp2
          go_ret2
          exact ⟨rfl, hbq.trans (hb6.mono hbq.size)⟩
end Go.Proofs.YtdigblglehchbaaDoor
