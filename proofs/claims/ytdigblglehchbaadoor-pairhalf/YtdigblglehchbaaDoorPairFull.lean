/- Pairs: one half is bad; a text that is whole. -/
import Derived.Test.YtdigblglehchbaaDoorMf
namespace Go.Proofs.YtdigblglehchbaaDoor
open Go.RowKit Go.Maps
set_option linter.unusedVariables false
/-- A slice's array is a new one. -/
def Fr5 (n : Nat) (a : Option Addr) : Prop := ∀ x, a = some x → n ≤ x.block
theorem Fr5.mono {n n' : Nat} {a : Option Addr} (h : Fr5 n a) (hn : n' ≤ n) : Fr5 n' a := fun x hx => Nat.le_trans hn (h x hx)
theorem open_yesF (s : ByteArray) (I : Int) (b off cap : Nat) (zs : List Nat) (w : World) (hB : Bs w (some ⟨b, off, none⟩) 128 zs) (hcap : 128 ≤ cap) (hT : CrcTab w) (hsm : s.size ≤ maxLen) (p : List Nat) (n len : Nat) (hl : p.length = len) (hz : ∀ x ∈ p, x < 256)
    (HO : Hid (openB zs (nums s) I = some (p, n))) :
    Calls Tryd.prog 41 #[.slice (some ⟨b, off, none⟩) 128 cap, .string s, .int .i64 I] w fun e w' => ∃ a c, e = .returned (.tuple #[.slice a len c, .int .i64 (n : Int), .int .i64 0]) ∧ Bs w' a len p ∧ Fr5 w.heap.size a ∧ Below w.heap.size w w' := by
  refine (open_any s I (some ⟨b, off, none⟩) 128 cap zs w hB hcap hT hsm).mono ?_
  rw [HO.out]
  rintro e w' ⟨hb, v, he, hown⟩
  rw [hl] at hown
  have hown2 := hown
  obtain ⟨a, c, rfl, hB'⟩ := bs_of_own hown hz
  refine ⟨a, c, he, hB', fun x hx => ?_, hb⟩
  subst hx
  rcases hown2.2 with ⟨h1, _⟩ | ⟨g, cap, cur, h1, hg, _⟩
  · cases h1
  · cases h1; exact hg
set_option maxHeartbeats 2000000 in
theorem get_bothF (w : World) (d : Nat) (F : Nat → Prop) (N : Nat) (M : List UInt8 → List Ext) (free fuse : Int) (h : DiskOf w d F N M free fuse) (hT : CrcTab w) (hM0 : M [] = []) (s : ByteArray) (hs : s.size ≤ 20) (i n : Nat) (xa xb : Ext) (hA : (M (fileA s).data.toList)[i]? = some xa) (hB : (M (fileB s).data.toList)[i]? = some xb) (hnA : n = (M (fileA s).data.toList).length) (hnB : n = (M (fileB s).data.toList).length)
    (za zb : List Nat) (HZA : Hid (za = xa.rd)) (HZB : Hid (zb = xb.rd)) (pa pb : List Nat) (ga gb la lb : Nat) (HOA : Hid (openB za (nums (fileA s)) (i : Int) = some (pa, ga))) (HOB : Hid (openB zb (nums (fileB s)) (i : Int) = some (pb, gb))) (hla : pa.length = la) (hlb : pb.length = lb) (hpa : ∀ x ∈ pa, x < 256) (hpb : ∀ x ∈ pb, x < 256) (hgg : gb ≤ ga) :
    Calls Tryd.prog 26 #[.pointer (some ⟨d, 0, none⟩), .string s, .int .i64 i] w fun e w' => ∃ a c, e = .returned (.tuple #[.slice a la c, .int .i64 ga, .int .i64 0]) ∧ Bs w' a la pa ∧ Fr5 w.heap.size a ∧ Below w.heap.size w w' := by
  have HD := hidn h
  have HA := hidn hA
  have HB := hidn hB
  have hHv := fun wx => halves_any wx s (by omega)
  have hsA : (fileA s).size ≤ maxLen := by
    have : (fileA s).size = s.size + 2 := by show (fileA s).data.size = _; rw [← Array.length_toList, fileA_list]; simp
    rw [this]; unfold maxLen; omega
  have hsB : (fileB s).size ≤ maxLen := by
    have : (fileB s).size = s.size + 2 := by show (fileB s).data.size = _; rw [← Array.length_toList, fileB_list]; simp
    rw [this]; unfold maxLen; omega
  have HLA := hidn hla
  have HLB := hidn hlb
  have HPA := hidn hpa
  have HPB := hidn hpb
  have hgt : decide (ga < gb) = false := by simp; omega
  have HnA := hidn hnA
  have HnB := hidn hnB
  have hin : i < n := by rw [hnA]; exact (List.getElem?_eq_some_iff.1 hA).1
  have HIN := hidn hin
  clear hnA hnB hin
  clear hA hB hla hlb hpa hpb hgg
  go_enter Tryd.func26, Tryd.ntmps26
  go_wp2_with fail
  refine (pairMade _ d F N M free fuse HD.out hM0).mono ?_
  rintro e w1 ⟨rfl, hb1⟩
  go_wp2_with fail
  refine (hHv _).mono ?_
  rintro e w4 ⟨rfl, hb4⟩
  have hb14 : Below w.heap.size w w4 := hb1.trans (hb4.mono hb1.size)
  clear hb1 hb4 hHv h
  obtain ⟨fa, hfa⟩ : ∃ fa, fa = fileA s := ⟨_, rfl⟩
  obtain ⟨fb, hfb⟩ : ∃ fb, fb = fileB s := ⟨_, rfl⟩
  rw [← hfa] at HA HOA hsA HnA
  rw [← hfb] at HB HOB hsB HnB
  rw [← hfa, ← hfb]
  clear hfa hfb
  have hi0 : ∀ wx : World, (Instr.index 51 (.agg #[.string fa, .string fb]) (.int .i64 0)).run Tryd.prog wx = .ok (.string fa) wx := fun wx => by kernel_rfl
  have hi1 : ∀ wx : World, (Instr.index 51 (.agg #[.string fa, .string fb]) (.int .i64 1)).run Tryd.prog wx = .ok (.string fb) wx := fun wx => by kernel_rfl
  go_wp2_with fail
  go_loopw [9, 10, 11, 24] (fun bv gv fv iv wr => ∃ k : Nat, iv = .int .i64 k ∧ Below w.heap.size w wr ∧ ((k = 0 ∧ bv = .slice none 0 0 ∧ gv = .int .i64 0 ∧ fv = .bool false) ∨ (k = 1 ∧ ∃ a c, bv = .slice a la c ∧ gv = .int .i64 ga ∧ fv = .bool true ∧ Bs wr a la pa ∧ Fr5 w.heap.size a) ∨ (k = 2 ∧ ∃ a c, bv = .slice a la c ∧ gv = .int .i64 ga ∧ fv = .bool true ∧ Bs wr a la pa ∧ Fr5 w.heap.size a))) (fun _ _ _ iv _ => 2 - (intOf iv).toNat)
  case atStart => exact ⟨0, rfl, hb14, Or.inl ⟨rfl, rfl, rfl, rfl⟩⟩
  case round =>
    obtain ⟨k, rfl, hbk, (⟨rfl, rfl, rfl, rfl⟩ | ⟨rfl, a1, c1, rfl, rfl, rfl, hB1, hF1⟩ | ⟨rfl, a1, c1, rfl, rfl, rfl, hB1, hF1⟩)⟩ := hrel
    · go_wp2_with fail
      refine (diskRead_some _ d F N M free fuse (HD.out.below hbk) fa hsA i n (i * 385) HnA HIN.out rfl za xa HA HZA).mono ?_
      rintro e w6 ⟨b6, rfl, hb6, hB6, hbl6⟩
      have hbk6 : Below w.heap.size w w6 := hbk.trans (hbl6.mono hbk.size)
      go_wp2_with fail
      refine (open_yesF fa i b6 0 128 za _ hB6 (Nat.le_refl _) (hT.below hbk6) hsA pa ga la HLA.out HPA.out HOA).mono ?_
      rintro e w7 ⟨a7, c7, rfl, hB7, hF7, hb7⟩
      have hbk7 : Below w.heap.size w w7 := hbk6.trans (hb7.mono hbk6.size)
      have hbk6s := hbk6.size
      clear hbk hbl6 hB6 hbk6 hb7
      go_wp2
      go_roundw
      case rel => exact ⟨1, by first | rfl | go_num | simp, hbk7, Or.inr (Or.inl ⟨rfl, a7, c7, rfl, rfl, rfl, hB7, hF7.mono hbk6s⟩)⟩
      case measure => simp [intOf]
    · go_wp2_with fail
      refine (diskRead_some _ d F N M free fuse (HD.out.below hbk) fb hsB i n (i * 385) HnB HIN.out rfl zb xb HB HZB).mono ?_
      rintro e w6 ⟨b6, rfl, hb6, hB6, hbl6⟩
      have hbk6 : Below w.heap.size w w6 := hbk.trans (hbl6.mono hbk.size)
      have hB16 := hB1.below hbl6
      go_wp2_with fail
      refine (open_yesF fb i b6 0 128 zb _ hB6 (Nat.le_refl _) (hT.below hbk6) hsB pb gb lb HLB.out HPB.out HOB).mono ?_
      rintro e w7 ⟨a7, c7, rfl, hB7, hF7, hb7⟩
      have hbk7 : Below w.heap.size w w7 := hbk6.trans (hb7.mono hbk6.size)
      have hbk6s := hbk6.size
      have hB17 := hB16.below hb7
      clear hbk hbl6 hB6 hbk6 hb7 hB16 hB1 hB7
      go_wp2
      go_roundw
      case rel => exact ⟨2, by first | rfl | go_num | simp, hbk7, Or.inr (Or.inr ⟨rfl, a1, c1, rfl, rfl, rfl, hB17, hF1⟩)⟩
      case measure => simp [intOf]
    · go_wp2
      go_ret3
      exact ⟨a1, c1, rfl, hB1, hF1, hbk⟩
set_option maxHeartbeats 2000000 in
theorem get_oneAF (w : World) (d : Nat) (F : Nat → Prop) (N : Nat) (M : List UInt8 → List Ext) (free fuse : Int) (h : DiskOf w d F N M free fuse) (hT : CrcTab w) (hM0 : M [] = []) (s : ByteArray) (hs : s.size ≤ 20) (i n : Nat) (xa xb : Ext) (hA : (M (fileA s).data.toList)[i]? = some xa) (hB : (M (fileB s).data.toList)[i]? = some xb) (hnA : n = (M (fileA s).data.toList).length) (hnB : n = (M (fileB s).data.toList).length)
    (za zb : List Nat) (HZA : Hid (za = xa.rd)) (HZB : Hid (zb = xb.rd)) (pa : List Nat) (ga la : Nat) (HOA : Hid (openB za (nums (fileA s)) (i : Int) = some (pa, ga))) (HOB : Hid (openB zb (nums (fileB s)) (i : Int) = none)) (hla : pa.length = la) (hpa : ∀ x ∈ pa, x < 256) :
    Calls Tryd.prog 26 #[.pointer (some ⟨d, 0, none⟩), .string s, .int .i64 i] w fun e w' => ∃ a c, e = .returned (.tuple #[.slice a la c, .int .i64 ga, .int .i64 0]) ∧ Bs w' a la pa ∧ Fr5 w.heap.size a ∧ Below w.heap.size w w' := by
  have HD := hidn h
  have HA := hidn hA
  have HB := hidn hB
  have hHv := fun wx => halves_any wx s (by omega)
  have hsA : (fileA s).size ≤ maxLen := by
    have : (fileA s).size = s.size + 2 := by show (fileA s).data.size = _; rw [← Array.length_toList, fileA_list]; simp
    rw [this]; unfold maxLen; omega
  have hsB : (fileB s).size ≤ maxLen := by
    have : (fileB s).size = s.size + 2 := by show (fileB s).data.size = _; rw [← Array.length_toList, fileB_list]; simp
    rw [this]; unfold maxLen; omega
  have HLA := hidn hla
  have HPA := hidn hpa
  have HnA := hidn hnA
  have HnB := hidn hnB
  have hin : i < n := by rw [hnA]; exact (List.getElem?_eq_some_iff.1 hA).1
  have HIN := hidn hin
  clear hnA hnB hin
  clear hA hB hla hpa
  go_enter Tryd.func26, Tryd.ntmps26
  go_wp2_with fail
  refine (pairMade _ d F N M free fuse HD.out hM0).mono ?_
  rintro e w1 ⟨rfl, hb1⟩
  go_wp2_with fail
  refine (hHv _).mono ?_
  rintro e w4 ⟨rfl, hb4⟩
  have hb14 : Below w.heap.size w w4 := hb1.trans (hb4.mono hb1.size)
  clear hb1 hb4 hHv h
  obtain ⟨fa, hfa⟩ : ∃ fa, fa = fileA s := ⟨_, rfl⟩
  obtain ⟨fb, hfb⟩ : ∃ fb, fb = fileB s := ⟨_, rfl⟩
  rw [← hfa] at HA HOA hsA HnA
  rw [← hfb] at HB HOB hsB HnB
  rw [← hfa, ← hfb]
  clear hfa hfb
  have hi0 : ∀ wx : World, (Instr.index 51 (.agg #[.string fa, .string fb]) (.int .i64 0)).run Tryd.prog wx = .ok (.string fa) wx := fun wx => by kernel_rfl
  have hi1 : ∀ wx : World, (Instr.index 51 (.agg #[.string fa, .string fb]) (.int .i64 1)).run Tryd.prog wx = .ok (.string fb) wx := fun wx => by kernel_rfl
  go_wp2_with fail
  go_loopw [9, 10, 11, 24] (fun bv gv fv iv wr => ∃ k : Nat, iv = .int .i64 k ∧ Below w.heap.size w wr ∧ ((k = 0 ∧ bv = .slice none 0 0 ∧ gv = .int .i64 0 ∧ fv = .bool false) ∨ (k = 1 ∧ ∃ a c, bv = .slice a la c ∧ gv = .int .i64 ga ∧ fv = .bool true ∧ Bs wr a la pa ∧ Fr5 w.heap.size a) ∨ (k = 2 ∧ ∃ a c, bv = .slice a la c ∧ gv = .int .i64 ga ∧ fv = .bool true ∧ Bs wr a la pa ∧ Fr5 w.heap.size a))) (fun _ _ _ iv _ => 2 - (intOf iv).toNat)
  case atStart => exact ⟨0, rfl, hb14, Or.inl ⟨rfl, rfl, rfl, rfl⟩⟩
  case round =>
    obtain ⟨k, rfl, hbk, (⟨rfl, rfl, rfl, rfl⟩ | ⟨rfl, a1, c1, rfl, rfl, rfl, hB1, hF1⟩ | ⟨rfl, a1, c1, rfl, rfl, rfl, hB1, hF1⟩)⟩ := hrel
    · go_wp2_with fail
      refine (diskRead_some _ d F N M free fuse (HD.out.below hbk) fa hsA i n (i * 385) HnA HIN.out rfl za xa HA HZA).mono ?_
      rintro e w6 ⟨b6, rfl, hb6, hB6, hbl6⟩
      have hbk6 : Below w.heap.size w w6 := hbk.trans (hbl6.mono hbk.size)
      go_wp2_with fail
      refine (open_yesF fa i b6 0 128 za _ hB6 (Nat.le_refl _) (hT.below hbk6) hsA pa ga la HLA.out HPA.out HOA).mono ?_
      rintro e w7 ⟨a7, c7, rfl, hB7, hF7, hb7⟩
      have hbk7 : Below w.heap.size w w7 := hbk6.trans (hb7.mono hbk6.size)
      have hbk6s := hbk6.size
      clear hbk hbl6 hB6 hbk6 hb7
      go_wp2
      go_roundw
      case rel => exact ⟨1, by first | rfl | go_num | simp, hbk7, Or.inr (Or.inl ⟨rfl, a7, c7, rfl, rfl, rfl, hB7, hF7.mono hbk6s⟩)⟩
      case measure => simp [intOf]
    · go_wp2_with fail
      refine (diskRead_some _ d F N M free fuse (HD.out.below hbk) fb hsB i n (i * 385) HnB HIN.out rfl zb xb HB HZB).mono ?_
      rintro e w6 ⟨b6, rfl, hb6, hB6, hbl6⟩
      have hbk6 : Below w.heap.size w w6 := hbk.trans (hbl6.mono hbk.size)
      have hB16 := hB1.below hbl6
      go_wp2_with fail
      refine (open_no fb i b6 0 128 zb _ hB6 (Nat.le_refl _) (hT.below hbk6) hsB HOB).mono ?_
      rintro e w7 ⟨rfl, hb7⟩
      have hbk7 : Below w.heap.size w w7 := hbk6.trans (hb7.mono hbk6.size)
      have hbk6s := hbk6.size
      have hB17 := hB16.below hb7
      clear hbk hbl6 hB6 hbk6 hb7 hB16 hB1
      go_wp2
      go_roundw
      case rel => exact ⟨2, by first | rfl | go_num | simp, hbk7, Or.inr (Or.inr ⟨rfl, a1, c1, rfl, rfl, rfl, hB17, hF1⟩)⟩
      case measure => simp [intOf]
    · go_wp2
      go_ret3
      exact ⟨a1, c1, rfl, hB1, hF1, hbk⟩
set_option maxHeartbeats 2000000 in
theorem get_oneBF (w : World) (d : Nat) (F : Nat → Prop) (N : Nat) (M : List UInt8 → List Ext) (free fuse : Int) (h : DiskOf w d F N M free fuse) (hT : CrcTab w) (hM0 : M [] = []) (s : ByteArray) (hs : s.size ≤ 20) (i n : Nat) (xa xb : Ext) (hA : (M (fileA s).data.toList)[i]? = some xa) (hB : (M (fileB s).data.toList)[i]? = some xb) (hnA : n = (M (fileA s).data.toList).length) (hnB : n = (M (fileB s).data.toList).length)
    (za zb : List Nat) (HZA : Hid (za = xa.rd)) (HZB : Hid (zb = xb.rd)) (pb : List Nat) (gb lb : Nat) (HOA : Hid (openB za (nums (fileA s)) (i : Int) = none)) (HOB : Hid (openB zb (nums (fileB s)) (i : Int) = some (pb, gb))) (hlb : pb.length = lb) (hpb : ∀ x ∈ pb, x < 256) :
    Calls Tryd.prog 26 #[.pointer (some ⟨d, 0, none⟩), .string s, .int .i64 i] w fun e w' => ∃ a c, e = .returned (.tuple #[.slice a lb c, .int .i64 gb, .int .i64 0]) ∧ Bs w' a lb pb ∧ Fr5 w.heap.size a ∧ Below w.heap.size w w' := by
  have HD := hidn h
  have HA := hidn hA
  have HB := hidn hB
  have hHv := fun wx => halves_any wx s (by omega)
  have hsA : (fileA s).size ≤ maxLen := by
    have : (fileA s).size = s.size + 2 := by show (fileA s).data.size = _; rw [← Array.length_toList, fileA_list]; simp
    rw [this]; unfold maxLen; omega
  have hsB : (fileB s).size ≤ maxLen := by
    have : (fileB s).size = s.size + 2 := by show (fileB s).data.size = _; rw [← Array.length_toList, fileB_list]; simp
    rw [this]; unfold maxLen; omega
  have HLB := hidn hlb
  have HPB := hidn hpb
  have HnA := hidn hnA
  have HnB := hidn hnB
  have hin : i < n := by rw [hnA]; exact (List.getElem?_eq_some_iff.1 hA).1
  have HIN := hidn hin
  clear hnA hnB hin
  clear hA hB hlb hpb
  go_enter Tryd.func26, Tryd.ntmps26
  go_wp2_with fail
  refine (pairMade _ d F N M free fuse HD.out hM0).mono ?_
  rintro e w1 ⟨rfl, hb1⟩
  go_wp2_with fail
  refine (hHv _).mono ?_
  rintro e w4 ⟨rfl, hb4⟩
  have hb14 : Below w.heap.size w w4 := hb1.trans (hb4.mono hb1.size)
  clear hb1 hb4 hHv h
  obtain ⟨fa, hfa⟩ : ∃ fa, fa = fileA s := ⟨_, rfl⟩
  obtain ⟨fb, hfb⟩ : ∃ fb, fb = fileB s := ⟨_, rfl⟩
  rw [← hfa] at HA HOA hsA HnA
  rw [← hfb] at HB HOB hsB HnB
  rw [← hfa, ← hfb]
  clear hfa hfb
  have hi0 : ∀ wx : World, (Instr.index 51 (.agg #[.string fa, .string fb]) (.int .i64 0)).run Tryd.prog wx = .ok (.string fa) wx := fun wx => by kernel_rfl
  have hi1 : ∀ wx : World, (Instr.index 51 (.agg #[.string fa, .string fb]) (.int .i64 1)).run Tryd.prog wx = .ok (.string fb) wx := fun wx => by kernel_rfl
  go_wp2_with fail
  go_loopw [9, 10, 11, 24] (fun bv gv fv iv wr => ∃ k : Nat, iv = .int .i64 k ∧ Below w.heap.size w wr ∧ ((k = 0 ∧ bv = .slice none 0 0 ∧ gv = .int .i64 0 ∧ fv = .bool false) ∨ (k = 1 ∧ bv = .slice none 0 0 ∧ gv = .int .i64 0 ∧ fv = .bool false) ∨ (k = 2 ∧ ∃ a c, bv = .slice a lb c ∧ gv = .int .i64 gb ∧ fv = .bool true ∧ Bs wr a lb pb ∧ Fr5 w.heap.size a))) (fun _ _ _ iv _ => 2 - (intOf iv).toNat)
  case atStart => exact ⟨0, rfl, hb14, Or.inl ⟨rfl, rfl, rfl, rfl⟩⟩
  case round =>
    obtain ⟨k, rfl, hbk, (⟨rfl, rfl, rfl, rfl⟩ | ⟨rfl, rfl, rfl, rfl⟩ | ⟨rfl, a1, c1, rfl, rfl, rfl, hB1, hF1⟩)⟩ := hrel
    · go_wp2_with fail
      refine (diskRead_some _ d F N M free fuse (HD.out.below hbk) fa hsA i n (i * 385) HnA HIN.out rfl za xa HA HZA).mono ?_
      rintro e w6 ⟨b6, rfl, hb6, hB6, hbl6⟩
      have hbk6 : Below w.heap.size w w6 := hbk.trans (hbl6.mono hbk.size)
      go_wp2_with fail
      refine (open_no fa i b6 0 128 za _ hB6 (Nat.le_refl _) (hT.below hbk6) hsA HOA).mono ?_
      rintro e w7 ⟨rfl, hb7⟩
      have hbk7 : Below w.heap.size w w7 := hbk6.trans (hb7.mono hbk6.size)
      have hbk6s := hbk6.size
      clear hbk hbl6 hB6 hbk6 hb7
      go_wp2
      go_roundw
      case rel => exact ⟨1, by first | rfl | go_num | simp, hbk7, Or.inr (Or.inl ⟨rfl, rfl, rfl, rfl⟩)⟩
      case measure => simp [intOf]
    · go_wp2_with fail
      refine (diskRead_some _ d F N M free fuse (HD.out.below hbk) fb hsB i n (i * 385) HnB HIN.out rfl zb xb HB HZB).mono ?_
      rintro e w6 ⟨b6, rfl, hb6, hB6, hbl6⟩
      have hbk6 : Below w.heap.size w w6 := hbk.trans (hbl6.mono hbk.size)
      go_wp2_with fail
      refine (open_yesF fb i b6 0 128 zb _ hB6 (Nat.le_refl _) (hT.below hbk6) hsB pb gb lb HLB.out HPB.out HOB).mono ?_
      rintro e w7 ⟨a7, c7, rfl, hB7, hF7, hb7⟩
      have hbk7 : Below w.heap.size w w7 := hbk6.trans (hb7.mono hbk6.size)
      have hbk6s := hbk6.size
      clear hbk hbl6 hB6 hbk6 hb7
      go_wp2
      go_roundw
      case rel => exact ⟨2, by first | rfl | go_num | simp, hbk7, Or.inr (Or.inr ⟨rfl, a7, c7, rfl, rfl, rfl, hB7, hF7.mono hbk6s⟩)⟩
      case measure => simp [intOf]
    · go_wp2
      go_ret3
      exact ⟨a1, c1, rfl, hB1, hF1, hbk⟩
set_option maxHeartbeats 4000000 in
theorem load_full (w : World) (d : Nat) (F : Nat → Prop) (N : Nat) (M : List UInt8 → List Ext) (free fuse : Int) (h : DiskOf w d F N M free fuse) (hT : CrcTab w) (hM0 : M [] = []) (s : ByteArray) (hs : s.size ≤ 20) (g E m : Nat) (hE : E ≤ 1000) (hEA : E = (M (fileA s).data.toList).length) (hEB : E = (M (fileB s).data.toList).length)
    (pp : List Nat) (hm : pp.length = m) (hEm : E = extB m) (hpb : ∀ x ∈ pp, x < 256)
    (hget : ∀ i, i < E → ∀ wx, Below w.heap.size w wx → Calls Tryd.prog 26 #[.pointer (some ⟨d, 0, none⟩), .string s, .int .i64 i] wx fun e w' => ∃ a c, e = .returned (.tuple #[.slice a (partP pp i).length c, .int .i64 g, .int .i64 0]) ∧ Bs w' a (partP pp i).length (partP pp i) ∧ Fr5 wx.heap.size a ∧ Below wx.heap.size wx w') :
    Calls Tryd.prog 10 #[.pointer (some ⟨d, 0, none⟩), .string s, .int .i64 g] w fun e w' => ∃ a c, e = .returned (.tuple #[.slice a m c, .int .i64 0]) ∧ Bs w' a m pp ∧ Below w.heap.size w w' := by
  have HD := hidn h
  have HGET := hidn hget
  have HMM := hidn hm
  have HEM := hidn hEm
  have HPB := hidn hpb
  have hmE : m ≤ 106 * E ∧ 106 * (E - 1) ≤ m ∧ 1 ≤ E := by rw [hEm]; unfold extB; split <;> omega
  have HEA := hidn hEA
  have HEB := hidn hEB
  have hHv := fun wx => halves_any wx s (by omega)
  have hsA : (fileA s).size ≤ maxLen := by
    have : (fileA s).size = s.size + 2 := by show (fileA s).data.size = _; rw [← Array.length_toList, fileA_list]; simp
    rw [this]; unfold maxLen; omega
  have hsB : (fileB s).size ≤ maxLen := by
    have : (fileB s).size = s.size + 2 := by show (fileB s).data.size = _; rw [← Array.length_toList, fileB_list]; simp
    rw [this]; unfold maxLen; omega
  obtain ⟨T, hTT⟩ : ∃ T, T = E * 106 := ⟨_, rfl⟩
  have hwT : IntKind.i64.wrap ((E : Int) * 106) = (T : Int) := by rw [IntKind.wrap_i64]; omega
  obtain ⟨i0, hi, hz0, hz1, hz2⟩ := info_parts Tryd.info5
  obtain ⟨Z, hZ⟩ : ∃ Z, Z = madeCells (Value.int .u8 0).cells (((T : Nat) : Int).toNat * i0.size) := ⟨_, rfl⟩
  have hZs : Z.size = T := by rw [hZ, size_madeCells, hz1]; simp
  have hmk : ∀ W : World, (Instr.makeSlice 22 (.int .i64 (T : Int)) (.int .i64 (T : Int))).run Tryd.prog W = .ok (.slice (some ⟨W.heap.size, 0, none⟩) T T) (W.alloc (.cells Z 5)) := fun W => by
    have h := run_make (P := Tryd.prog) W 22 5 i0 (.int .u8 0) Tryd.underlying22 hi hz0 .i64 .i64 (T : Int) (T : Int) (by omega) (by omega) (by rw [hz2]; omega) (by omega)
    rw [← hZ] at h
    simpa using h
  have HZS := hidn hZs
  have HTT := hidn hTT
  have hTb : T ≤ 106000 := by rw [hTT]; omega
  have hE0 : 0 < E := by omega
  have hE0' : ((E : Int) == 0) = false := beq_eq_false_iff_ne.2 (by omega)
  clear hZ hZs hTT hEA hEB hget hm hEm hpb
  go_enter Tryd.func10, Tryd.ntmps10
  go_wp2_with fail
  refine (pairMade _ d F N M free fuse HD.out hM0).mono ?_
  rintro e w1 ⟨rfl, hb1⟩
  go_wp2_with fail
  refine (hHv _).mono ?_
  rintro e w4 ⟨rfl, hb4⟩
  have hb14 : Below w.heap.size w w4 := hb1.trans (hb4.mono hb1.size)
  clear hb1 hb4 hHv h
  obtain ⟨fa, hfa⟩ : ∃ fa, fa = fileA s := ⟨_, rfl⟩
  obtain ⟨fb, hfb⟩ : ∃ fb, fb = fileB s := ⟨_, rfl⟩
  rw [← hfa] at HEA hsA
  rw [← hfb] at HEB hsB
  rw [← hfa, ← hfb]
  have HFA := hidn hfa
  have HFB := hidn hfb
  clear hfa hfb
  have hi0 : ∀ wx : World, (Instr.index 51 (.agg #[.string fa, .string fb]) (.int .i64 0)).run Tryd.prog wx = .ok (.string fa) wx := fun wx => by kernel_rfl
  have hi1 : ∀ wx : World, (Instr.index 51 (.agg #[.string fa, .string fb]) (.int .i64 1)).run Tryd.prog wx = .ok (.string fb) wx := fun wx => by kernel_rfl
  have HD4 := hidn (HD.out.below hb14)
  go_wp2_with fail
  go_loopw [8, 22] (fun cv iv wr => ∃ k : Nat, k ≤ 2 ∧ iv = .int .i64 k ∧ wr = w4 ∧ cv = .int .i64 (if k = 0 then (0 : Int) else (E : Int))) (fun _ iv _ => 2 - (intOf iv).toNat)
  case atStart => exact ⟨0, by omega, rfl, rfl, rfl⟩
  case round =>
    obtain ⟨k, hk, rfl, rfl, rfl⟩ := hrel
    match k, hk with
    | 0, _ =>
      go_wp2_with fail
      refine (extents_disk _ d F N M free fuse HD4.out fa hsA E HEA).mono ?_
      rintro e w6 ⟨rfl, rfl⟩
      go_wp2
      go_roundw
      case rel => exact ⟨1, by omega, by first | rfl | go_num | simp, by first | rfl | trivial, by first | rfl | simp⟩
      case measure => simp [intOf]
    | 1, _ =>
      go_wp2_with fail
      refine (extents_disk _ d F N M free fuse HD4.out fb hsB E HEB).mono ?_
      rintro e w6 ⟨rfl, rfl⟩
      go_wp2
      go_roundw
      case rel => exact ⟨2, by omega, by first | rfl | go_num | simp, by first | rfl | trivial, by first | rfl | simp⟩
      case measure => simp [intOf]
    | 2, _ =>
      go_wp2_with fail
      obtain ⟨tb, htb⟩ : ∃ tb, tb = wr.heap.size := ⟨_, rfl⟩
      obtain ⟨w5, hw5⟩ : ∃ w5, w5 = wr.alloc (.cells Z 5) := ⟨_, rfl⟩
      have hblk : w5.heap[tb]? = some (.cells Z 5 (0, 0)) := by rw [hw5, htb]; exact heap_alloc_new _ _
      have hb5 : Below w.heap.size w w5 := by rw [hw5]; exact hb14.alloc hb14.size _
      have hth : w5.there tb 0 T := by
        intro j hj
        rw [Nat.zero_add]
        refine ⟨?_, frozen_of_row _ _ j _ _ hblk⟩
        rw [cell_of_row _ _ _ _ _ _ hblk, Array.getElem?_eq_getElem (by rw [HZS.out]; exact hj)]
        rfl
      have hge : w.heap.size ≤ tb := by rw [htb]; exact hb14.size
      have hlt5 : tb < w5.heap.size := (Array.getElem?_eq_some_iff.1 hblk).1
      rw [← htb, ← hw5]
      simp only [show ((2 : Nat) : Int) = 2 from rfl]
      have HTH := hidn hth
      clear htb hw5 hblk hth hmk hi0 hi1
      go_loopw [12, 37] (fun ev iv wq => ∃ i lo : Nat, i ≤ E ∧ iv = .int .i64 i ∧ ev = .int .i64 lo ∧ Hid (lo = min (106 * i) m) ∧ Below w.heap.size w wq ∧ Hid (wq.there tb 0 T) ∧ Hid (wq.rangeAt tb 0 (vb (pp.take lo))) ∧ tb < wq.heap.size) (fun _ iv _ => E - (intOf iv).toNat)
      case atStart => exact ⟨0, 0, Nat.zero_le _, rfl, rfl, hidn (by omega), hb5, HTH, hidn (fun j v hv => by simp [vb] at hv), hlt5⟩
      case round =>
        obtain ⟨i, lo, hi, rfl, rfl, HLOI, hbq, HTQ, HRQ, hltq⟩ := hrel
        by_cases hik : i < E
        · have hiE : decide (i < E) = true := by simp; omega
          have hiE2 : (i : Int) < (E : Int) := by omega
          obtain ⟨L, hL⟩ : ∃ L, L = (partP pp i).length := ⟨_, rfl⟩
          have hlo : lo = 106 * i := by have := HLOI.out; omega
          have hLm : lo + L = min (106 * (i + 1)) m := by
            rw [hL]; unfold partP; rw [List.length_take, List.length_drop, HMM.out]; omega
          have HLE := hidn hL
          have HLOE := hidn hlo
          have HLM := hidn hLm
          have hG := HGET.out i hik _ hbq
          rw [← hL] at hG
          have HG := hidn hG
          clear hL hlo hLm hG
          go_wp2_with fail
          refine HG.out.mono ?_
          rintro e w6 ⟨a6, c6, rfl, hB6, _, hb6⟩
          have hbq6 : Below w.heap.size w w6 := hbq.trans (hb6.mono hbq.size)
          have hth6 := there_below HTQ.out hb6 hltq
          have hlt6 : tb < w6.heap.size := Nat.lt_of_lt_of_le hltq hb6.size
          have hrg6 : w6.rangeAt tb 0 (vb (pp.take lo)) := fun j v hv => (hb6.cell (p := ⟨tb, 0 + j, none⟩) hltq).trans (HRQ.out j v hv)
          have hloT : lo + L ≤ T ∧ lo < T := by have := HLM.out; have := HLOE.out; have := HTT.out; omega
          have hsl := slice_from tb T lo hloT.2
          have hinfo : (Tryd.prog.info? 5).map (·.size) = some 1 := by kernel_rfl
          have HPL : Hid ((partP pp i).length = L) := hidn HLE.out.symm
          obtain ⟨w7, hcp, hb67, hT7, hr7⟩ : ∃ w7, (∀ ty, (Builtin.copy_ #[22, 22] ty #[.slice (some ⟨tb, lo, none⟩) (T - lo) (T - lo), .slice a6 L c6]).run Tryd.prog w6 = .ok (.int .i64 (L : Int)) w7) ∧ Below w.heap.size w6 w7 ∧ w7.there tb 0 T ∧ w7.rangeAt tb 0 (vb (pp.take (lo + L))) := by
            have hjoin : vb (pp.take (lo + L)) = vb (pp.take lo) ++ vb (partP pp i) := by
              have h1 : pp.take (lo + L) = pp.take lo ++ partP pp i := by
                have h2 := HLE.out
                have h3 := HLOE.out
                unfold partP at h2 ⊢
                rw [List.take_add, h3]
                generalize List.drop (106 * i) pp = X at *
                generalize min (106 * i + 106) pp.length - 106 * i = K at *
                have hLK : L ≤ K := by rw [h2, List.length_take]; exact Nat.min_le_left _ _
                have h4 : (X.take K).take L = X.take K := List.take_of_length_le (by rw [h2]; exact Nat.le_refl _)
                rw [List.take_take, Nat.min_eq_left hLK] at h4
                rw [h4]
              rw [h1]
              unfold vb
              rw [List.map_append]
            by_cases hL0 : L = 0
            · refine ⟨w6, fun ty => ?_, Below.refl _ _, hth6, ?_⟩
              · subst hL0
                exact run_copy_none (P := Tryd.prog) w6 _ _ ty 5 _ a6 (T - lo) (T - lo) 0 c6 Tryd.underlying22 hinfo (by simp)
              · have : lo + L = lo := by omega
                rw [this]
                exact hrg6
            · obtain ⟨b6, o6, rfl, _, _⟩ := hB6.pos (by omega)
              have hthL : w6.there tb lo (vb (partP pp i)).length := fun j hj => by
                rw [length_vb, HPL.out] at hj
                have := hth6 (lo + j) (by omega)
                simpa using this
              refine ⟨w6.setCells tb lo (vb (partP pp i)), fun ty => ?_, below_setCells tb hge _ _ _, World.there_setCells hth6 _ _ _, ?_⟩
              · have := run_copy_cells (P := Tryd.prog) w6 22 22 ty 5 tb lo (T - lo) (T - lo) ⟨b6, o6, none⟩ L c6 (vb (partP pp i)) Tryd.underlying22 hinfo (by rw [length_vb, HPL.out]; show L = min L (T - lo); omega) (fun j v hj => by rw [add_none]; exact bs_range hB6 j v hj) (fun j hj => (hthL j hj).1) (fun j hj => (hthL j hj).2) (fun v hv => one_vb _ v hv)
                rw [length_vb, HPL.out] at this
                exact this
              · rw [hjoin]
                have hll : (vb (pp.take lo)).length = lo := by rw [length_vb, List.length_take, HMM.out]; have := HLM.out; omega
                have r1 := World.rangeAt_setCells_apart hrg6 tb lo (vb (partP pp i)) (.inr (.inl (by rw [hll]; omega)))
                have r2 := World.rangeAt_setCells_same w6 tb lo (vb (partP pp i)) hthL
                intro j v hv
                by_cases hj : j < lo
                · rw [List.getElem?_append_left (by rw [hll]; exact hj)] at hv
                  exact r1 j v hv
                · rw [List.getElem?_append_right (by rw [hll]; omega), hll] at hv
                  have := r2 (j - lo) v hv
                  rw [show lo + (j - lo) = 0 + j by omega] at this
                  exact this
          obtain ⟨l2, hl2⟩ : ∃ l2, l2 = lo + L := ⟨_, rfl⟩
          have hwl : IntKind.i64.wrap ((lo : Int) + (L : Int)) = (l2 : Int) := by rw [IntKind.wrap_i64]; omega
          have hwl2 : (lo : Int) + (L : Int) = (l2 : Int) := by omega
          have hwl3 : wrap64 (l2 : Int) = (l2 : Int) := by unfold wrap64; omega
          rw [← hl2] at hr7
          have hb7 : Below w.heap.size w w7 := hbq6.trans hb67
          have HT7 := hidn hT7
          have HR7 := hidn hr7
          have hlt7 : tb < w7.heap.size := Nat.lt_of_lt_of_le hlt6 hb67.size
          have HL2 : Hid (l2 = min (106 * (i + 1)) m) := hidn (by rw [hl2]; exact HLM.out)
          clear hB6 hb6 hbq hbq6 hth6 hlt6 hl2 hloT hinfo hltq hrg6 hb67 hT7 hr7
          go_wp2
          go_roundw
          case rel => exact ⟨i + 1, l2, hik, by go_num, by rw [hwl3], HL2, hb7, HT7, HR7, hlt7⟩
          case measure => simp [intOf]; omega
        · have hiE : decide (i < E) = false := by simp; omega
          have hiE2 : ¬ (i : Int) < (E : Int) := by omega
          have hlom : lo = m := by have := HLOI.out; omega
          subst hlom
          have hmT : (lo : Int) ≤ (T : Int) := by have := HTT.out; omega
          have HBf : Hid (Bs wr (some ⟨tb, 0, none⟩) lo pp) := hidn (by
            refine ⟨HMM.out, by unfold maxLen; omega, HPB.out, (fun h => by cases h), fun x hx j hj => ?_⟩
            cases hx
            rw [add_none]
            have e : pp.take lo = pp := List.take_of_length_le (by rw [HMM.out]; exact Nat.le_refl _)
            have hr := HRQ.out
            rw [e] at hr
            exact hr j _ (vb_getD pp j (by rw [HMM.out]; exact hj)))
          go_wp2
          go_ret2
          exact ⟨_, ⟨_, rfl⟩, HBf.out, hbq⟩
end Go.Proofs.YtdigblglehchbaaDoor
