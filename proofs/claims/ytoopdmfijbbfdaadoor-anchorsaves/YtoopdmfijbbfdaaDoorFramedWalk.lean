/- The walk of extent.framed: the extent's bytes, as an array. -/
import Derived.Test.YtoopdmfijbbfdaaDoorCrc
import Derived.Test.YtoopdmfijbbfdaaDoorPutWalk
import Derived.Test.YtoopdmfijbbfdaaDoorExtMath
import Derived.Laws.CopyOwn
import Derived.Lib.ConvBytes
import Derived.Deep.WholeRow
import Derived.Deep.RegionWith
namespace Go.Proofs.YtoopdmfijbbfdaaDoor
open Go.RowKit
set_option linter.unusedVariables false

theorem Tryd.infoFrame : (Tryd.prog.info? 113).map (fun i => (i.zero, i.size)) = some (some (.agg (vb (List.replicate 128 0)).toArray), 128) := by kernel_rfl
theorem Tryd.infoByte : (Tryd.prog.info? 5).map (·.size) = some 1 := by kernel_rfl

/-- A string's bytes as plain numbers. -/
def nums (s : ByteArray) : List Nat := s.data.toList.map UInt8.toNat
theorem nums_length (s : ByteArray) : (nums s).length = s.size := by rw [nums, List.length_map]; rfl
theorem nums_lt (s : ByteArray) : ∀ x ∈ nums s, x < 256 := by
  intro x hx
  simp only [nums, List.mem_map] at hx
  obtain ⟨y, _, rfl⟩ := hx
  exact y.toNat_lt
theorem bs_nums (w : World) (s : ByteArray) (hs : s.size ≤ maxLen) : Bs (Lib.bytesWorld w 5 s) (some ⟨w.heap.size, 0, none⟩) s.size (nums s) := by
  refine ⟨nums_length s, hs, nums_lt s, (fun h => by simp at h), fun x hx j hj => ?_⟩
  cases hx
  rw [add_none, Nat.zero_add, Lib.bytesWorld_cell w 5 s j hj]
  have hj' : j < s.data.toList.length := hj
  simp only [nums, List.getD_eq_getElem?_getD, List.getElem?_map, List.getElem?_eq_getElem hj', Option.map_some, Option.getD_some]
theorem below_bytes (w : World) (s : ByteArray) : Below w.heap.size w (Lib.bytesWorld w 5 s) :=
  ⟨rfl, rfl, rfl, by rw [Lib.bytesWorld_size]; omega, fun k hk => Lib.bytesWorld_at_old w 5 s k hk⟩

theorem splice_vb (l c : List Nat) (o : Nat) : splice (vb l) o (vb c) = vb (splice l o c) := by simp [splice, vb]
theorem src_of_own {w : World} {base g k : Nat} {zs : List Nat} (h : w.ownsRow base 5 1 (.slice (some ⟨g, 0, none⟩) k k) k (vb zs)) :
    ∀ j v, (vb zs)[j]? = some v → w.cell? ((⟨g, 0, none⟩ : Addr).add j) = some v := by
  intro j v hj
  have hl : (vb zs).length = k := by simpa using h.1
  have hlt := (List.getElem?_eq_some_iff.1 hj).1
  rw [add_none, Nat.zero_add, h.cellAt j (by omega)]
  exact hj
theorem put_named (n k : Nat) (wd : Int) (P : List Nat) (w : World) (hn : n < 18446744073709551616) (hk : k ≤ 8) (hw : wd = k) (hP : Hid (P = putB n k)) :
    Calls Tryd.prog 49 #[.int .u64 n, .int .i64 wd] w fun e w' => e = .returned (.slice (some ⟨w.heap.size, 0, none⟩) k k) ∧ w'.ownsRow w.heap.size 5 1 (.slice (some ⟨w.heap.size, 0, none⟩) k k) k (vb P) ∧ Below w.heap.size w w' := by
  rw [hP.out]
  exact put_any n wd k w hn (by omega)

/-- The block of the array that is being laid, among the new ones. -/
def Fr (w0 w1 : World) (cur : List Nat) : Prop :=
  w1.heap[w0.heap.size + 1]? = some (.cells (vb cur).toArray 113 (0, 0)) ∧ Below w0.heap.size w0 w1 ∧ w0.heap.size + 2 ≤ w1.heap.size ∧
  ∃ old : List Nat, old.length = 128 ∧ w1.heap[w0.heap.size]? = some (.cells (vb old).toArray 113 (0, 0))
theorem Fr.below {w0 w1 w2 : World} {cur : List Nat} (h : Fr w0 w1 cur) (hb : Below w1.heap.size w1 w2) : Fr w0 w2 cur := by
  obtain ⟨h1, h2, h3, old, h4, h5⟩ := h
  exact ⟨(hb.block _ (by omega)).trans h1, h2.trans (hb.mono (by have := h2.size; omega)), by have := hb.size; omega, old, h4, (hb.block _ (by omega)).trans h5⟩
theorem Fr.drew {w0 w1 : World} {cur : List Nat} (h : Fr w0 w1 cur) : Fr w0 w1.drew cur := h.below (Below.refl _ _).drew
/-- copy of bytes into the array that is being laid. -/
theorem copy_vb (w : World) (w0 : World) (o dLen dCap sLen sCap : Nat) (a : Addr) (cur c cur' : List Nat) (F : Fr w0 w cur) (hc : cur' = splice cur o c) (hn : c.length = Nat.min sLen dLen) (hfit : o + c.length ≤ cur.length)
    (hsrc : ∀ j v, (vb c)[j]? = some v → w.cell? (a.add j) = some v) :
    (Builtin.copy_ #[24, 24] 3 #[.slice (some ⟨w0.heap.size + 1, o, none⟩) dLen dCap, .slice (some a) sLen sCap]).run Tryd.prog w = .ok (goInt c.length) (w.setRow (w0.heap.size + 1) (vb cur').toArray) := by
  have h := run_copy_row Tryd.prog w 24 24 3 5 (w0.heap.size + 1) o dLen dCap a sLen sCap (vb cur).toArray 113 (vb c) Tryd.underlying24 Tryd.infoByte F.1 (by rw [length_vb]; exact hn) hsrc (by simpa [length_vb] using hfit) (one_vb c)
  rw [h, length_vb, hc, ← splice_vb, splice, length_vb, List.append_assoc]
theorem Fr.laid {w0 w1 : World} {cur cur' : List Nat} (h : Fr w0 w1 cur) : Fr w0 (w1.setRow (w0.heap.size + 1) (vb cur').toArray) cur' :=
  ⟨setRow_heap _ _ _ _ _ _ h.1, below_setRow h.2.1 (by omega) _, by simpa using h.2.2.1, by
    obtain ⟨old, h4, h5⟩ := h.2.2.2
    exact ⟨old, h4, (setRow_other _ _ _ _ (by omega)).trans h5⟩⟩

theorem Fr.set {w0 w1 : World} {cur : List Nat} (h : Fr w0 w1 cur) (k y : Nat) : Fr w0 (w1.setCell ⟨w0.heap.size + 1, k, none⟩ (.int .u8 (y : Int))) (cur.set k y) := by
  rw [setCell_eq_setRow _ _ _ _ _ _ _ h.1, List.setIfInBounds_toArray, vb_set]
  exact h.laid
theorem Fr.cell {w0 w1 : World} {cur : List Nat} (h : Fr w0 w1 cur) (k : Nat) (hk : k < cur.length) : w1.cell? ⟨w0.heap.size + 1, k, none⟩ = some (.int .u8 ((cur.getD k 0 : Nat) : Int)) := by
  rw [cell_of_row _ _ _ _ _ _ h.1, List.getElem?_toArray]
  exact vb_getD cur k hk
theorem Fr.frozen {w0 w1 : World} {cur : List Nat} (h : Fr w0 w1 cur) (k : Nat) : w1.frozen? ⟨w0.heap.size + 1, k, none⟩ = false := frozen_of_row _ _ _ _ _ h.1
theorem Fr.bs {w0 w1 : World} {cur : List Nat} (h : Fr w0 w1 cur) (n : Nat) (hn : n ≤ cur.length) (hm : n ≤ maxLen) (hz : ∀ x ∈ cur, x < 256) : Bs w1 (some ⟨w0.heap.size + 1, 0, none⟩) n (cur.take n) := by
  refine ⟨by simp; omega, hm, fun x hx => hz x (List.mem_of_mem_take hx), (fun h => by simp at h), fun x hx j hj => ?_⟩
  cases hx
  rw [add_none, Nat.zero_add, h.cell j (by omega)]
  simp [List.getD_eq_getElem?_getD, hj]
theorem copy_bs (w : World) (w0 : World) (o dLen dCap len cap : Nat) (a : Option Addr) (cur c cur' : List Nat) (F : Fr w0 w cur) (hc : cur' = splice cur o c) (hB : Bs w a len c) (hn : len ≤ dLen) (hfit : o + len ≤ cur.length) :
    (Builtin.copy_ #[24, 24] 3 #[.slice (some ⟨w0.heap.size + 1, o, none⟩) dLen dCap, .slice a len cap]).run Tryd.prog w = .ok (goInt len) (w.setRow (w0.heap.size + 1) (vb cur').toArray) := by
  by_cases h0 : len = 0
  · subst h0
    obtain rfl : c = [] := List.length_eq_zero_iff.1 hB.1
    have e : cur' = cur := by rw [hc]; simp [splice]
    rw [e, setRow_self _ _ _ _ _ F.1, run_copy_none (P := Tryd.prog) w 24 24 3 5 _ _ _ _ _ _ Tryd.underlying24 Tryd.infoByte (by simp)]
    rfl
  · obtain ⟨b, off, rfl, hb, hcell⟩ := hB.pos (by omega)
    have h := copy_vb w w0 o dLen dCap len cap ⟨b, off, none⟩ cur c cur' F hc (by rw [hB.1]; exact (Nat.min_eq_left hn).symm) (by rw [hB.1]; exact hfit) (fun j v hj => by
      have hlt : j < c.length := by have := (List.getElem?_eq_some_iff.1 hj).1; rwa [length_vb] at this
      rw [vb_getD c j hlt] at hj
      rw [add_none, hcell j (by rw [← hB.1]; exact hlt)]
      exact hj)
    rw [hB.1] at h
    exact h

set_option maxHeartbeats 1000000 in
theorem framed_raw (s : ByteArray) (i g : Nat) (a : Option Addr) (len cap : Nat) (p : List Nat) (w : World) (hB : Bs w a len p) (hT : CrcTab w) (hl : len ≤ 106) (hsm : s.size ≤ maxLen) (hg64 : g < 18446744073709551616) (hi64 : i < 18446744073709551616)
    (n0 : Nat) (hn0 : n0 < 4294967296) (HN0 : Hid (n0 = crcM 0 (nums s))) (c0 c1 c2 c3 c4 c5 c6 c7 c8 P1 P2 P3 P4 : List Nat) (HC0 : Hid (c0 = List.replicate 128 0)) (HC1 : Hid (c1 = c0.set 0 229)) (HC2 : Hid (c2 = splice c1 1 P1)) (HC3 : Hid (c3 = splice c2 5 P2)) (HC4 : Hid (c4 = splice c3 9 P3)) (HC5 : Hid (c5 = c4.set 17 len)) (HC6 : Hid (c6 = splice c5 18 p)) (HC7 : Hid (c7 = c6.take 124)) (hz6 : ∀ x ∈ c6, x < 256) (n1 : Nat) (HN1 : Hid (n1 = crcM 0 c7)) (HP4 : Hid (P4 = putB n1 4)) (HC8 : Hid (c8 = splice c6 124 P4)) (HP1 : Hid (P1 = putB n0 4)) (HP2 : Hid (P2 = putB i 4)) (HP3 : Hid (P3 = putB g 8)) :
    Calls Tryd.prog 74 #[.string s, .int .i64 i, .int .i64 g, .slice a len cap] w fun e w' => e = .returned (.agg (vb c8).toArray) ∧ Below w.heap.size w w' := by
  obtain ⟨hz, hzs⟩ := zero_of_info Tryd.infoFrame
  rw [← HC0.out] at hz
  have hcv := fun (wx : World) => Lib.run_convert_string_bytes (P := Tryd.prog) wx 9 24 5 s Tryd.underlying9 Tryd.underlying24 Tryd.underlying5
  have h00 : (vb c0)[0]? = some (.int .u8 0) := by rw [HC0.out]; rfl
  have l0 : c0.length = 128 := by rw [HC0.out]; rfl
  have l1 : c1.length = 128 := by rw [HC1.out]; simpa using l0
  have l2 : P1.length = 4 := by rw [HP1.out]; exact putB_length _ _
  have l3 : P2.length = 4 := by rw [HP2.out]; exact putB_length _ _
  have l4 : P3.length = 8 := by rw [HP3.out]; exact putB_length _ _
  have h64 : n0 < 18446744073709551616 := Nat.lt_trans hn0 (by decide)
  have hwn : IntKind.u64.wrap (n0 : Int) = (n0 : Int) := wrap_u_lt .u64 rfl _ h64
  have hwi : IntKind.u64.wrap (i : Int) = (i : Int) := wrap_u_lt .u64 rfl _ hi64
  have hwg : IntKind.u64.wrap (g : Int) = (g : Int) := wrap_u_lt .u64 rfl _ hg64
  have hf1 : 1 + P1.length ≤ c1.length := by omega
  have l5 : c2.length = 128 := by rw [HC2.out, length_splice _ _ _ (by omega)]; exact l1
  have hf2 : 5 + P2.length ≤ c2.length := by omega
  have l6 : c3.length = 128 := by rw [HC3.out, length_splice _ _ _ (by omega)]; exact l5
  have hf3 : 9 + P3.length ≤ c3.length := by omega
  have l7 : c4.length = 128 := by rw [HC4.out, length_splice _ _ _ (by omega)]; exact l6
  have l8 : c5.length = 128 := by rw [HC5.out]; simpa using l7
  have lp : p.length = len := hB.1
  have l10 : c6.length = 128 := by rw [HC6.out, length_splice _ _ _ (by omega)]; exact l8
  have l9 : P4.length = 4 := by rw [HP4.out]; exact putB_length _ _
  have hf8 : 124 + P4.length ≤ c6.length := by omega
  have h641 : n1 < 18446744073709551616 := by rw [HN1.out]; exact Nat.lt_trans (crcM_lt _ _) (by decide)
  have hwn1 : IntKind.u64.wrap (n1 : Int) = (n1 : Int) := wrap_u_lt .u64 rfl _ h641
  clear lp
  have l11 : c8.length = 128 := by rw [HC8.out, length_splice _ _ _ (by omega)]; exact l10
  have hwl : IntKind.u8.wrap (len : Int) = (len : Int) := wrap_u_lt .u8 rfl _ (by show len < 256; omega)
  go_enter Tryd.func74, Tryd.ntmps74
  go_wp2_with fail
  generalize hw1 : World.alloc (World.alloc w _) _ = w1
  have F1 : Fr w w1 c1 := by
    rw [← hw1]
    refine ⟨?_, ((Below.refl _ _).alloc (Nat.le_refl _) _).alloc (by simp) _, by simp, c0, l0, ?_⟩
    rotate_left
    · rw [heap_alloc_old _ _ (by simp)]; exact heap_alloc_new _ _
    rw [show w.heap.size + 1 = (w.alloc (.cells (vb c0).toArray 113)).heap.size from by simp, heap_alloc_new, HC1.out, ← vb_set]
    rfl
  clear hw1
  have hT1 := hT.below F1.2.1
  have F2 : Fr w (Lib.bytesWorld w1.drew 5 s) c1 := F1.drew.below (below_bytes w1.drew s)
  have hbs := bs_nums w1.drew s hsm
  have hts : CrcTab (Lib.bytesWorld w1.drew 5 s) := hT.below F2.2.1
  go_region_with (first
    | (go_at_call 86; refine (sum_any (some ⟨w1.heap.size, 0, none⟩) s.size (grownCap w1.drew s.size 0 5) (nums s) (Lib.bytesWorld w1.drew 5 s) hbs hts).mono ?_; rw [← HN0.out]; rintro e w2 ⟨rfl, rfl⟩)
    | (go_at_call 49; refine (put_named n0 4 4 P1 (Lib.bytesWorld w1.drew 5 s) h64 (by decide) rfl HP1).mono ?_; rintro e w3 ⟨rfl, hown3, hb3⟩; have F3 := F2.below hb3; have hcp := copy_vb w3 w 1 127 127 4 4 _ c1 P1 c2 F3 HC2.out l2 hf1 (src_of_own hown3)))
  have F4 : Fr w _ c2 := F3.laid (cur' := c2)
  clear hcp hown3 hb3 F3 hbs hts F2 F1 hT1
  generalize w3.setRow (w.heap.size + 1) (vb c2).toArray = w4 at *
  clear hcv
  go_wp2_with fail
  go_region_with (first
    | (go_at_call 49; refine (put_named i 4 4 P2 w4.drew hi64 (by decide) rfl HP2).mono ?_; rintro e w5 ⟨rfl, hown5, hb5⟩; have F5 := F4.drew.below hb5; have hcp := copy_vb w5 w 5 123 123 4 4 ⟨w4.heap.size, 0, none⟩ c2 P2 c3 F5 HC3.out l3 hf2 (src_of_own hown5)))
  have F6 : Fr w _ c3 := F5.laid (cur' := c3)
  clear hcp hown5 hb5 F5 F4
  generalize w5.setRow (w.heap.size + 1) (vb c3).toArray = w6 at *
  go_wp2_with fail
  go_region_with (first
    | (go_at_call 49; refine (put_named g 8 8 P3 w6.drew hg64 (by decide) rfl HP3).mono ?_; rintro e w7 ⟨rfl, hown7, hb7⟩; have F7 := F6.drew.below hb7; have hcp := copy_vb w7 w 9 119 119 8 8 ⟨w6.heap.size, 0, none⟩ c3 P3 c4 F7 HC4.out l4 hf3 (src_of_own hown7)))
  have F8 : Fr w _ c4 := F7.laid (cur' := c4)
  clear hcp hown7 hb7 F7 F6
  generalize w7.setRow (w.heap.size + 1) (vb c4).toArray = w8 at *
  have hx17 := F8.cell 17 (by omega)
  have hf17 := F8.frozen 17
  have F9 := F8.set 17 len
  rw [← HC5.out] at F9
  have hcp := copy_bs _ w 18 110 110 len cap a c5 p c6 F9 HC6.out (hB.below F9.2.1) (by omega) (by omega)
  have F10 : Fr w _ c6 := F9.laid (cur' := c6)
  go_wp2_with fail
  clear hcp F9 F8 hx17 hf17
  generalize (w8.setCell _ _).setRow (w.heap.size + 1) (vb c6).toArray = w10 at *
  have hb10 := F10.drew.bs 124 (by omega) (by decide) hz6
  rw [← HC7.out] at hb10
  have hT10 := hT.below F10.drew.2.1
  go_region_with (first
    | (go_at_call 86; refine (sum_any (some ⟨w.heap.size + 1, 0, none⟩) 124 128 c7 w10.drew hb10 hT10).mono ?_; rw [← HN1.out]; rintro e w2 ⟨rfl, rfl⟩)
    | (go_at_call 49; refine (put_named n1 4 4 P4 w10.drew h641 (by decide) rfl HP4).mono ?_; rintro e w11 ⟨rfl, hown11, hb11⟩; have F11 := F10.drew.below hb11; have hcp := copy_vb w11 w 124 4 4 4 4 ⟨w10.heap.size, 0, none⟩ c6 P4 c8 F11 HC8.out l9 hf8 (src_of_own hown11)))
  have F12 : Fr w _ c8 := F11.laid (cur' := c8)
  clear hcp hown11 hb11 F11 F10 hb10 hT10
  generalize w11.setRow (w.heap.size + 1) (vb c8).toArray = w12 at *
  obtain ⟨hr1, hr2, hr3, old, hr4, hr5⟩ := F12
  have hsz : (Tryd.prog.info? 113).map (·.size) = some (vb c8).toArray.size := by rw [hzs]; simp [length_vb, l11]
  have hold : (vb old).toArray.size = (vb c8).toArray.size := by simp [length_vb, l11, hr4]
  have hone : (vb c8).toArray.all (·.oneCell') = true := by simpa using one_vb c8
  have R1 : Hid (_ = _) := hr1
  have R5 : Hid (_ = _) := hr5
  have HSZ : Hid (_ = _) := hsz
  have HOLD : Hid (_ = _) := hold
  have HONE : Hid (_ = _) := hone
  clear hr1 hr5 hsz hold hone hzs hz
  go_wp2_with (first
    | (refine wpList_load_row rfl 113 (.tmp 9) rfl (w.heap.size + 1) rfl 113 (vb c8).toArray (0, 0) _ R1.out Tryd.underlying113 rfl HSZ.out ?_)
    | (refine wpList_store_row rfl 113 (.tmp 8) (.tmp 41) rfl w.heap.size (vb c8).toArray rfl rfl 113 (vb old).toArray R5.out HSZ.out HOLD.out HONE.out ?_))
  refine bodyPost_ret (v := .agg (vb c8).toArray) (results_cell_row rfl _ _ w.heap.size 113 _ (0, 0) _ rfl (setRow_heap _ _ _ _ _ _ R5.out) Tryd.underlying113 rfl HSZ.out) rfl ⟨rfl, below_setRow hr2 (Nat.le_refl _) _⟩
end Go.Proofs.YtoopdmfijbbfdaaDoor
