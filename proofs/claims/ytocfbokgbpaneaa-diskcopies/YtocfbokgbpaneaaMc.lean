/- The disk's at, Extents, Free, an extent's read, Read: their contracts. -/
import Derived.Test.YtocfbokgbpaneaaMb
import Derived.Deep.WholeRow
namespace Go.Proofs.Ytocfbokgbpaneaa
open Go.RowKit Go.Maps
set_option linter.unusedVariables false

theorem Try.infoExt : (Try.prog.info? 49).map (·.size) = some 385 := by kernel_rfl
theorem sizeExt (w : World) : (sizeOf 49).run Try.prog w = .ok 385 w := by
  have h := Try.infoExt
  cases hq : Try.prog.info? 49 with
  | none => rw [hq] at h; cases h
  | some i =>
    rw [hq] at h
    have hs : i.size = 385 := by simpa using h
    simp [sizeOf, typeInfo, hq, hs]
/-- An element's address, by its equation. -/
theorem wpList_index {P : Program} {w : World} {ops : Array Oper} {rest : List Oper} {o : Oper} {a : Act} {Q : Exit → Act → World → Prop} (hgd : o.guard = none) (t : TypeId) (x i : Operand) (ho : o.op = .indexAddr t x i) (vx vi v : Value) (hx : a.eval x = vx) (hi : a.eval i = vi)
    (hrun : (Instr.indexAt t vx vi).run P w = .ok v w) (h : wpList P ops Q rest (a.put o.dst v) w) : wpList P ops Q (o :: rest) a w := by
  refine wpList_plain hgd fun K hK => ?_
  unfold Oper.wp
  simp [execOp, ho, hx, hi, hrun, Result.andThen]
  exact hK _ _ h
theorem hidn {p : Prop} (h : p) : Hid p := h
/-- A look-up of a name that is there, and of one that is not. -/
theorem DiskIs.look {w : World} {d N : Nat} {F : Nat → Prop} {M : List UInt8 → List Ext} {free fuse : Int} {bm : Nat} {D : DataW Unit} {G C : List UInt8 → Nat} (h : DiskIs w d F N M free fuse bm D G C) (s : ByteArray) (hs : s.size ≤ maxLen) (hne : M s.data.toList ≠ []) :
    (Instr.lookup 41 (.map (some bm)) (.string s) false).run Try.prog w = .ok (.slice (some ⟨G s.data.toList, 0, none⟩) (M s.data.toList).length (C s.data.toList)) w := by
  obtain ⟨h1, h2, h3, h4, h5, h6, h7⟩ := h
  obtain ⟨v, ps, hrun, hv⟩ := h4.lookup lawS Try.underlying41 (zeroSl w) hd_nil (Go.WideMaps.keyOf_string_mk Try.underlying9 hs)
  rw [(h6 _ hne).1] at hv
  rw [hd_inv hv] at hrun
  exact hrun
theorem DiskIs.look_no {w : World} {d N : Nat} {F : Nat → Prop} {M : List UInt8 → List Ext} {free fuse : Int} {bm : Nat} {D : DataW Unit} {G C : List UInt8 → Nat} (h : DiskIs w d F N M free fuse bm D G C) (s : ByteArray) (hs : s.size ≤ maxLen) (he : M s.data.toList = []) :
    (Instr.lookup 41 (.map (some bm)) (.string s) false).run Try.prog w = .ok (.slice none 0 0) w := by
  obtain ⟨h1, h2, h3, h4, h5, h6, h7⟩ := h
  obtain ⟨v, ps, hrun, hv⟩ := h4.lookup lawS Try.underlying41 (zeroSl w) hd_nil (Go.WideMaps.keyOf_string_mk Try.underlying9 hs)
  rw [atKey_of_not_has (h5 _ he)] at hv
  rw [hd_inv_nil hv] at hrun
  exact hrun
theorem DiskIs.c0 {w : World} {d N : Nat} {F : Nat → Prop} {M : List UInt8 → List Ext} {free fuse : Int} {bm : Nat} {D : DataW Unit} {G C : List UInt8 → Nat} (h : DiskIs w d F N M free fuse bm D G C) : w.cell? ⟨d, 0, none⟩ = some (.map (some bm)) := by rw [cell_of_row _ _ _ _ _ _ h.1]; rfl
theorem DiskIs.c1 {w : World} {d N : Nat} {F : Nat → Prop} {M : List UInt8 → List Ext} {free fuse : Int} {bm : Nat} {D : DataW Unit} {G C : List UInt8 → Nat} (h : DiskIs w d F N M free fuse bm D G C) : w.cell? ⟨d, 1, none⟩ = some (.int .i64 free) := by rw [cell_of_row _ _ _ _ _ _ h.1]; rfl
theorem DiskIs.len {w : World} {d N : Nat} {F : Nat → Prop} {M : List UInt8 → List Ext} {free fuse : Int} {bm : Nat} {D : DataW Unit} {G C : List UInt8 → Nat} (h : DiskIs w d F N M free fuse bm D G C) (s : List UInt8) : (M s).length ≤ maxLen := by
  by_cases hne : M s = []
  · rw [hne]; exact Nat.zero_le _
  · rcases (h.2.2.2.2.2.1 s hne).2.1.2 with ⟨hv, _⟩ | ⟨g', c', cur, hv, _, _, hn, hc, _⟩
    · cases hv
    · omega

set_option maxHeartbeats 1000000 in
theorem at_some (w : World) (d : Nat) (F : Nat → Prop) (N : Nat) (M : List UInt8 → List Ext) (free fuse : Int) (bm : Nat) (D : DataW Unit) (G C : List UInt8 → Nat) (h : DiskIs w d F N M free fuse bm D G C) (s : ByteArray) (hs : s.size ≤ maxLen) (i n o : Nat) (HN : Hid (n = (M s.data.toList).length)) (hi : i < n) (ho : i * 385 = o) :
    Calls Try.prog 47 #[.pointer (some ⟨d, 0, none⟩), .string s, .int .i64 i] w fun e w' => e = .returned (.pointer (some ⟨G s.data.toList, o, none⟩)) ∧ w' = w := by
  have hlen := h.len s.data.toList
  rw [← HN.out] at hlen
  have hlk := h.look s hs (fun e => by have := HN.out; rw [e] at this; simp at this; omega)
  rw [← HN.out] at hlk
  have c0 := h.c0
  generalize G s.data.toList = g at *
  generalize C s.data.toList = c at *
  clear h
  unfold maxLen at hlen hs
  have h1 : (i : Int) < (n : Int) := by omega
  have HIX : Hid (∀ wx, (Instr.indexAt 44 (.slice (some ⟨g, 0, none⟩) n c) (.int .i64 (i : Int))).run Try.prog wx = .ok (.pointer (some ⟨g, o, none⟩)) wx) := hidn (by
    intro wx
    rw [run_indexAt_slice _ _ _ _ _ _ _ (show Try.prog.underlying 44 = some (.slice (Try.prog.elem 44)) by kernel_rfl), if_pos ⟨by omega, h1⟩, show Try.prog.elem 44 = 49 by kernel_rfl, sizeExt]
    show Result.ok (Value.pointer (some ((⟨g, 0, none⟩ : Addr).add ((i : Int).toNat * 385)))) wx = _
    rw [Int.toNat_natCast, ho, add_none, Nat.zero_add])
  clear ho
  have h0 : decide ((i : Int) < 0) = false := by simp
  have h2 : decide (n ≤ i) = false := by simp; omega
  go_enter Try.func47, Try.ntmps47
  go_wp2_with (refine wpList_index (by rfl) 44 (.tmp 22) (.tmp 23) (by rfl) (.slice (some ⟨g, 0, none⟩) n c) (.int .i64 (i : Int)) (.pointer (some ⟨g, o, none⟩)) (by rfl) (by rfl) (HIX.out w) ?_)
  go_ret
  exact ⟨rfl, rfl⟩

set_option maxHeartbeats 1000000 in
theorem at_none (w : World) (d : Nat) (F : Nat → Prop) (N : Nat) (M : List UInt8 → List Ext) (free fuse : Int) (bm : Nat) (D : DataW Unit) (G C : List UInt8 → Nat) (h : DiskIs w d F N M free fuse bm D G C) (s : ByteArray) (hs : s.size ≤ maxLen) (i : Int) (n : Nat) (HN : Hid (n = (M s.data.toList).length)) (hi : i < 0 ∨ (n : Int) ≤ i) :
    Calls Try.prog 47 #[.pointer (some ⟨d, 0, none⟩), .string s, .int .i64 i] w fun e w' => e = .returned (.pointer none) ∧ w' = w := by
  have hlen := h.len s.data.toList
  rw [← HN.out] at hlen
  have c0 := h.c0
  obtain ⟨v, a, c, hv, hlk⟩ : ∃ v a c, v = Value.slice a n c ∧ (Instr.lookup 41 (.map (some bm)) (.string s) false).run Try.prog w = .ok v w := by
    by_cases hne : M s.data.toList = []
    · refine ⟨_, none, 0, ?_, h.look_no s hs hne⟩
      rw [HN.out, hne]; rfl
    · exact ⟨.slice (some ⟨G s.data.toList, 0, none⟩) (M s.data.toList).length (C s.data.toList), some ⟨G s.data.toList, 0, none⟩, C s.data.toList, by rw [HN.out], h.look s hs hne⟩
  subst hv
  clear h
  unfold maxLen at hlen hs
  rcases hi with hi | hi
  · go_enter Try.func47, Try.ntmps47
    go_wp2
    go_ret
    exact ⟨rfl, rfl⟩
  · have h0 : ¬ i < 0 := by omega
    go_enter Try.func47, Try.ntmps47
    go_wp2
    go_ret
    exact ⟨rfl, rfl⟩

theorem Try.infoImage : (Try.prog.info? 47).map (fun i => (i.zero, i.size)) = some (some (.agg (vb (List.replicate 128 0)).toArray), 128) := by kernel_rfl
/-- What is read of an extent. -/
def Ext.rd (x : Ext) : List Nat := if x.waits then x.wri else x.dur

set_option maxHeartbeats 1000000 in
theorem read_any (w : World) (g o : Nat) (b : Bool) (im : List Nat) (hl : im.length = 128) (hb : w.cell? ⟨g, o + 384, none⟩ = some (.bool b)) (hr : w.rangeAt g (o + if b then 256 else 0) (vb im)) :
    Calls Try.prog 53 #[.pointer (some ⟨g, o, none⟩)] w fun e w' => e = .returned (.agg (vb im).toArray) ∧ Below w.heap.size w w' := by
  obtain ⟨hz, hzs⟩ := zero_of_info Try.infoImage
  obtain ⟨c0, hc0⟩ : ∃ c0, c0 = List.replicate 128 0 := ⟨_, rfl⟩
  rw [← hc0] at hz
  have l0 : (vb c0).toArray.size = 128 := by rw [hc0]; rfl
  have lz : (vb im).toArray.size = 128 := by simp [length_vb, hl]
  have HSZ : Hid ((Try.prog.info? 47).map (·.size) = some (vb im).toArray.size) := hidn (by rw [hzs, lz])
  have HSL : Hid ((Try.prog.info? 47).map (·.size) = some (vb im).length) := hidn (by rw [hzs, length_vb, hl])
  have HOLD : Hid ((vb c0).toArray.size = (vb im).toArray.size) := hidn (by rw [l0, lz])
  have HONE : Hid ((vb im).toArray.all (·.oneCell') = true) := hidn (by simpa using one_vb im)
  have hb1 := Lib.cell?_alloc_some (.cells (vb c0).toArray 47) hb
  have hr1 := World.rangeAt_alloc hr (.cells (vb c0).toArray 47)
  have hbel : Below w.heap.size w (w.alloc (.cells (vb c0).toArray 47)) := (Below.refl _ _).alloc (Nat.le_refl _) _
  clear l0 lz hzs hc0 hb hr
  cases b with
  | true =>
    have HR : Hid ((w.alloc (.cells (vb c0).toArray 47)).rangeAt g (o + 256) (vb im)) := hr1
    clear hr1
    go_enter Try.func53, Try.ntmps53
    go_wp2_with (first
      | (refine wpList_load_mid (by rfl) 47 _ (by rfl) g (o + 256) (by rfl) (vb im) _ HR.out Try.underlying47 (by rfl) HSL.out ?_)
      | (refine wpList_store_row (by rfl) 47 _ _ (by rfl) w.heap.size (vb im).toArray (by rfl) (by rfl) 47 (vb c0).toArray (heap_alloc_new _ _) HSZ.out HOLD.out HONE.out ?_))
    refine bodyPost_ret (v := .agg (vb im).toArray) (results_cell_row rfl _ _ w.heap.size 47 _ (0, 0) _ rfl (setRow_heap _ _ _ _ _ _ (heap_alloc_new _ _)) Try.underlying47 rfl HSZ.out) rfl ⟨rfl, below_setRow hbel (Nat.le_refl _) _⟩
  | false =>
    have HR : Hid ((w.alloc (.cells (vb c0).toArray 47)).rangeAt g o (vb im)) := hr1
    clear hr1
    go_enter Try.func53, Try.ntmps53
    go_wp2_with (first
      | (refine wpList_load_mid (by rfl) 47 _ (by rfl) g (o) (by rfl) (vb im) _ HR.out Try.underlying47 (by rfl) HSL.out ?_)
      | (refine wpList_store_row (by rfl) 47 _ _ (by rfl) w.heap.size (vb im).toArray (by rfl) (by rfl) 47 (vb c0).toArray (heap_alloc_new _ _) HSZ.out HOLD.out HONE.out ?_))
    refine bodyPost_ret (v := .agg (vb im).toArray) (results_cell_row rfl _ _ w.heap.size 47 _ (0, 0) _ rfl (setRow_heap _ _ _ _ _ _ (heap_alloc_new _ _)) Try.underlying47 rfl HSZ.out) rfl ⟨rfl, below_setRow hbel (Nat.le_refl _) _⟩

/-- What is read of a file's extent. -/
theorem ext_read {w : World} {base g n c : Nat} {l : List Ext} (h : w.ownsRow base 49 385 (.slice (some ⟨g, 0, none⟩) n c) n (cellsE l)) (hok : ∀ x ∈ l, x.ok) (i : Nat) (hi : i < l.length) :
    w.cell? ⟨g, i * 385 + 384, none⟩ = some (.bool l[i].waits) ∧ w.rangeAt g (i * 385 + if l[i].waits then 256 else 0) (vb l[i].rd) ∧ l[i].rd.length = 128 ∧ ∀ y ∈ l[i].rd, y < 256 := by
  have hx := hok _ (List.getElem_mem hi)
  obtain ⟨⟨d1, d2⟩, ⟨s1, s2⟩, ⟨w1, w2⟩⟩ := hx
  have hw : w.rangeAt g (i * 385 + 384) [.bool l[i].waits] := own_range h hok i hi 384 _ (by simp) (fun j v hj => by
    have hlt := (List.getElem?_eq_some_iff.1 hj).1
    obtain rfl : j = 0 := by simp at hlt; omega
    simp [Ext.cells, length_vb, d1, s1, w1] at hj ⊢
    exact hj)
  refine ⟨by simpa using hw 0 _ rfl, ?_⟩
  cases hwt : l[i].waits with
  | true =>
    have e : l[i].rd = l[i].wri := by simp [Ext.rd, hwt]
    rw [e]
    refine ⟨own_range h hok i hi 256 _ (by rw [length_vb, w1]; omega) (fun j v hj => ?_), w1, w2⟩
    have hlt := (List.getElem?_eq_some_iff.1 hj).1
    rw [length_vb, w1] at hlt
    rw [Ext.cells, List.getElem?_append_right (by rw [length_vb, d1]; omega), List.getElem?_append_right (by rw [length_vb, length_vb, d1, s1]; omega), List.getElem?_append_left (by rw [length_vb, length_vb, length_vb, d1, s1, w1]; omega), length_vb, length_vb, d1, s1, show 256 + j - 128 - 128 = j by omega]
    exact hj
  | false =>
    have e : l[i].rd = l[i].dur := by simp [Ext.rd, hwt]
    rw [e]
    refine ⟨own_range h hok i hi 0 _ (by rw [length_vb, d1]; omega) (fun j v hj => ?_), d1, d2⟩
    have hlt := (List.getElem?_eq_some_iff.1 hj).1
    rw [Ext.cells, Nat.zero_add, List.getElem?_append_left hlt]
    exact hj
end Go.Proofs.Ytocfbokgbpaneaa

namespace Go.Proofs.Ytocfbokgbpaneaa
open Go.RowKit Go.Maps
set_option linter.unusedVariables false


set_option maxHeartbeats 1000000 in
theorem diskRead_none (w : World) (d : Nat) (F : Nat → Prop) (N : Nat) (M : List UInt8 → List Ext) (free fuse : Int) (h : DiskOf w d F N M free fuse) (s : ByteArray) (hs : s.size ≤ maxLen) (i : Int) (n : Nat) (HN : Hid (n = (M s.data.toList).length)) (hi : i < 0 ∨ (n : Int) ≤ i) :
    Calls Try.prog 37 #[.pointer (some ⟨d, 0, none⟩), .string s, .int .i64 i] w fun e w' => e = .returned (.tuple #[.slice none 0 0, .int .i64 30]) ∧ Below w.heap.size w w' := by
  obtain ⟨bm, D, G, C, hI⟩ := h.is
  have hpn := fun (wx : World) (p : Option Addr) => run_eql_pointer_nil (P := Try.prog) wx 81 p (by kernel_rfl)
  go_enter Try.func37, Try.ntmps37
  go_wp2_with fail
  refine (isMade_any _ d F N M free fuse h).mono ?_
  rintro e w1 ⟨rfl, rfl⟩
  go_wp2_with fail
  refine (at_none _ d F N M free fuse bm D G C hI s hs i n HN hi).mono ?_
  rintro e w2 ⟨rfl, rfl⟩
  go_wp2
  go_ret2
  exact ⟨rfl, Below.refl _ _⟩

set_option maxHeartbeats 1000000 in
theorem diskRead_some (w : World) (d : Nat) (F : Nat → Prop) (N : Nat) (M : List UInt8 → List Ext) (free fuse : Int) (h : DiskOf w d F N M free fuse) (s : ByteArray) (hs : s.size ≤ maxLen) (i n o : Nat) (HN : Hid (n = (M s.data.toList).length)) (hi : i < n) (ho : i * 385 = o) (im : List Nat) (x : Ext) (HX : Hid ((M s.data.toList)[i]? = some x)) (HM : Hid (im = x.rd)) :
    Calls Try.prog 37 #[.pointer (some ⟨d, 0, none⟩), .string s, .int .i64 i] w fun e w' => ∃ b, e = .returned (.tuple #[.slice (some ⟨b, 0, none⟩) 128 128, .int .i64 0]) ∧ w.heap.size ≤ b ∧ Bs w' (some ⟨b, 0, none⟩) 128 im ∧ Below w.heap.size w w' := by
  obtain ⟨bm, D, G, C, hI⟩ := h.is
  have hpn := fun (wx : World) (p : Option Addr) => run_eql_pointer_nil (P := Try.prog) wx 81 p (by kernel_rfl)
  obtain ⟨hil, hxe⟩ := List.getElem?_eq_some_iff.1 HX.out
  obtain ⟨_, hrow, hok⟩ := hI.2.2.2.2.2.1 s.data.toList (fun e => by rw [e] at hil; simp at hil)
  obtain ⟨r1, r2, r3, r4⟩ := ext_read hrow hok i hil
  rw [hxe, ho] at r1 r2
  rw [hxe] at r3 r4
  rw [← HM.out] at r2 r3 r4
  have hsz := (zero_of_info Try.infoImage).2
  have hz := (zero_of_info Try.infoImage).1
  obtain ⟨c0, hc0⟩ : ∃ c0, c0 = List.replicate 128 0 := ⟨_, rfl⟩
  rw [← hc0] at hz
  have l0 : (vb c0).toArray.size = 128 := by rw [hc0]; rfl
  have lz : (vb im).toArray.size = 128 := by simp [length_vb, r3]
  have HSZ : Hid ((Try.prog.info? 47).map (·.size) = some (vb im).toArray.size) := hidn (by rw [hsz, lz])
  have HOLD : Hid ((vb c0).toArray.size = (vb im).toArray.size) := hidn (by rw [l0, lz])
  have HONE : Hid ((vb im).toArray.all (·.oneCell') = true) := hidn (by simpa using one_vb im)
  have HL : Hid (im.length = 128) := r3
  have HR2 : Hid _ := r2
  have HR1 : Hid (_ = _) := r1
  have HO : Hid (i * 385 = o) := ho
  clear l0 lz hsz hc0 hrow hok r1 r2 r3 hxe ho hil
  go_enter Try.func37, Try.ntmps37
  go_wp2_with fail
  refine (isMade_any _ d F N M free fuse h).mono ?_
  rintro e w1 ⟨rfl, rfl⟩
  go_wp2_with fail
  refine (at_some _ d F N M free fuse bm D G C hI s hs i n o HN hi HO.out).mono ?_
  rintro e w2 ⟨rfl, rfl⟩
  generalize G s.data.toList = g at *
  go_wp2_with fail
  refine (read_any _ g o x.waits im HL.out HR1.out HR2.out).mono ?_
  rintro e w3 ⟨rfl, hb3⟩
  go_wp2_with (refine wpList_store_row (by rfl) 47 _ _ (by rfl) w3.heap.size (vb im).toArray (by rfl) (by rfl) 47 (vb c0).toArray (heap_alloc_new _ _) HSZ.out HOLD.out HONE.out ?_)
  go_ret2
  refine ⟨w3.heap.size, rfl, hb3.size, ?_, below_setRow (hb3.alloc hb3.size _) hb3.size _⟩
  have := bs_of_block (setRow_heap _ _ _ (vb im).toArray _ _ (heap_alloc_new w3 (.cells (vb c0).toArray 47))) (by rw [HL.out]; decide) r4
  rw [HL.out] at this
  exact this
end Go.Proofs.Ytocfbokgbpaneaa
