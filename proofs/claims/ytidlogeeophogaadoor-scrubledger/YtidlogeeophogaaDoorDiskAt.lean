/- The disk's at, Extents, Free, an extent's read, Read: their contracts. -/
import Derived.Test.YtidlogeeophogaaDoorDiskExt
import Derived.Deep.WholeRow
namespace Go.Proofs.YtidlogeeophogaaDoor
open Go.RowKit Go.Maps
set_option linter.unusedVariables false

theorem Tryd.infoExt : (Tryd.prog.info? 124).map (·.size) = some 385 := by kernel_rfl
theorem sizeExt (w : World) : (sizeOf 124).run Tryd.prog w = .ok 385 w := by
  have h := Tryd.infoExt
  cases hq : Tryd.prog.info? 124 with
  | none => rw [hq] at h; cases h
  | some i =>
    rw [hq] at h
    have hs : i.size = 385 := by simpa using h
    simp [sizeOf, typeInfo, hq, hs]
/-- An element's address, by its equation. -/
theorem wpList_index {P : Program} {w : World} {ops : Array Oper} {rest : List Oper} {o : Oper} {a : Act} {Q : Exit → Act → World → Prop} (hgd : o.guard = none) (t : TypeId) (x i : Operand) (ho : o.op = .indexAddr t x i) (vx vi v : Value) (hx : a.eval x = vx) (hi : a.eval i = vi)
    (hrun : (Instr.indexAt t vx vi).run P w = .ok v w) (h : wpList P ops Q rest (a.put o.dst v) w) : wpList P ops Q (o :: rest) a w := by
  refine wpList_plain hgd fun K hK => ?_
  unfold Oper.wp
  simp [execOp, ho, hx, hi, hrun, Result.andThen]
  exact hK _ _ h
theorem hidn {p : Prop} (h : p) : Hid p := h
/-- A look-up of a name that is there, and of one that is not. -/
theorem DiskIs.look {w : World} {d N : Nat} {F : Nat → Prop} {M : List UInt8 → List Ext} {free fuse : Int} {bm : Nat} {D : DataW Unit} {G C : List UInt8 → Nat} (h : DiskIs w d F N M free fuse bm D G C) (s : ByteArray) (hs : s.size ≤ maxLen) (hne : M s.data.toList ≠ []) :
    (Instr.lookup 36 (.map (some bm)) (.string s) false).run Tryd.prog w = .ok (.slice (some ⟨G s.data.toList, 0, none⟩) (M s.data.toList).length (C s.data.toList)) w := by
  obtain ⟨h1, h2, h3, h4, h5, h6, h7⟩ := h
  obtain ⟨v, ps, hrun, hv⟩ := h4.lookup lawS Tryd.underlying36 (zeroSl w) hd_nil (Go.WideMaps.keyOf_string_mk Tryd.underlying9 hs)
  rw [(h6 _ hne).1] at hv
  rw [hd_inv hv] at hrun
  exact hrun
theorem DiskIs.look_no {w : World} {d N : Nat} {F : Nat → Prop} {M : List UInt8 → List Ext} {free fuse : Int} {bm : Nat} {D : DataW Unit} {G C : List UInt8 → Nat} (h : DiskIs w d F N M free fuse bm D G C) (s : ByteArray) (hs : s.size ≤ maxLen) (he : M s.data.toList = []) :
    (Instr.lookup 36 (.map (some bm)) (.string s) false).run Tryd.prog w = .ok (.slice none 0 0) w := by
  obtain ⟨h1, h2, h3, h4, h5, h6, h7⟩ := h
  obtain ⟨v, ps, hrun, hv⟩ := h4.lookup lawS Tryd.underlying36 (zeroSl w) hd_nil (Go.WideMaps.keyOf_string_mk Tryd.underlying9 hs)
  rw [atKey_of_not_has (h5 _ he)] at hv
  rw [hd_inv_nil hv] at hrun
  exact hrun
theorem DiskIs.c0 {w : World} {d N : Nat} {F : Nat → Prop} {M : List UInt8 → List Ext} {free fuse : Int} {bm : Nat} {D : DataW Unit} {G C : List UInt8 → Nat} (h : DiskIs w d F N M free fuse bm D G C) : w.cell? ⟨d, 0, none⟩ = some (.map (some bm)) := by rw [cell_of_row _ _ _ _ _ _ h.1]; rfl
theorem DiskIs.c1 {w : World} {d N : Nat} {F : Nat → Prop} {M : List UInt8 → List Ext} {free fuse : Int} {bm : Nat} {D : DataW Unit} {G C : List UInt8 → Nat} (h : DiskIs w d F N M free fuse bm D G C) : w.cell? ⟨d, 1, none⟩ = some (.int .i64 free) := by rw [cell_of_row _ _ _ _ _ _ h.1]; rfl
theorem DiskIs.len {w : World} {d N : Nat} {F : Nat → Prop} {M : List UInt8 → List Ext} {free fuse : Int} {bm : Nat} {D : DataW Unit} {G C : List UInt8 → Nat} (h : DiskIs w d F N M free fuse bm D G C) (s : List UInt8) : (M s).length ≤ maxLen := by
  by_cases hne : M s = []
  · rw [hne]; exact Nat.zero_le _
  · rcases (h.2.2.2.2.2.1 s hne).2.1.2 with ⟨hv, _⟩ | ⟨g', c', cur, hv, _, _, hn, hc, _⟩
    · cases hv
    · omega

set_option maxHeartbeats 1000000 in
theorem at_some (w : World) (d : Nat) (F : Nat → Prop) (N : Nat) (M : List UInt8 → List Ext) (free fuse : Int) (bm : Nat) (D : DataW Unit) (G C : List UInt8 → Nat) (h : DiskIs w d F N M free fuse bm D G C) (s : ByteArray) (hs : s.size ≤ maxLen) (i n o : Nat) (HN : Hid (n = (M s.data.toList).length)) (hi : i < n) (ho : i * 385 = o) :
    Calls Tryd.prog 65 #[.pointer (some ⟨d, 0, none⟩), .string s, .int .i64 i] w fun e w' => e = .returned (.pointer (some ⟨G s.data.toList, o, none⟩)) ∧ w' = w := by
  have hlen := h.len s.data.toList
  rw [← HN.out] at hlen
  have hlk := h.look s hs (fun e => by have := HN.out; rw [e] at this; simp at this; omega)
  rw [← HN.out] at hlk
  have c0 := h.c0
  generalize G s.data.toList = g at *
  generalize C s.data.toList = c at *
  clear h
  unfold maxLen at hlen hs
  have h1 : (i : Int) < (n : Int) := by omega
  have HIX : Hid (∀ wx, (Instr.indexAt 121 (.slice (some ⟨g, 0, none⟩) n c) (.int .i64 (i : Int))).run Tryd.prog wx = .ok (.pointer (some ⟨g, o, none⟩)) wx) := hidn (by
    intro wx
    rw [run_indexAt_slice _ _ _ _ _ _ _ (show Tryd.prog.underlying 121 = some (.slice (Tryd.prog.elem 121)) by kernel_rfl), if_pos ⟨by omega, h1⟩, show Tryd.prog.elem 121 = 124 by kernel_rfl, sizeExt]
    show Result.ok (Value.pointer (some ((⟨g, 0, none⟩ : Addr).add ((i : Int).toNat * 385)))) wx = _
    rw [Int.toNat_natCast, ho, add_none, Nat.zero_add])
  clear ho
  have h0 : decide ((i : Int) < 0) = false := by simp
  have h2 : decide (n ≤ i) = false := by simp; omega
  go_enter Tryd.func65, Tryd.ntmps65
  go_wp2_with (refine wpList_index (by rfl) 121 (.tmp 22) (.tmp 23) (by rfl) (.slice (some ⟨g, 0, none⟩) n c) (.int .i64 (i : Int)) (.pointer (some ⟨g, o, none⟩)) (by rfl) (by rfl) (HIX.out w) ?_)
  go_ret
  exact ⟨rfl, rfl⟩

set_option maxHeartbeats 1000000 in
theorem at_none (w : World) (d : Nat) (F : Nat → Prop) (N : Nat) (M : List UInt8 → List Ext) (free fuse : Int) (bm : Nat) (D : DataW Unit) (G C : List UInt8 → Nat) (h : DiskIs w d F N M free fuse bm D G C) (s : ByteArray) (hs : s.size ≤ maxLen) (i : Int) (n : Nat) (HN : Hid (n = (M s.data.toList).length)) (hi : i < 0 ∨ (n : Int) ≤ i) :
    Calls Tryd.prog 65 #[.pointer (some ⟨d, 0, none⟩), .string s, .int .i64 i] w fun e w' => e = .returned (.pointer none) ∧ w' = w := by
  have hlen := h.len s.data.toList
  rw [← HN.out] at hlen
  have c0 := h.c0
  obtain ⟨v, a, c, hv, hlk⟩ : ∃ v a c, v = Value.slice a n c ∧ (Instr.lookup 36 (.map (some bm)) (.string s) false).run Tryd.prog w = .ok v w := by
    by_cases hne : M s.data.toList = []
    · refine ⟨_, none, 0, ?_, h.look_no s hs hne⟩
      rw [HN.out, hne]; rfl
    · exact ⟨.slice (some ⟨G s.data.toList, 0, none⟩) (M s.data.toList).length (C s.data.toList), some ⟨G s.data.toList, 0, none⟩, C s.data.toList, by rw [HN.out], h.look s hs hne⟩
  subst hv
  clear h
  unfold maxLen at hlen hs
  rcases hi with hi | hi
  · go_enter Tryd.func65, Tryd.ntmps65
    go_wp2
    go_ret
    exact ⟨rfl, rfl⟩
  · have h0 : ¬ i < 0 := by omega
    go_enter Tryd.func65, Tryd.ntmps65
    go_wp2
    go_ret
    exact ⟨rfl, rfl⟩

theorem Tryd.infoImage : (Tryd.prog.info? 116).map (fun i => (i.zero, i.size)) = some (some (.agg (vb (List.replicate 128 0)).toArray), 128) := by kernel_rfl
/-- What is read of an extent. -/
def Ext.rd (x : Ext) : List Nat := if x.waits then x.wri else x.dur

set_option maxHeartbeats 1000000 in
theorem read_any (w : World) (g o : Nat) (b : Bool) (im : List Nat) (hl : im.length = 128) (hb : w.cell? ⟨g, o + 384, none⟩ = some (.bool b)) (hr : w.rangeAt g (o + if b then 256 else 0) (vb im)) :
    Calls Tryd.prog 66 #[.pointer (some ⟨g, o, none⟩)] w fun e w' => e = .returned (.agg (vb im).toArray) ∧ Below w.heap.size w w' := by
  obtain ⟨hz, hzs⟩ := zero_of_info Tryd.infoImage
  obtain ⟨c0, hc0⟩ : ∃ c0, c0 = List.replicate 128 0 := ⟨_, rfl⟩
  rw [← hc0] at hz
  have l0 : (vb c0).toArray.size = 128 := by rw [hc0]; rfl
  have lz : (vb im).toArray.size = 128 := by simp [length_vb, hl]
  have HSZ : Hid ((Tryd.prog.info? 116).map (·.size) = some (vb im).toArray.size) := hidn (by rw [hzs, lz])
  have HSL : Hid ((Tryd.prog.info? 116).map (·.size) = some (vb im).length) := hidn (by rw [hzs, length_vb, hl])
  have HOLD : Hid ((vb c0).toArray.size = (vb im).toArray.size) := hidn (by rw [l0, lz])
  have HONE : Hid ((vb im).toArray.all (·.oneCell') = true) := hidn (by simpa using one_vb im)
  have hb1 := Lib.cell?_alloc_some (.cells (vb c0).toArray 116) hb
  have hr1 := World.rangeAt_alloc hr (.cells (vb c0).toArray 116)
  have hbel : Below w.heap.size w (w.alloc (.cells (vb c0).toArray 116)) := (Below.refl _ _).alloc (Nat.le_refl _) _
  clear l0 lz hzs hc0 hb hr
  cases b with
  | true =>
    have HR : Hid ((w.alloc (.cells (vb c0).toArray 116)).rangeAt g (o + 256) (vb im)) := hr1
    clear hr1
    go_enter Tryd.func66, Tryd.ntmps66
    go_wp2_with (first
      | (refine wpList_load_mid (by rfl) 116 _ (by rfl) g (o + 256) (by rfl) (vb im) _ HR.out Tryd.underlying116 (by rfl) HSL.out ?_)
      | (refine wpList_store_row (by rfl) 116 _ _ (by rfl) w.heap.size (vb im).toArray (by rfl) (by rfl) 116 (vb c0).toArray (heap_alloc_new _ _) HSZ.out HOLD.out HONE.out ?_))
    refine bodyPost_ret (v := .agg (vb im).toArray) (results_cell_row rfl _ _ w.heap.size 116 _ (0, 0) _ rfl (setRow_heap _ _ _ _ _ _ (heap_alloc_new _ _)) Tryd.underlying116 rfl HSZ.out) rfl ⟨rfl, below_setRow hbel (Nat.le_refl _) _⟩
  | false =>
    have HR : Hid ((w.alloc (.cells (vb c0).toArray 116)).rangeAt g o (vb im)) := hr1
    clear hr1
    go_enter Tryd.func66, Tryd.ntmps66
    go_wp2_with (first
      | (refine wpList_load_mid (by rfl) 116 _ (by rfl) g (o) (by rfl) (vb im) _ HR.out Tryd.underlying116 (by rfl) HSL.out ?_)
      | (refine wpList_store_row (by rfl) 116 _ _ (by rfl) w.heap.size (vb im).toArray (by rfl) (by rfl) 116 (vb c0).toArray (heap_alloc_new _ _) HSZ.out HOLD.out HONE.out ?_))
    refine bodyPost_ret (v := .agg (vb im).toArray) (results_cell_row rfl _ _ w.heap.size 116 _ (0, 0) _ rfl (setRow_heap _ _ _ _ _ _ (heap_alloc_new _ _)) Tryd.underlying116 rfl HSZ.out) rfl ⟨rfl, below_setRow hbel (Nat.le_refl _) _⟩

/-- What is read of a file's extent. -/
theorem ext_read {w : World} {base g n c : Nat} {l : List Ext} (h : w.ownsRow base 124 385 (.slice (some ⟨g, 0, none⟩) n c) n (cellsE l)) (hok : ∀ x ∈ l, x.ok) (i : Nat) (hi : i < l.length) :
    w.cell? ⟨g, i * 385 + 384, none⟩ = some (.bool l[i].waits) ∧ w.rangeAt g (i * 385 + if l[i].waits then 256 else 0) (vb l[i].rd) ∧ l[i].rd.length = 128 ∧ ∀ y ∈ l[i].rd, y < 256 := by
  have hx := hok _ (List.getElem_mem hi)
  obtain ⟨⟨d1, d2⟩, ⟨s1, s2⟩, ⟨w1, w2⟩⟩ := hx
  have hw : w.rangeAt g (i * 385 + 384) [.bool l[i].waits] := own_range h hok i hi 384 _ (by simp) (fun j v hj => by
    have hlt := (List.getElem?_eq_some_iff.1 hj).1
    obtain rfl : j = 0 := by simp at hlt; omega
    simp [Ext.cells, length_vb, d1, s1, w1] at hj ⊢
    exact hj)
  refine ⟨by simpa using hw 0 _ rfl, ?_⟩
  cases hwt : l[i].waits with
  | true =>
    have e : l[i].rd = l[i].wri := by simp [Ext.rd, hwt]
    rw [e]
    refine ⟨own_range h hok i hi 256 _ (by rw [length_vb, w1]; omega) (fun j v hj => ?_), w1, w2⟩
    have hlt := (List.getElem?_eq_some_iff.1 hj).1
    rw [length_vb, w1] at hlt
    rw [Ext.cells, List.getElem?_append_right (by rw [length_vb, d1]; omega), List.getElem?_append_right (by rw [length_vb, length_vb, d1, s1]; omega), List.getElem?_append_left (by rw [length_vb, length_vb, length_vb, d1, s1, w1]; omega), length_vb, length_vb, d1, s1, show 256 + j - 128 - 128 = j by omega]
    exact hj
  | false =>
    have e : l[i].rd = l[i].dur := by simp [Ext.rd, hwt]
    rw [e]
    refine ⟨own_range h hok i hi 0 _ (by rw [length_vb, d1]; omega) (fun j v hj => ?_), d1, d2⟩
    have hlt := (List.getElem?_eq_some_iff.1 hj).1
    rw [Ext.cells, Nat.zero_add, List.getElem?_append_left hlt]
    exact hj
end Go.Proofs.YtidlogeeophogaaDoor
