/- One extent of one file: its parts read, and turned. -/
import Derived.Test.YtocfbokgbpaneaaDiskGrow
import Derived.Test.YtocfbokgbpaneaaMb
import Derived.Laws.CopyRow
namespace Go.Proofs.Ytocfbokgbpaneaa
open Go.RowKit Go.Maps
set_option linter.unusedVariables false

theorem bs_range {w : World} {b off len : Nat} {zs : List Nat} (h : Bs w (some ⟨b, off, none⟩) len zs) : w.rangeAt b off (vb zs) := by
  intro j v hj
  have hlt := (List.getElem?_eq_some_iff.1 hj).1
  rw [length_vb] at hlt
  have h1 := h.2.2.2.2 _ rfl j (by rw [← h.1]; exact hlt)
  rw [add_none] at h1
  rw [vb_getD zs j hlt] at hj
  rw [h1]; exact hj
theorem upd_upd (M : List UInt8 → List Ext) (s : List UInt8) (l l' : List Ext) : upd (upd M s l) s l' = upd M s l' := by
  funext t
  by_cases h : t = s <;> simp [upd, h]
theorem upd_self (M : List UInt8 → List Ext) (s : List UInt8) (l : List Ext) (h : M s = l) : upd M s l = M := by
  funext t
  by_cases e : t = s
  · subst e; rw [upd_same, h]
  · rw [upd_other _ _ _ _ e]

section
variable {w : World} {d N : Nat} {F : Nat → Prop} {M : List UInt8 → List Ext} {free fuse : Int} {bm : Nat} {D : DataW Unit} {G C : List UInt8 → Nat}
theorem ne_of_at {s : List UInt8} {i : Nat} {x : Ext} (hx : (M s)[i]? = some x) : M s ≠ [] := fun e => by rw [e] at hx; simp at hx
/-- The parts of a file's extent. -/
theorem DiskIs.parts (h : DiskIs w d F N M free fuse bm D G C) (s : List UInt8) (i : Nat) (x : Ext) (hx : (M s)[i]? = some x) (o : Nat) (ho : i * 385 = o) :
    w.rangeAt (G s) o (vb x.dur) ∧ w.rangeAt (G s) (o + 128) (vb x.syn) ∧ w.rangeAt (G s) (o + 256) (vb x.wri) ∧ w.cell? ⟨G s, o + 384, none⟩ = some (.bool x.waits) ∧ w.frozen? ⟨G s, o + 384, none⟩ = false ∧ x.ok := by
  obtain ⟨hi, he⟩ := List.getElem?_eq_some_iff.1 hx
  obtain ⟨_, hrow, hok⟩ := h.2.2.2.2.2.1 s (ne_of_at hx)
  have hxo := hok _ (List.getElem_mem hi)
  rw [he] at hxo
  have hxo' := hxo
  obtain ⟨⟨d1, d2⟩, ⟨s1, s2⟩, ⟨w1, w2⟩⟩ := hxo'
  subst ho
  have hw : w.rangeAt (G s) (i * 385 + 384) [.bool x.waits] := own_range hrow hok i hi 384 _ (by simp) (fun j v hj => by
    have hlt := (List.getElem?_eq_some_iff.1 hj).1
    obtain rfl : j = 0 := by simp at hlt; omega
    rw [he]
    simp [Ext.cells, length_vb, d1, s1, w1] at hj ⊢
    exact hj)
  have hth := own_there hrow hok i hi 384 1 (by omega) 0 (by omega)
  refine ⟨?_, ?_, ?_, by simpa using hw 0 _ rfl, by simpa using hth.2, hxo⟩
  · have := own_range hrow hok i hi 0 (vb x.dur) (by rw [length_vb, d1]; omega) (fun j v hj => by
      have hlt := (List.getElem?_eq_some_iff.1 hj).1
      rw [he, Ext.cells, Nat.zero_add, List.getElem?_append_left hlt]
      exact hj)
    rwa [Nat.add_zero] at this
  · refine own_range hrow hok i hi 128 _ (by rw [length_vb, s1]; omega) (fun j v hj => ?_)
    have hlt := (List.getElem?_eq_some_iff.1 hj).1
    rw [length_vb, s1] at hlt
    rw [he, Ext.cells, List.getElem?_append_right (by rw [length_vb, d1]; omega), List.getElem?_append_left (by rw [length_vb, length_vb, d1, s1]; omega), length_vb, d1, show 128 + j - 128 = j by omega]
    exact hj
  · refine own_range hrow hok i hi 256 _ (by rw [length_vb, w1]; omega) (fun j v hj => ?_)
    have hlt := (List.getElem?_eq_some_iff.1 hj).1
    rw [length_vb, w1] at hlt
    rw [he, Ext.cells, List.getElem?_append_right (by rw [length_vb, d1]; omega), List.getElem?_append_right (by rw [length_vb, length_vb, d1, s1]; omega), List.getElem?_append_left (by rw [length_vb, length_vb, length_vb, d1, s1, w1]; omega), length_vb, length_vb, d1, s1, show 256 + j - 128 - 128 = j by omega]
    exact hj
theorem DiskIs.thereAt (h : DiskIs w d F N M free fuse bm D G C) (s : List UInt8) (i : Nat) (x : Ext) (hx : (M s)[i]? = some x) (o : Nat) (ho : i * 385 = o) (k m : Nat) (hk : k + m ≤ 385) : w.there (G s) (o + k) m := by
  obtain ⟨hi, he⟩ := List.getElem?_eq_some_iff.1 hx
  obtain ⟨_, hrow, hok⟩ := h.2.2.2.2.2.1 s (ne_of_at hx)
  subst ho
  exact own_there hrow hok i hi k m hk
/-- Cells of a file's extent are written: another extent stands there. -/
theorem DiskIs.put (h : DiskIs w d F N M free fuse bm D G C) (s : List UInt8) (i : Nat) (x : Ext) (hx : (M s)[i]? = some x) (o : Nat) (ho : i * 385 = o) (k : Nat) (cs : List Value) (y : Ext) (hy : y.ok) (hk : k + cs.length ≤ 385) (hsp : splice x.cells k cs = y.cells) :
    DiskIs (w.setCells (G s) (o + k) cs) d F N (upd M s ((M s).set i y)) free fuse bm D G C ∧ Gr F F w (w.setCells (G s) (o + k) cs) := by
  obtain ⟨hi, he⟩ := List.getElem?_eq_some_iff.1 hx
  obtain ⟨_, hrow, hok⟩ := h.2.2.2.2.2.1 s (ne_of_at hx)
  subst ho
  have hl : (cellsE (M s)).length = (M s).length * 385 := cellsE_length hok
  obtain ⟨h1, hg⟩ := own_storedAll (w := w) cs (i * 385 + k) _ w hrow (by rw [hl]; have : (i + 1) * 385 ≤ (M s).length * 385 := Nat.mul_le_mul_right _ hi; omega)
  rw [cellsE_splice (M s) hok i hi k cs y hk (by rw [he]; exact hsp)] at h1
  refine ⟨h.turned s (ne_of_at hx) ((M s).set i y) (by simp) (fun z hz => ?_) hg h1, Gr.of (Keeps.of_grown hg (fun g hg => ?_))⟩
  · rcases List.mem_or_eq_of_mem_set hz with hz | rfl
    · exact hok z hz
    · exact hy
  · cases hg
    exact h.2.2.1.2 s (ne_of_at hx)
/-- An element's address. -/
theorem ext_index (g n c i o : Nat) (hi : i < n) (ho : i * 385 = o) (wx : World) : (Instr.indexAt 44 (.slice (some ⟨g, 0, none⟩) n c) (.int .i64 (i : Int))).run Try.prog wx = .ok (.pointer (some ⟨g, o, none⟩)) wx := by
  rw [run_indexAt_slice _ _ _ _ _ _ _ (show Try.prog.underlying 44 = some (.slice (Try.prog.elem 44)) by kernel_rfl), if_pos ⟨by omega, by omega⟩, show Try.prog.elem 44 = 49 by kernel_rfl, sizeExt]
  show Result.ok (Value.pointer (some ((⟨g, 0, none⟩ : Addr).add ((i : Int).toNat * 385)))) wx = _
  rw [Int.toNat_natCast, ho, add_none, Nat.zero_add]
end
/-- What a write leaves of an extent. -/
def Ext.wrote (x : Ext) (zs : List Nat) : Ext := { x with wri := zs, waits := true }
theorem Ext.wrote_ok {x : Ext} (h : x.ok) {zs : List Nat} (hl : zs.length = 128) (hz : ∀ y ∈ zs, y < 256) : (x.wrote zs).ok := ⟨h.1, h.2.1, hl, hz⟩
end Go.Proofs.Ytocfbokgbpaneaa

namespace Go.Proofs.Ytocfbokgbpaneaa
open Go.RowKit Go.Maps
set_option linter.unusedVariables false

set_option maxHeartbeats 1000000 in
theorem write_un (w : World) (v : Value) (h : Unmade w v) (y0 y1 y2 : Value) :
    Calls Try.prog 14 #[v, y0, y1, y2] w fun e w' => e = .returned (.int .i64 2) ∧ Below w.heap.size w w' := by
  go_enter Try.func14, Try.ntmps14
  go_wp2_with fail
  refine (isMade_un _ v h).mono ?_
  rintro e w1 ⟨rfl, rfl⟩
  go_wp2
  go_ret
  exact ⟨rfl, Below.refl _ _⟩

set_option maxHeartbeats 1000000 in
theorem sync_un (w : World) (v : Value) (h : Unmade w v) (y0 : Value) :
    Calls Try.prog 17 #[v, y0] w fun e w' => e = .returned (.int .i64 2) ∧ Below w.heap.size w w' := by
  go_enter Try.func17, Try.ntmps17
  go_wp2_with fail
  refine (isMade_un _ v h).mono ?_
  rintro e w1 ⟨rfl, rfl⟩
  go_wp2
  go_ret
  exact ⟨rfl, Below.refl _ _⟩

set_option maxHeartbeats 1000000 in
theorem remove_un (w : World) (v : Value) (h : Unmade w v) (y0 : Value) :
    Calls Try.prog 19 #[v, y0] w fun e w' => e = .returned (.int .i64 2) ∧ Below w.heap.size w w' := by
  go_enter Try.func19, Try.ntmps19
  go_wp2_with fail
  refine (isMade_un _ v h).mono ?_
  rintro e w1 ⟨rfl, rfl⟩
  go_wp2
  go_ret
  exact ⟨rfl, Below.refl _ _⟩

set_option maxHeartbeats 1000000 in
theorem rot_un (w : World) (v : Value) (h : Unmade w v) (y0 y1 y2 y3 : Value) :
    Calls Try.prog 21 #[v, y0, y1, y2, y3] w fun e w' => e = .returned (.int .i64 2) ∧ Below w.heap.size w w' := by
  go_enter Try.func21, Try.ntmps21
  go_wp2_with fail
  refine (isMade_un _ v h).mono ?_
  rintro e w1 ⟨rfl, rfl⟩
  go_wp2
  go_ret
  exact ⟨rfl, Below.refl _ _⟩

set_option maxHeartbeats 1000000 in
theorem fuse_un (w : World) (v : Value) (h : Unmade w v) (y0 : Value) :
    Calls Try.prog 25 #[v, y0] w fun e w' => e = .returned (.int .i64 2) ∧ Below w.heap.size w w' := by
  go_enter Try.func25, Try.ntmps25
  go_wp2_with fail
  refine (isMade_un _ v h).mono ?_
  rintro e w1 ⟨rfl, rfl⟩
  go_wp2
  go_ret
  exact ⟨rfl, Below.refl _ _⟩

set_option maxHeartbeats 1000000 in
theorem crash_un (w : World) (v : Value) (h : Unmade w v) (y0 : Value) :
    Calls Try.prog 23 #[v, y0] w fun e w' => e = .returned (.int .i64 2) ∧ Below w.heap.size w w' := by
  go_enter Try.func23, Try.ntmps23
  go_wp2_with fail
  refine (isMade_un _ v h).mono ?_
  rintro e w1 ⟨rfl, rfl⟩
  go_wp2
  go_ret
  exact ⟨rfl, Below.refl _ _⟩

set_option maxHeartbeats 1000000 in
theorem list_un (w : World) (v : Value) (h : Unmade w v)  :
    Calls Try.prog 29 #[v] w fun e w' => e = .returned (.slice none 0 0) ∧ Below w.heap.size w w' := by
  go_enter Try.func29, Try.ntmps29
  go_wp2_with fail
  refine (isMade_un _ v h).mono ?_
  rintro e w1 ⟨rfl, rfl⟩
  go_wp2
  go_ret
  exact ⟨rfl, Below.refl _ _⟩

set_option maxHeartbeats 1000000 in
theorem extents_un (w : World) (v : Value) (h : Unmade w v) (y0 : Value) :
    Calls Try.prog 35 #[v, y0] w fun e w' => e = .returned (.int .i64 0) ∧ Below w.heap.size w w' := by
  go_enter Try.func35, Try.ntmps35
  go_wp2_with fail
  refine (isMade_un _ v h).mono ?_
  rintro e w1 ⟨rfl, rfl⟩
  go_wp2
  go_ret
  exact ⟨rfl, Below.refl _ _⟩

set_option maxHeartbeats 1000000 in
theorem free_un (w : World) (v : Value) (h : Unmade w v)  :
    Calls Try.prog 30 #[v] w fun e w' => e = .returned (.int .i64 0) ∧ Below w.heap.size w w' := by
  go_enter Try.func30, Try.ntmps30
  go_wp2_with fail
  refine (isMade_un _ v h).mono ?_
  rintro e w1 ⟨rfl, rfl⟩
  go_wp2
  go_ret
  exact ⟨rfl, Below.refl _ _⟩

set_option maxHeartbeats 1000000 in
theorem copy_un (w : World) (v : Value) (h : Unmade w v)  :
    Calls Try.prog 5 #[v] w fun e w' => e = .returned (.pointer none) ∧ Below w.heap.size w w' := by
  go_enter Try.func5, Try.ntmps5
  go_wp2_with fail
  refine (isMade_un _ v h).mono ?_
  rintro e w1 ⟨rfl, rfl⟩
  go_wp2
  go_ret
  exact ⟨rfl, Below.refl _ _⟩

set_option maxHeartbeats 1000000 in
theorem damaged_un (w : World) (v : Value) (h : Unmade w v) :
    Calls Try.prog 33 #[v] w fun e w' => e = .returned (.slice none 0 0) ∧ Below w.heap.size w w' := by
  go_enter Try.func33, Try.ntmps33
  go_wp2_with fail
  refine (list_un _ v h).mono ?_
  rintro e w1 ⟨rfl, b1⟩
  go_wp2
  go_loopw [3, 10] (fun sv kv wr => sv = .slice none 0 0 ∧ kv = .int .i64 0 ∧ Below w.heap.size w wr) (fun _ _ _ => 0)
  case atStart => exact ⟨rfl, rfl, b1⟩
  case round =>
    obtain ⟨rfl, rfl, hb⟩ := hrel
    go_wp2
    go_ret
    exact ⟨rfl, hb⟩
theorem hidv {p : Prop} (h : p) : Hid p := h
set_option maxHeartbeats 2000000 in
set_option maxRecDepth 100000 in
theorem full_any (w : World) (y0 y1 y2 y3 y4 y6 y7 : Value) (a : Option Addr) (len cap : Nat) (zs : List Nat) (hB : Bs w a len zs) :
    Calls Try.prog 13 #[.agg #[y0, y1, y2, y3, y4, .slice a len cap, y6, y7]] w fun e w' => (∃ v, e = .returned v) ∧ Below w.heap.size w w' := by
  obtain ⟨i0, hi, hz0, hz1, hz2⟩ := info_parts Try.info5
  have hinfo : (Try.prog.info? 5).map (·.size) = some 1 := by rw [hi]; simp [hz1]
  obtain ⟨Z, hZ⟩ : ∃ Z, Z = madeCells (Value.int .u8 0).cells (((128 : Nat) : Int).toNat * i0.size) := ⟨_, rfl⟩
  have hZs : Z.size = 128 := by rw [hZ, size_madeCells, hz1]; simp
  have hmk : ∀ W : World, (Instr.makeSlice 29 (.int .i64 128) (.int .i64 128)).run Try.prog W = .ok (.slice (some ⟨W.heap.size, 0, none⟩) 128 128) (W.alloc (.cells Z 5)) := fun W => by
    have h := run_make (P := Try.prog) W 29 5 i0 (.int .u8 0) Try.underlying29 hi hz0 .i64 .i64 ((128 : Nat) : Int) ((128 : Nat) : Int) (by omega) (by omega) (by rw [hz2]; omega) (by omega)
    rw [← hZ] at h
    simpa using h
  obtain ⟨w2, hw2⟩ : ∃ w2, w2 = (w.alloc (.cells #[y0, y1, y2, y3, y4, .slice a len cap, y6, y7] 32)).alloc (.cells Z 5) := ⟨_, rfl⟩
  have hb2 : Below w.heap.size w w2 := by rw [hw2]; exact ((Below.refl _ _).alloc (Nat.le_refl _) _).alloc (by simp) _
  have hg2 : w2.heap[w.heap.size + 1]? = some (.cells Z 5 (0, 0)) := by
    rw [hw2]
    have := heap_alloc_new (w.alloc (.cells #[y0, y1, y2, y3, y4, .slice a len cap, y6, y7] 32)) (.cells Z 5)
    rw [World.size_alloc] at this
    exact this
  obtain ⟨w3, m, hcp, hb3⟩ : ∃ w3, ∃ m : Int, (Builtin.copy_ #[29, 29] 3 #[.slice (some ⟨w.heap.size + 1, 0, none⟩) 128 128, .slice a len cap]).run Try.prog w2 = .ok (.int .i64 m) w3 ∧ Below w.heap.size w w3 := by
    by_cases h0 : len = 0
    · subst h0
      exact ⟨w2, 0, run_copy_none (P := Try.prog) w2 _ _ 3 5 _ a 128 128 0 cap Try.underlying29 hinfo (by simp), hb2⟩
    · obtain ⟨ab, ao, rfl, _, hac⟩ := hB.pos (by omega)
      have hB2 := hB.below hb2
      have hl := hB.1
      have := run_copy_row (P := Try.prog) w2 29 29 3 5 (w.heap.size + 1) 0 128 128 ⟨ab, ao, none⟩ len cap Z 5 ((vb zs).take (min len 128)) Try.underlying29 hinfo hg2
        (by rw [List.length_take, length_vb, hl]; show min (min len 128) len = min len 128; omega)
        (fun j v hj => by rw [add_none]; exact bs_range hB2 j v (by rw [List.getElem?_take] at hj; split at hj; exact hj; cases hj))
        (by rw [List.length_take, hZs]; omega) (fun v hv => one_vb _ v (List.mem_of_mem_take hv))
      exact ⟨_, _, this, below_setRow hb2 (by omega) _⟩
  rw [hw2] at hcp
  have HB3 := hidv hb3
  clear hb2 hg2 hb3 hw2 hZ hZs hi hz0 hz1 hz2 hinfo hB
  go_enter Try.func13, Try.ntmps13
  go_wp2
  go_ret
  exact ⟨⟨_, rfl⟩, HB3.out⟩
end Go.Proofs.Ytocfbokgbpaneaa

namespace Go.Proofs.Ytocfbokgbpaneaa
open Go.RowKit Go.Maps
set_option linter.unusedVariables false

theorem name_size {s : ByteArray} (h : nameB s.data.toList = true) : s.size ≠ 0 ∧ s.size ≤ 24 := by
  have hl : s.data.toList.length = s.size := rfl
  unfold nameB at h
  rw [Bool.and_eq_true, decide_eq_true_eq, hl] at h
  omega
theorem image_all {zs : List Nat} : (vb zs).toArray.all (·.oneCell') = true := by simpa using one_vb zs

set_option maxHeartbeats 2000000 in
theorem write_old (w : World) (d : Nat) (F : Nat → Prop) (N : Nat) (M : List UInt8 → List Ext) (free fuse : Int) (h : DiskOf w d F N M free fuse) (s : ByteArray) (hs : nameB s.data.toList = true) (i n o : Nat) (HN : Hid (n = (M s.data.toList).length)) (hi : i < n) (ho : i * 385 = o)
    (b off cap : Nat) (zs : List Nat) (hb : BsF F w (some ⟨b, off, none⟩) 128 zs) (h0 : fuse ≠ 0) (hf : -1 ≤ fuse) (hf2 : fuse ≤ 9223372036854775807) (x : Ext) (HX : Hid ((M s.data.toList)[i]? = some x)) :
    Calls Try.prog 14 #[.pointer (some ⟨d, 0, none⟩), .string s, .int .i64 i, .slice (some ⟨b, off, none⟩) 128 cap] w fun e w' => e = .returned (.int .i64 0) ∧ DiskOf w' d F N (upd M s.data.toList ((M s.data.toList).set i (x.wrote zs))) free (burnt fuse) ∧ Gr F F w w' := by
  obtain ⟨hs0, hs24⟩ := name_size hs
  have hsm : s.size ≤ maxLen := by unfold maxLen; omega
  obtain ⟨bm, D, G, C, hI⟩ := h.is
  have hlen := hI.len s.data.toList
  rw [← HN.out] at hlen
  unfold maxLen at hlen
  have hlk := hI.look s hsm (ne_of_at HX.out)
  rw [← HN.out] at hlk
  have c0 := hI.c0
  have HI1 : Hid (i < n) := hi
  have HO : Hid (i * 385 = o) := ho
  have HS : Hid (nameB s.data.toList = true) := hs
  have h1 : decide ((i : Int) < 0) = false := by simp
  have h3 : decide (n < i) = false := by simp; omega
  have h4 : ((i : Int) == (n : Int)) = false := beq_eq_false_iff_ne.2 (by omega)
  have h5 : (i == n) = false := beq_eq_false_iff_ne.2 (by omega)
  have h6 : decide (i = n) = false := by simp; omega
  have hzl : zs.length = 128 := hb.1.1
  have hzb : ∀ y ∈ zs, y < 256 := hb.1.2.2.1
  have HSL : Hid ((Try.prog.info? 47).map (·.size) = some (vb zs).length) := hidn (by rw [(zero_of_info Try.infoImage).2, length_vb, hzl])
  have HSZ : Hid ((Try.prog.info? 47).map (·.size) = some (vb zs).toArray.size) := hidn (by rw [(zero_of_info Try.infoImage).2]; simp [length_vb, hzl])
  have HZL : Hid (zs.length = 128) := hzl
  have hAA : ∀ (wx : World), (Instr.arrayAt 47 (.slice (some ⟨b, off, none⟩) 128 cap)).run Try.prog wx = .ok (.pointer (some ⟨b, off, none⟩)) wx := fun wx => run_arrayAt wx _ _ 128 _ 128 cap Try.underlying47 (Nat.le_refl _)
  clear ho hi hs hI hzl
  go_enter Try.func14, Try.ntmps14
  go_wp2_with fail
  refine (isMade_any _ d F N M free fuse h).mono ?_
  rintro e w1 ⟨rfl, rfl⟩
  go_wp2_with fail
  refine (canName_any _ s hsm).mono ?_
  rw [HS.out]
  rintro e w1 ⟨rfl, rfl⟩
  go_wp2_with fail
  refine (burn_yes _ d F N M free fuse h h0 hf hf2).mono ?_
  rintro e w1 ⟨rfl, hD1, hG1⟩
  clear hlk c0
  obtain ⟨bm1, D1, G1, C1, hI1⟩ := hD1.is
  have hlk := hI1.look s hsm (ne_of_at HX.out)
  rw [← HN.out] at hlk
  have c0 := hI1.c0
  have hIX := ext_index (G1 s.data.toList) n (C1 s.data.toList) i o HI1.out HO.out
  have HR := hidn (bs_range (hb.gr hG1).1)
  obtain ⟨hI2, hG2⟩ := hI1.put s.data.toList i x HX.out o HO.out 256 (vb zs) { x with wri := zs } ⟨(hI1.parts _ i x HX.out o HO.out).2.2.2.2.2.1, (hI1.parts _ i x HX.out o HO.out).2.2.2.2.2.2.1, HZL.out, hzb⟩ (by rw [length_vb, HZL.out]; omega) (cells_wri (hI1.parts _ i x HX.out o HO.out).2.2.2.2.2 zs HZL.out)
  have HTH := hidn (hI1.thereAt s.data.toList i x HX.out o HO.out 256 128 (by omega))
  have hx2 : (upd M s.data.toList ((M s.data.toList).set i { x with wri := zs }) s.data.toList)[i]? = some { x with wri := zs } := by
    rw [upd_same, List.getElem?_set_self (by rw [← HN.out]; exact HI1.out)]
  obtain ⟨p1, p2, p3, p4, p5, p6⟩ := hI2.parts _ i _ hx2 o HO.out
  obtain ⟨hI3, hG3⟩ := hI2.put s.data.toList i _ hx2 o HO.out 384 [.bool true] (x.wrote zs) (Ext.wrote_ok (hI1.parts _ i x HX.out o HO.out).2.2.2.2.2 HZL.out hzb) (by simp) (cells_waits p6 true)
  rw [upd_upd, upd_same, List.set_set] at hI3
  have HI3 := hidn hI3.of
  have HG := hidn ((hG1.trans hG2).trans hG3)
  clear hI3 hI2 hI1 hG1 hG2 hG3 p1 p2 p3 p6 hx2 hD1
  generalize G1 s.data.toList = g at *
  generalize C1 s.data.toList = c at *
  obtain ⟨w2, hw2⟩ : ∃ w2, w2 = w1.setCells g (o + 256) (vb zs) := ⟨_, rfl⟩
  rw [← hw2] at p4 p5 HI3 HG
  have HW2 := hidn hw2
  clear hw2
  have HTH' : Hid (w1.there g (o + 256) (vb zs).toArray.size) := hidn (by have := HTH.out; simpa [length_vb, HZL.out] using this)
  clear HTH
  go_wp2_with (first
      | (with_reducible refine wpList_index (by rfl) 44 (.tmp 57) (.tmp 58) (by rfl) (.slice (some ⟨g, 0, none⟩) n c) (.int .i64 (i : Int)) (.pointer (some ⟨g, o, none⟩)) (by kernel_rfl) (by kernel_rfl) (hIX w1) ?_)
      | (with_reducible refine wpList_load_mid (by rfl) 47 (.tmp 63) (by rfl) b off (by kernel_rfl) (vb zs) _ HR.out Try.underlying47 (by rfl) HSL.out ?_)
      | (with_reducible refine wpList_store_mid (by rfl) 47 (.tmp 66) (.tmp 64) (by rfl) g (o + 256) (vb zs).toArray (by kernel_rfl) (by kernel_rfl) HTH'.out HSZ.out image_all ?_; rw [List.toList_toArray, ← HW2.out]))
  go_ret
  exact ⟨rfl, HI3.out, HG.out⟩
end Go.Proofs.Ytocfbokgbpaneaa
