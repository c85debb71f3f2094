/- The disk's Rot and Extents: their contracts. -/
import Derived.Test.YtpiohhljcjobfaaMc
import Derived.Test.YtpiohhljcjobfaaMd
namespace Go.Proofs.Ytpiohhljcjobfaa
open Go.RowKit Go.Maps
set_option linter.unusedVariables false

/-- What rot leaves of an extent. -/
def Ext.rot (x : Ext) (k m : Nat) : Ext := { x with dur := x.dur.set k (x.dur.getD k 0 ^^^ m) }
theorem xor8 (x y : Nat) (hx : x < 256) (hy : y < 256) : bits .xor .u8 (x : Int) (y : Int) = ((x ^^^ y : Nat) : Int) := bits_xor_u .u8 rfl x y hx hy
theorem getD_b {l : List Nat} {k : Nat} (hk : k < l.length) (h : ∀ x ∈ l, x < 256) : l.getD k 0 < 256 := by
  rw [List.getD_eq_getElem?_getD, List.getElem?_eq_getElem hk]
  exact h _ (List.getElem_mem hk)
theorem Ext.rot_ok {x : Ext} (h : x.ok) {k m : Nat} (hk : k < 128) (hm : m < 256) : (x.rot k m).ok := by
  refine ⟨⟨by simp [Ext.rot, h.1.1], fun y hy => ?_⟩, h.2⟩
  rcases List.mem_or_eq_of_mem_set hy with hy | rfl
  · exact h.1.2 y hy
  · exact Nat.xor_lt_two_pow (n := 8) (getD_b (by rw [h.1.1]; exact hk) h.1.2) hm
theorem cells_rot {x : Ext} (h : x.ok) (k y : Nat) (hk : k < 128) : splice x.cells k [.int .u8 (y : Int)] = ({ x with dur := x.dur.set k y } : Ext).cells := by
  have e : ∀ (l : List Value) (j : Nat) (v : Value), j < l.length → splice l j [v] = l.set j v := by
    intro l j v hj
    rw [List.set_eq_take_append_cons_drop, if_pos hj]
    simp [splice]
  rw [e _ _ _ (by rw [Ext.cells_length h]; omega)]
  unfold Ext.cells
  rw [List.set_append_left _ _ (by rw [length_vb, h.1.1]; exact hk)]
  congr 1
  simp [vb, List.map_set]
theorem load_run {o : Oper} {a : Act} {w : World} {ty : TypeId} {x : Operand} {vx v : Value} (ho : o.op = Op.load ty x) (hx : a.eval x = vx) (hr : (Instr.loadAt ty vx).run Try.prog w = .ok v w) : (execOp a.eval o).run Try.prog w = .ok (.value v) w := by
  simp [execOp, ho, hx, hr, Result.andThen]
theorem arr_index (g o k : Nat) (hk : k < 128) (wx : World) : (Instr.indexAt 74 (.pointer (some ⟨g, o, none⟩)) (.int .i64 (k : Int))).run Try.prog wx = .ok (.pointer (some ⟨g, o + k, none⟩)) wx := by
  rw [run_indexAt_array (P := Try.prog) wx 74 ⟨g, o, none⟩ .i64 (k : Int) (by kernel_rfl)]
  have h1 : Try.prog.arrayLen 74 = 128 := by kernel_rfl
  have h2 : (sizeOf (Try.prog.elem 74)).run Try.prog wx = .ok 1 wx := by kernel_rfl
  rw [h1, if_pos ⟨by omega, by omega⟩, h2]
  simp [Result.andThen, add_none]

set_option maxHeartbeats 1000000 in
theorem extents_disk (w : World) (d : Nat) (F : Nat → Prop) (N : Nat) (M : List UInt8 → List Ext) (free fuse : Int) (h : DiskOf w d F N M free fuse) (s : ByteArray) (hs : s.size ≤ maxLen) (n : Nat) (HN : Hid (n = (M s.data.toList).length)) :
    Calls Try.prog 16 #[.pointer (some ⟨d, 0, none⟩), .string s] w fun e w' => e = .returned (.int .i64 n) ∧ w' = w := by
  obtain ⟨bm, D, G, C, hI⟩ := h.is
  obtain ⟨va, vc, hlk⟩ := hI.look_len s hs n HN
  have c0 := hI.c0
  clear hI
  go_enter Try.func16, Try.ntmps16
  go_wp2_with fail
  refine (isMade_any _ d F N M free fuse h).mono ?_
  rintro e w1 ⟨rfl, rfl⟩
  go_wp2
  go_ret
  exact ⟨rfl, rfl⟩

set_option maxHeartbeats 2000000 in
theorem rot_some (w : World) (d : Nat) (F : Nat → Prop) (N : Nat) (M : List UInt8 → List Ext) (free fuse : Int) (h : DiskOf w d F N M free fuse) (s : ByteArray) (hs : s.size ≤ maxLen) (i n o : Nat) (HN : Hid (n = (M s.data.toList).length)) (hi : i < n) (ho : i * 385 = o) (k m : Nat) (hk : k < 128) (hm : m < 256) (x : Ext) (HX : Hid ((M s.data.toList)[i]? = some x)) :
    Calls Try.prog 32 #[.pointer (some ⟨d, 0, none⟩), .string s, .int .i64 i, .int .i64 k, .int .u8 m] w fun e w' => e = .returned (.int .i64 0) ∧ DiskOf w' d F N (upd M s.data.toList ((M s.data.toList).set i (x.rot k m))) free fuse ∧ Gr F F w w' := by
  obtain ⟨bm, D, G, C, hI⟩ := h.is
  have hpn := fun (wx : World) (p : Option Addr) => run_eql_pointer_nil (P := Try.prog) wx 71 p (by kernel_rfl)
  have hbl : Below w.heap.size w w.drew := (Below.refl _ _).drew
  have hId := hI.below hbl
  obtain ⟨p1, p2, p3, p4, p5, p6⟩ := hId.parts _ i x HX.out o ho
  obtain ⟨v, hv⟩ : ∃ v, v = x.dur.getD k 0 := ⟨_, rfl⟩
  have hvl : v < 256 := by rw [hv]; exact getD_b (by rw [p6.1.1]; exact hk) p6.1.2
  have hcl : w.drew.cell? ⟨G s.data.toList, o + k, none⟩ = some (.int .u8 (v : Int)) := by
    have := p1 k (.int .u8 (v : Int)) (by rw [hv]; exact vb_getD _ _ (by rw [p6.1.1]; exact hk))
    exact this
  have hfz : w.drew.frozen? ⟨G s.data.toList, o + k, none⟩ = false := (by simpa using (hId.thereAt _ i x HX.out o ho k 1 (by omega) 0 (by omega)).2)
  have hxo : bits .xor .u8 (v : Int) (m : Int) = ((v ^^^ m : Nat) : Int) := xor8 v m hvl hm
  obtain ⟨hI2, hG2⟩ := hId.put _ i x HX.out o ho k [.int .u8 ((v ^^^ m : Nat) : Int)] (x.rot k m) (Ext.rot_ok p6 hk hm) (by simp; omega) (by rw [cells_rot p6 k _ hk]; unfold Ext.rot; rw [hv])
  have HI2 := hidn hI2.of
  have HG2 := hidn ((Gr.of (Keeps.of_below (F := F) hbl)).trans hG2)
  have HIX := hidn (arr_index (G s.data.toList) o k hk)
  have HAT := hidn (at_some w d F N M free fuse bm D G C hI s hs i n o HN hi ho)
  generalize G s.data.toList = g at *
  have h1 : decide ((k : Int) < 0) = false := by simp
  have h2 : decide (128 ≤ k) = false := by simp; omega
  have h3 : decide ((128 : Int) ≤ (k : Int)) = false := by simp; omega
  obtain ⟨y, hy⟩ : ∃ y, y = v ^^^ m := ⟨_, rfl⟩
  rw [← hy] at hxo HI2 HG2
  have e1 : (Instr.loadAt 5 (.pointer (some ⟨g, o + k, none⟩))).run Try.prog w.drew = .ok (.int .u8 (v : Int)) w.drew := by
    clear HI2 HG2 HIX HAT hxo
    go_simp
  have e2 : (Instr.storeAt 5 (.pointer (some ⟨g, o + k, none⟩)) (.int .u8 (y : Int))).run Try.prog w.drew = .ok () (w.drew.setCells g (o + k) [.int .u8 (y : Int)]) := by
    clear HI2 HG2 HIX HAT hxo e1
    show _ = Result.ok () (w.drew.setCell ⟨g, o + k, none⟩ (.int .u8 (y : Int)))
    go_simp
  obtain ⟨w0, hw0⟩ : ∃ w0, w0 = w.drew := ⟨_, rfl⟩
  rw [← hw0] at e1 e2 HI2 HG2
  obtain ⟨w2, hw2⟩ : ∃ w2, w2 = w0.setCells g (o + k) [.int .u8 (y : Int)] := ⟨_, rfl⟩
  rw [← hw2] at e2 HI2 HG2
  have HW0 := hidn hw0
  have E1 := hidn e1
  have E2 := hidn e2
  clear hI hId p1 p2 p3 p4 p5 p6 hI2 hG2 hcl hfz hv hw2 hw0 e1 e2 hy hbl ho
  go_enter Try.func32, Try.ntmps32
  go_wp2_with fail
  refine (isMade_any _ d F N M free fuse h).mono ?_
  rintro e w1 ⟨rfl, rfl⟩
  go_wp2_with fail
  refine HAT.out.mono ?_
  rintro e w1 ⟨rfl, rfl⟩
  go_wp2_with fail
  refine wp_region_noPanic ?_
  refine wp_region_held_drew (S := fun w' => True) (by kernel_rfl) trivial (fun hHeld => ?_)
  rw [← HW0.out]
  refine drawn_take (i := 0) (v := .pointer (some ⟨g, o, none⟩)) (some 27) rfl rfl (by kernel_rfl) (by kernel_rfl) (by kernel_rfl) (fun _ _ _ h => h) (Or.inl ⟨by kernel_rfl, fun w hw => by go_simp⟩) hHeld ?_
  refine drawn_take (i := 1) (v := .int .i64 (k : Int)) (some 28) rfl rfl (by kernel_rfl) (by kernel_rfl) (by kernel_rfl) (fun _ _ _ h => h) (Or.inl ⟨by kernel_rfl, fun w hw => by go_simp⟩) hHeld ?_
  simp only [Act.put, List.setIfInBounds_toArray, List.set_cons_succ, List.set_cons_zero]
  refine drawn_take (i := 2) (v := .pointer (some ⟨g, o, none⟩)) (some 29) rfl rfl (by kernel_rfl) (by kernel_rfl) (by kernel_rfl) (fun _ _ _ h => h) (Or.inl ⟨by kernel_rfl, fun w hw => by go_simp⟩) hHeld ?_
  simp only [Act.put, List.setIfInBounds_toArray, List.set_cons_succ, List.set_cons_zero]
  refine drawn_take (i := 3) (v := .pointer (some ⟨g, o, none⟩)) (some 30) rfl rfl (by kernel_rfl) (by kernel_rfl) (by kernel_rfl) (fun _ _ _ h => h) (Or.inl ⟨by kernel_rfl, fun w hw => by go_simp⟩) hHeld ?_
  simp only [Act.put, List.setIfInBounds_toArray, List.set_cons_succ, List.set_cons_zero]
  refine drawn_take (i := 4) (v := .pointer (some ⟨g, o + k, none⟩)) (some 31) rfl rfl (by kernel_rfl) (by kernel_rfl) (by kernel_rfl) (fun _ _ _ h => h) (Or.inl ⟨by kernel_rfl, fun w hw => idx_run (x := .tmp 30) (y := .tmp 28) (vx := .pointer (some ⟨g, o, none⟩)) (vy := .int .i64 (k : Int)) (by kernel_rfl) (by kernel_rfl) (by kernel_rfl) (HIX.out w)⟩) hHeld ?_
  refine drawn_take (i := 6) (v := .int .u8 (m : Int)) (some 33) rfl rfl (by kernel_rfl) (by kernel_rfl) (by kernel_rfl) (fun _ _ _ h => h) (Or.inl ⟨by kernel_rfl, fun w hw => by go_simp⟩) hHeld ?_
  refine drawn_take (i := 8) (v := .pointer (some ⟨g, o, none⟩)) (some 35) rfl rfl (by kernel_rfl) (by kernel_rfl) (by kernel_rfl) (fun _ _ _ h => h) (Or.inl ⟨by kernel_rfl, fun w hw => by go_simp⟩) hHeld ?_
  simp only [Act.put, List.setIfInBounds_toArray, List.set_cons_succ, List.set_cons_zero]
  refine drawn_take (i := 9) (v := .pointer (some ⟨g, o, none⟩)) (some 36) rfl rfl (by kernel_rfl) (by kernel_rfl) (by kernel_rfl) (fun _ _ _ h => h) (Or.inl ⟨by kernel_rfl, fun w hw => by go_simp⟩) hHeld ?_
  simp only [Act.put, List.setIfInBounds_toArray, List.set_cons_succ, List.set_cons_zero]
  refine wpAnyH_ready (rs := [5]) (by kernel_rfl) (by simp) ?_
  refine rdy_val (i := 5) rfl rfl (some 32) rfl (.int .u8 (v : Int)) w0 (load_run (x := .tmp 31) (vx := .pointer (some ⟨g, o + k, none⟩)) (by kernel_rfl) (by kernel_rfl) E1.out) trivial (fun hHeld => ?_) rdy_nil
  simp only [Act.put, List.setIfInBounds_toArray, List.set_cons_succ, List.set_cons_zero]
  refine drawn_take (i := 7) (v := .int .u8 (y : Int)) (some 34) rfl rfl (by kernel_rfl) (by kernel_rfl) (by kernel_rfl) (fun _ _ _ h => h) (Or.inl ⟨by kernel_rfl, fun w hw => by go_simp⟩) hHeld ?_
  simp only [Act.put, List.setIfInBounds_toArray, List.set_cons_succ, List.set_cons_zero]
  refine drawn_take (i := 10) (v := .pointer (some ⟨g, o + k, none⟩)) (some 37) rfl rfl (by kernel_rfl) (by kernel_rfl) (by kernel_rfl) (fun _ _ _ h => h) (Or.inl ⟨by kernel_rfl, fun w hw => idx_run (x := .tmp 36) (y := .tmp 28) (vx := .pointer (some ⟨g, o, none⟩)) (vy := .int .i64 (k : Int)) (by kernel_rfl) (by kernel_rfl) (by kernel_rfl) (HIX.out w)⟩) hHeld ?_
  simp only [Act.put, List.setIfInBounds_toArray, List.set_cons_succ, List.set_cons_zero]
  refine wpAnyH_ready (rs := [11]) (by kernel_rfl) (by simp) ?_
  refine rdy_unit (i := 11) rfl rfl none rfl w2 (store_run (ty := 5) (x := .tmp 37) (y := .tmp 34) (vx := .pointer (some ⟨g, o + k, none⟩)) (vy := .int .u8 (y : Int)) (by kernel_rfl) (by kernel_rfl) (by kernel_rfl) E2.out) trivial (fun hHeld => ?_) rdy_nil
  refine wpAnyH_done (by kernel_rfl) ?_ _
  refine NoPanic.normal ?_
  simp only [Act.put]
  clear hHeld
  go_wp2
  go_ret
  exact ⟨rfl, HI2.out, HG2.out⟩
end Go.Proofs.Ytpiohhljcjobfaa
