/- The disk's Rot and Extents: their contracts. -/
import Derived.Test.YtocfbokgbpaneaaMf
import Derived.Test.YtocfbokgbpaneaaMh
import Derived.Test.YtocfbokgbpaneaaMg
namespace Go.Proofs.Ytocfbokgbpaneaa
open Go.RowKit Go.Maps
set_option linter.unusedVariables false

/-- What rot leaves of an extent. -/
def Ext.rot (x : Ext) (k m : Nat) : Ext := { x with dur := x.dur.set k (x.dur.getD k 0 ^^^ m) }
theorem xor8 (x y : Nat) (hx : x < 256) (hy : y < 256) : bits .xor .u8 (x : Int) (y : Int) = ((x ^^^ y : Nat) : Int) := bits_xor_u .u8 rfl x y hx hy
theorem getD_b {l : List Nat} {k : Nat} (hk : k < l.length) (h : ∀ x ∈ l, x < 256) : l.getD k 0 < 256 := by
  rw [List.getD_eq_getElem?_getD, List.getElem?_eq_getElem hk]
  exact h _ (List.getElem_mem hk)
theorem Ext.rot_ok {x : Ext} (h : x.ok) {k m : Nat} (hk : k < 128) (hm : m < 256) : (x.rot k m).ok := by
  refine ⟨⟨by simp [Ext.rot, h.1.1], fun y hy => ?_⟩, h.2⟩
  rcases List.mem_or_eq_of_mem_set hy with hy | rfl
  · exact h.1.2 y hy
  · exact Nat.xor_lt_two_pow (n := 8) (getD_b (by rw [h.1.1]; exact hk) h.1.2) hm
theorem cells_rot {x : Ext} (h : x.ok) (k y : Nat) (hk : k < 128) : splice x.cells k [.int .u8 (y : Int)] = ({ x with dur := x.dur.set k y } : Ext).cells := by
  have e : ∀ (l : List Value) (j : Nat) (v : Value), j < l.length → splice l j [v] = l.set j v := by
    intro l j v hj
    rw [List.set_eq_take_append_cons_drop, if_pos hj]
    simp [splice]
  rw [e _ _ _ (by rw [Ext.cells_length h]; omega)]
  unfold Ext.cells
  rw [List.set_append_left _ _ (by rw [length_vb, h.1.1]; exact hk)]
  congr 1
  simp [vb, List.map_set]
theorem load_run {o : Oper} {a : Act} {w : World} {ty : TypeId} {x : Operand} {vx v : Value} (ho : o.op = Op.load ty x) (hx : a.eval x = vx) (hr : (Instr.loadAt ty vx).run Try.prog w = .ok v w) : (execOp a.eval o).run Try.prog w = .ok (.value v) w := by
  simp [execOp, ho, hx, hr, Result.andThen]
theorem arr_index (g o k : Nat) (hk : k < 128) (wx : World) : (Instr.indexAt 47 (.pointer (some ⟨g, o, none⟩)) (.int .i64 (k : Int))).run Try.prog wx = .ok (.pointer (some ⟨g, o + k, none⟩)) wx := by
  rw [run_indexAt_array (P := Try.prog) wx 47 ⟨g, o, none⟩ .i64 (k : Int) (by kernel_rfl)]
  have h1 : Try.prog.arrayLen 47 = 128 := by kernel_rfl
  have h2 : (sizeOf (Try.prog.elem 47)).run Try.prog wx = .ok 1 wx := by kernel_rfl
  rw [h1, if_pos ⟨by omega, by omega⟩, h2]
  simp [Result.andThen, add_none]

set_option maxHeartbeats 1000000 in
theorem extents_disk (w : World) (d : Nat) (F : Nat → Prop) (N : Nat) (M : List UInt8 → List Ext) (free fuse : Int) (h : DiskOf w d F N M free fuse) (s : ByteArray) (hs : s.size ≤ maxLen) (n : Nat) (HN : Hid (n = (M s.data.toList).length)) :
    Calls Try.prog 35 #[.pointer (some ⟨d, 0, none⟩), .string s] w fun e w' => e = .returned (.int .i64 n) ∧ w' = w := by
  obtain ⟨bm, D, G, C, hI⟩ := h.is
  obtain ⟨va, vc, hlk⟩ := hI.look_len s hs n HN
  have c0 := hI.c0
  clear hI
  go_enter Try.func35, Try.ntmps35
  go_wp2_with fail
  refine (isMade_any _ d F N M free fuse h).mono ?_
  rintro e w1 ⟨rfl, rfl⟩
  go_wp2
  go_ret
  exact ⟨rfl, rfl⟩

set_option maxHeartbeats 2000000 in
theorem rot_some (w : World) (d : Nat) (F : Nat → Prop) (N : Nat) (M : List UInt8 → List Ext) (free fuse : Int) (h : DiskOf w d F N M free fuse) (s : ByteArray) (hs : s.size ≤ maxLen) (i n o : Nat) (HN : Hid (n = (M s.data.toList).length)) (hi : i < n) (ho : i * 385 = o) (k m : Nat) (hk : k < 128) (hm : m < 256) (x : Ext) (HX : Hid ((M s.data.toList)[i]? = some x)) :
    Calls Try.prog 21 #[.pointer (some ⟨d, 0, none⟩), .string s, .int .i64 i, .int .i64 k, .int .u8 m] w fun e w' => e = .returned (.int .i64 0) ∧ DiskOf w' d F N (upd M s.data.toList ((M s.data.toList).set i (x.rot k m))) free fuse ∧ Gr F F w w' := by
  obtain ⟨bm, D, G, C, hI⟩ := h.is
  have hpn := fun (wx : World) (p : Option Addr) => run_eql_pointer_nil (P := Try.prog) wx 81 p (by kernel_rfl)
  have hbl : Below w.heap.size w w.drew := (Below.refl _ _).drew
  have hId := hI.below hbl
  obtain ⟨p1, p2, p3, p4, p5, p6⟩ := hId.parts _ i x HX.out o ho
  obtain ⟨v, hv⟩ : ∃ v, v = x.dur.getD k 0 := ⟨_, rfl⟩
  have hvl : v < 256 := by rw [hv]; exact getD_b (by rw [p6.1.1]; exact hk) p6.1.2
  have hcl : w.drew.cell? ⟨G s.data.toList, o + k, none⟩ = some (.int .u8 (v : Int)) := by
    have := p1 k (.int .u8 (v : Int)) (by rw [hv]; exact vb_getD _ _ (by rw [p6.1.1]; exact hk))
    exact this
  have hfz : w.drew.frozen? ⟨G s.data.toList, o + k, none⟩ = false := (by simpa using (hId.thereAt _ i x HX.out o ho k 1 (by omega) 0 (by omega)).2)
  have hxo : bits .xor .u8 (v : Int) (m : Int) = ((v ^^^ m : Nat) : Int) := xor8 v m hvl hm
  obtain ⟨hI2, hG2⟩ := hId.put _ i x HX.out o ho k [.int .u8 ((v ^^^ m : Nat) : Int)] (x.rot k m) (Ext.rot_ok p6 hk hm) (by simp; omega) (by rw [cells_rot p6 k _ hk]; unfold Ext.rot; rw [hv])
  have HI2 := hidn hI2.of
  have HG2 := hidn ((Gr.of (Keeps.of_below (F := F) hbl)).trans hG2)
  have HIX := hidn (arr_index (G s.data.toList) o k hk)
  have HAT := hidn (at_some w d F N M free fuse bm D G C hI s hs i n o HN hi ho)
  generalize G s.data.toList = g at *
  have h1 : decide ((k : Int) < 0) = false := by simp
  have h2 : decide (128 ≤ k) = false := by simp; omega
  have h3 : decide ((128 : Int) ≤ (k : Int)) = false := by simp; omega
  obtain ⟨y, hy⟩ : ∃ y, y = v ^^^ m := ⟨_, rfl⟩
  rw [← hy] at hxo HI2 HG2
  have e1 : (Instr.loadAt 5 (.pointer (some ⟨g, o + k, none⟩))).run Try.prog w.drew = .ok (.int .u8 (v : Int)) w.drew := by
    clear HI2 HG2 HIX HAT hxo
    go_simp
  have e2 : (Instr.storeAt 5 (.pointer (some ⟨g, o + k, none⟩)) (.int .u8 (y : Int))).run Try.prog w.drew = .ok () (w.drew.setCells g (o + k) [.int .u8 (y : Int)]) := by
    clear HI2 HG2 HIX HAT hxo e1
    show _ = Result.ok () (w.drew.setCell ⟨g, o + k, none⟩ (.int .u8 (y : Int)))
    go_simp
  obtain ⟨w0, hw0⟩ : ∃ w0, w0 = w.drew := ⟨_, rfl⟩
  rw [← hw0] at e1 e2 HI2 HG2
  obtain ⟨w2, hw2⟩ : ∃ w2, w2 = w0.setCells g (o + k) [.int .u8 (y : Int)] := ⟨_, rfl⟩
  rw [← hw2] at e2 HI2 HG2
  have HW0 := hidn hw0
  have E1 := hidn e1
  have E2 := hidn e2
  clear hI hId p1 p2 p3 p4 p5 p6 hI2 hG2 hcl hfz hv hw2 hw0 e1 e2 hy hbl ho
  go_enter Try.func21, Try.ntmps21
  go_wp2_with fail
  refine (isMade_any _ d F N M free fuse h).mono ?_
  rintro e w1 ⟨rfl, rfl⟩
  go_wp2_with fail
  refine HAT.out.mono ?_
  rintro e w1 ⟨rfl, rfl⟩
  go_wp2_with fail
  refine wp_region_noPanic ?_
  refine wp_region_held_drew (S := fun w' => True) (by kernel_rfl) trivial (fun hHeld => ?_)
  rw [← HW0.out]
  refine drawn_take (i := 0) (v := .pointer (some ⟨g, o, none⟩)) (some 27) rfl rfl (by kernel_rfl) (by kernel_rfl) (by kernel_rfl) (fun _ _ _ h => h) (Or.inl ⟨by kernel_rfl, fun w hw => by go_simp⟩) hHeld ?_
  refine drawn_take (i := 1) (v := .int .i64 (k : Int)) (some 28) rfl rfl (by kernel_rfl) (by kernel_rfl) (by kernel_rfl) (fun _ _ _ h => h) (Or.inl ⟨by kernel_rfl, fun w hw => by go_simp⟩) hHeld ?_
  simp only [Act.put, List.setIfInBounds_toArray, List.set_cons_succ, List.set_cons_zero]
  refine drawn_take (i := 2) (v := .pointer (some ⟨g, o, none⟩)) (some 29) rfl rfl (by kernel_rfl) (by kernel_rfl) (by kernel_rfl) (fun _ _ _ h => h) (Or.inl ⟨by kernel_rfl, fun w hw => by go_simp⟩) hHeld ?_
  simp only [Act.put, List.setIfInBounds_toArray, List.set_cons_succ, List.set_cons_zero]
  refine drawn_take (i := 3) (v := .pointer (some ⟨g, o, none⟩)) (some 30) rfl rfl (by kernel_rfl) (by kernel_rfl) (by kernel_rfl) (fun _ _ _ h => h) (Or.inl ⟨by kernel_rfl, fun w hw => by go_simp⟩) hHeld ?_
  simp only [Act.put, List.setIfInBounds_toArray, List.set_cons_succ, List.set_cons_zero]
  refine drawn_take (i := 4) (v := .pointer (some ⟨g, o + k, none⟩)) (some 31) rfl rfl (by kernel_rfl) (by kernel_rfl) (by kernel_rfl) (fun _ _ _ h => h) (Or.inl ⟨by kernel_rfl, fun w hw => idx_run (x := .tmp 30) (y := .tmp 28) (vx := .pointer (some ⟨g, o, none⟩)) (vy := .int .i64 (k : Int)) (by kernel_rfl) (by kernel_rfl) (by kernel_rfl) (HIX.out w)⟩) hHeld ?_
  refine drawn_take (i := 6) (v := .int .u8 (m : Int)) (some 33) rfl rfl (by kernel_rfl) (by kernel_rfl) (by kernel_rfl) (fun _ _ _ h => h) (Or.inl ⟨by kernel_rfl, fun w hw => by go_simp⟩) hHeld ?_
  refine drawn_take (i := 8) (v := .pointer (some ⟨g, o, none⟩)) (some 35) rfl rfl (by kernel_rfl) (by kernel_rfl) (by kernel_rfl) (fun _ _ _ h => h) (Or.inl ⟨by kernel_rfl, fun w hw => by go_simp⟩) hHeld ?_
  simp only [Act.put, List.setIfInBounds_toArray, List.set_cons_succ, List.set_cons_zero]
  refine drawn_take (i := 9) (v := .pointer (some ⟨g, o, none⟩)) (some 36) rfl rfl (by kernel_rfl) (by kernel_rfl) (by kernel_rfl) (fun _ _ _ h => h) (Or.inl ⟨by kernel_rfl, fun w hw => by go_simp⟩) hHeld ?_
  simp only [Act.put, List.setIfInBounds_toArray, List.set_cons_succ, List.set_cons_zero]
  refine wpAnyH_ready (rs := [5]) (by kernel_rfl) (by simp) ?_
  refine rdy_val (i := 5) rfl rfl (some 32) rfl (.int .u8 (v : Int)) w0 (load_run (x := .tmp 31) (vx := .pointer (some ⟨g, o + k, none⟩)) (by kernel_rfl) (by kernel_rfl) E1.out) trivial (fun hHeld => ?_) rdy_nil
  simp only [Act.put, List.setIfInBounds_toArray, List.set_cons_succ, List.set_cons_zero]
  refine drawn_take (i := 7) (v := .int .u8 (y : Int)) (some 34) rfl rfl (by kernel_rfl) (by kernel_rfl) (by kernel_rfl) (fun _ _ _ h => h) (Or.inl ⟨by kernel_rfl, fun w hw => by go_simp⟩) hHeld ?_
  simp only [Act.put, List.setIfInBounds_toArray, List.set_cons_succ, List.set_cons_zero]
  refine drawn_take (i := 10) (v := .pointer (some ⟨g, o + k, none⟩)) (some 37) rfl rfl (by kernel_rfl) (by kernel_rfl) (by kernel_rfl) (fun _ _ _ h => h) (Or.inl ⟨by kernel_rfl, fun w hw => idx_run (x := .tmp 36) (y := .tmp 28) (vx := .pointer (some ⟨g, o, none⟩)) (vy := .int .i64 (k : Int)) (by kernel_rfl) (by kernel_rfl) (by kernel_rfl) (HIX.out w)⟩) hHeld ?_
  simp only [Act.put, List.setIfInBounds_toArray, List.set_cons_succ, List.set_cons_zero]
  refine wpAnyH_ready (rs := [11]) (by kernel_rfl) (by simp) ?_
  refine rdy_unit (i := 11) rfl rfl none rfl w2 (store_run (ty := 5) (x := .tmp 37) (y := .tmp 34) (vx := .pointer (some ⟨g, o + k, none⟩)) (vy := .int .u8 (y : Int)) (by kernel_rfl) (by kernel_rfl) (by kernel_rfl) E2.out) trivial (fun hHeld => ?_) rdy_nil
  refine wpAnyH_done (by kernel_rfl) ?_ _
  refine NoPanic.normal ?_
  simp only [Act.put]
  clear hHeld
  go_wp2
  go_ret
  exact ⟨rfl, HI2.out, HG2.out⟩
end Go.Proofs.Ytocfbokgbpaneaa

namespace Go.Proofs.Ytocfbokgbpaneaa
open Go.RowKit Go.Maps
set_option linter.unusedVariables false

def clampK (k : Int) : Nat := (if (128 : Int) < (if k < 0 then (0 : Int) else k) then (128 : Int) else (if k < 0 then (0 : Int) else k)).toNat
theorem clampK_eq (k : Int) : (if (128 : Int) < (if k < 0 then (0 : Int) else k) then (128 : Int) else (if k < 0 then (0 : Int) else k)) = (clampK k : Int) := by
  unfold clampK
  split <;> split <;> omega
/-- What a crash that keeps k bytes leaves of an extent. -/
def Ext.fell (k : Int) (x : Ext) : Ext := if x.waits then x.crashed (clampK k) else x
def fellL (kf : Int → Int) (l : List Ext) : List Ext := l.mapIdx fun i x => x.fell (kf i)
def fellTo (kf : Int → Int) (l : List Ext) (k : Nat) : List Ext := fellL kf (l.take k) ++ l.drop k
theorem fellL_length (kf : Int → Int) (l : List Ext) : (fellL kf l).length = l.length := by simp [fellL]
theorem fellTo_zero (kf : Int → Int) (l : List Ext) : fellTo kf l 0 = l := by simp [fellTo, fellL]
theorem fellTo_all (kf : Int → Int) (l : List Ext) : fellTo kf l l.length = fellL kf l := by simp [fellTo]
theorem fellTo_at (kf : Int → Int) (l : List Ext) (k : Nat) (hk : k < l.length) : (fellTo kf l k)[k]? = some l[k] := by
  unfold fellTo
  rw [List.getElem?_append_right (by rw [fellL_length]; simp; omega), fellL_length]
  simp [Nat.min_eq_left (Nat.le_of_lt hk), List.getElem?_drop]
theorem fellL_snoc (kf : Int → Int) (l : List Ext) (x : Ext) : fellL kf (l ++ [x]) = fellL kf l ++ [x.fell (kf l.length)] := by
  simp [fellL, List.mapIdx_append]
theorem fellTo_step (kf : Int → Int) (l : List Ext) (k : Nat) (hk : k < l.length) : (fellTo kf l k).set k (l[k].fell (kf k)) = fellTo kf l (k + 1) := by
  unfold fellTo
  rw [List.set_append_right _ _ (by rw [fellL_length]; simp; omega), fellL_length, List.length_take, Nat.min_eq_left (by omega), Nat.sub_self, List.drop_eq_getElem_cons hk, List.set_cons_zero, List.take_succ_eq_append_getElem hk, fellL_snoc, List.append_assoc, List.length_take, Nat.min_eq_left (by omega)]
  rfl
theorem fellTo_idle (kf : Int → Int) (l : List Ext) (k : Nat) (hk : k < l.length) (hw : l[k].waits = false) : fellTo kf l (k + 1) = fellTo kf l k := by
  rw [← fellTo_step kf l k hk, show l[k].fell (kf k) = l[k] by simp [Ext.fell, hw], set_at (fellTo_at kf l k hk)]
/-- The files while the crash goes through them: those that are left are as they were. -/
def fellBut (kf : List UInt8 → Int → Int) (M : List UInt8 → List Ext) (left : Lit → Bool) : List UInt8 → List Ext := fun s => if left (.string s) then M s else fellL (kf s) (M s)
theorem fellL_nil (kf : Int → Int) {l : List Ext} : fellL kf l = [] ↔ l = [] := by
  constructor
  · intro h
    have := fellL_length kf l
    rw [h] at this
    exact List.length_eq_zero_iff.1 this.symm
  · rintro rfl; rfl

theorem Keeps.grown {F : Nat → Prop} {w w1 w2 : World} {q : Nat} (h : Keeps F w w1) (hg : w1.grownBy w2 (some q)) (hq : F q ∨ w.heap.size ≤ q) : Keeps F w w2 :=
  ⟨hg.os.trans h.os, hg.tape.trans h.tape, hg.output.trans h.output, Nat.le_trans h.size hg.size, fun i hi hn => (hg.block i (Nat.lt_of_lt_of_le hi h.size) (fun e => by
    have e' : i = q := Option.some.inj e
    subst e'
    rcases hq with hq | hq
    · exact hn hq
    · omega)).trans (h.block i hi hn)⟩

section
variable {w : World} {d N : Nat} {F : Nat → Prop} {M : List UInt8 → List Ext} {free fuse : Int} {bm : Nat} {D : DataW Unit} {G C : List UInt8 → Nat}
/-- As 'put', with the sharper word on the world. -/
theorem DiskIs.put2 (h : DiskIs w d F N M free fuse bm D G C) (s : List UInt8) (i : Nat) (x : Ext) (hx : (M s)[i]? = some x) (o : Nat) (ho : i * 385 = o) (k : Nat) (cs : List Value) (y : Ext) (hy : y.ok) (hk : k + cs.length ≤ 385) (hsp : splice x.cells k cs = y.cells) :
    DiskIs (w.setCells (G s) (o + k) cs) d F N (upd M s ((M s).set i y)) free fuse bm D G C ∧ w.grownBy (w.setCells (G s) (o + k) cs) (some (G s)) := by
  refine ⟨(h.put s i x hx o ho k cs y hy hk hsp).1, ?_⟩
  obtain ⟨hi, he⟩ := List.getElem?_eq_some_iff.1 hx
  obtain ⟨_, hrow, hok⟩ := h.2.2.2.2.2.1 s (ne_of_at hx)
  subst ho
  have hl : (cellsE (M s)).length = (M s).length * 385 := cellsE_length hok
  exact (own_storedAll (w := w) cs (i * 385 + k) _ w hrow (by rw [hl]; have : (i + 1) * 385 ≤ (M s).length * 385 := Nat.mul_le_mul_right _ hi; omega)).2
theorem crash_ext (h : DiskIs w d F N M free fuse bm D G C) (s : List UInt8) (i : Nat) (x : Ext) (hx : (M s)[i]? = some x) (o : Nat) (ho : i * 385 = o) (k : Int) (hw : x.waits = true) :
    Calls Try.prog 49 #[.pointer (some ⟨G s, o, none⟩), .int .i64 k] w fun e w' => e = .returned (.tuple #[]) ∧ DiskIs w' d F N (upd M s ((M s).set i (x.fell k))) free fuse bm D G C ∧ w.grownBy w' (some (G s)) := by
  obtain ⟨p1, p2, p3, p4, p5, p6⟩ := h.parts s i x hx o ho
  refine (crash_run w (G s) o (clampK k) k _ rfl (clampK_eq k) x.wri p6.2.2.1 p3 (by simpa using h.thereAt s i x hx o ho 0 128 (by omega)) (h.thereAt s i x hx o ho 384 1 (by omega))).mono ?_
  rintro e w' ⟨rfl, rfl⟩
  have hb : Below w.heap.size w w.drew := (Below.refl _ _).drew
  have h0 := h.below hb
  have hm : clampK k ≤ 128 := by
    have := clampK_eq k
    split at this <;> omega
  have hy := Ext.crashed_ok p6 (clampK k)
  obtain ⟨h1, g1⟩ := h0.put2 s i x hx o ho 0 (vb (x.wri.take (clampK k))) { x with dur := x.wri.take (clampK k) ++ x.dur.drop (clampK k) } ⟨hy.1, p6.2⟩ (by rw [length_vb, List.length_take, p6.2.2.1]; omega) (by
    have e1 : (vb (x.wri.take (clampK k))).length = clampK k := by rw [length_vb, List.length_take, p6.2.2.1]; omega
    unfold splice
    rw [e1, List.take_zero, List.nil_append, Nat.zero_add]
    unfold Ext.cells
    rw [List.drop_append_of_le_length (by rw [length_vb, p6.1.1]; exact hm), ← List.append_assoc]
    congr 1
    simp [vb])
  have hx2 : (upd M s ((M s).set i { x with dur := x.wri.take (clampK k) ++ x.dur.drop (clampK k) }) s)[i]? = some { x with dur := x.wri.take (clampK k) ++ x.dur.drop (clampK k) } := by
    obtain ⟨hi, _⟩ := List.getElem?_eq_some_iff.1 hx
    rw [upd_same, List.getElem?_set_self hi]
  obtain ⟨h2, g2⟩ := h1.put2 s i _ hx2 o ho 384 [.bool false] (x.crashed (clampK k)) hy (by simp) (cells_waits (x := { x with dur := x.wri.take (clampK k) ++ x.dur.drop (clampK k) }) ⟨hy.1, p6.2⟩ false)
  rw [upd_upd, upd_same, List.set_set] at h2
  have e : x.fell k = x.crashed (clampK k) := by simp [Ext.fell, hw]
  rw [e]
  have g0 : w.grownBy w.drew (some (G s)) := ⟨rfl, rfl, rfl, Nat.le_refl _, fun _ _ _ => rfl⟩
  exact ⟨rfl, h2, (g0.trans g1).trans g2⟩
/-- A row's block is no map's, and no loop's. -/
theorem DiskIs.row_not (h : DiskIs w d F N M free fuse bm D G C) (s : List UInt8) (hs : M s ≠ []) {b : Nat} {es : Array MapEntry} {clock : Nat} (hb : w.heap[b]? = some (.map es clock)) : b ≠ G s := by
  rintro rfl
  rcases (h.2.2.2.2.2.1 s hs).2.1.2 with ⟨hv, _⟩ | ⟨g', c', cur, hv, _, hh, _⟩
  · cases hv
  · cases hv
    rw [hb] at hh
    cases hh
theorem DiskIs.row_cells (h : DiskIs w d F N M free fuse bm D G C) (s : List UInt8) (hs : M s ≠ []) : ∃ cur, w.heap[G s]? = some (.cells cur 49 (0, 0)) := by
  rcases (h.2.2.2.2.2.1 s hs).2.1.2 with ⟨hv, _⟩ | ⟨g', c', cur, hv, _, hh, _⟩
  · cases hv
  · cases hv
    exact ⟨cur, hh⟩
theorem ranges_not {P : Program} {kT : TypeId} {R : Value → Option (DataW Unit × List MemPlace)} {b r n cnt : Nat} {left : Lit → Bool} (h : w.ranges P kT R b r n D left cnt) {g : Nat} {cur : Array Value} {t : TypeId} (hg : w.heap[g]? = some (.cells cur t (0, 0))) : b ≠ g ∧ r ≠ g := by
  obtain ⟨es, clock, since, seen, c0, h1, _, _, _, h2, _⟩ := h
  refine ⟨?_, ?_⟩
  · rintro rfl
    rw [hg] at h1
    cases h1
  · rintro rfl
    rw [hg] at h2
    cases h2
theorem KeptMap.not {b : Nat} {kf : List UInt8 → Int → Int} (h : KeptMap w b kf) {g : Nat} {cur : Array Value} {t : TypeId} (hg : w.heap[g]? = some (.cells cur t (0, 0))) : b ≠ g := by
  obtain ⟨N, D, ⟨es, clock, h1, _⟩, _⟩ := h
  rintro rfl
  rw [hg] at h1
  cases h1
end
end Go.Proofs.Ytocfbokgbpaneaa
