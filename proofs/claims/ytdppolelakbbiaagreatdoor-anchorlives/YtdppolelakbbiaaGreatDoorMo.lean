/- The disk: a file is taken away (a disk without a fuse). -/
import Derived.Test.YtdppolelakbbiaaGreatDoorMe
import Derived.Test.YtdppolelakbbiaaGreatDoorMj
import Derived.Test.YtdppolelakbbiaaGreatDoorMm
import Derived.Test.YtdppolelakbbiaaGreatDoorMb
namespace Go.Proofs.YtdppolelakbbiaaGreatDoor
open Go.RowKit Go.Maps
set_option linter.unusedVariables false
theorem DiskIs.freedI {w : World} {d N : Nat} {F : Nat → Prop} {M : List UInt8 → List Ext} {free fuse : Int} {bm : Nat} {D : DataW Unit} {G C : List UInt8 → Nat} (h : DiskIs w d F N M free fuse bm D G C) (f' : Int) : DiskIs (w.setCell ⟨d, 1, none⟩ (.int .i64 f')) d F N M f' fuse bm D G C := by
 obtain ⟨h1, h2, h3, h4, h5, h6, h7⟩ := h
 refine ⟨?_, h2, h3, h4.setCell (map_ne h4 h1) _, h5, fun s hs => ?_, h7⟩
 ·
  rw [setCell_eq_setRow _ _ _ _ _ _ _ h1]; exact setRow_heap _ _ _ _ _ _ h1
 ·
  obtain ⟨a1, a2, a3⟩ := h6 s hs
  exact ⟨a1, own_setCell (a := ⟨d, 1, none⟩) a2 (fun e => row_ne a2 h1 (lQ5 e)) _, a3⟩
theorem DiskIs.struck {w : World} {d N : Nat} {F : Nat → Prop} {M : List UInt8 → List Ext} {free fuse : Int} {bm : Nat} {D : DataW Unit} {G C : List UInt8 → Nat} (h : DiskIs w d F N M free fuse bm D G C) (s : ByteArray) (hs : s.size ≤ maxLen) (ty : TypeId) :
  ∃ w', (Builtin.delete_ #[122, 9] ty #[.map (some bm), .string s]).run Tryz.prog w = .ok (.tuple #[]) w' ∧ DiskOf w' d F N (upd M s.data.toList []) free fuse ∧ Gr F F w w' := by
 obtain ⟨h1, h2, h3, h4, h5, h6, h7⟩ := h
 obtain ⟨w', hrun, hown, hmt⟩ := h4.drop lawS Tryz.underlying122 (Go.WideMaps.keyOf_string_mk Tryz.underlying9 hs) ty
 have hg := hmt.grown
 have hne : ∀ t, t ≠ s.data.toList → (Lit.string t) ≠ Lit.string s.data.toList := fun t ht e => ht (by simpa using e)
 refine ⟨w', hrun, ⟨bm, D.del (.string s.data.toList), G, C, ?_, h2, ⟨h3.1, fun t ht => ?_⟩, hown, fun t ht => ?_, fun t ht => ?_, fun t t' ht ht' hn => ?_⟩, Gr.of (Keeps.of_grown hg (fun k hk => by cases hk; exact h3.1))⟩
 ·
  rw [hg.block d (lQ3.1 h1).1 (fun e => map_ne h4 h1 (lQ5 e).symm)]
  exact h1
 ·
  by_cases hts : t = s.data.toList
  ·
   rw [hts, upd_same] at ht; exact absurd rfl ht
  ·
   rw [upd_other _ _ _ _ hts] at ht; exact h3.2 t ht
 ·
  by_cases hts : t = s.data.toList
  ·
   rw [hts]; exact has_del_same
  ·
   rw [upd_other _ _ _ _ hts] at ht
   rw [has_del_other (hne t hts)]
   exact h5 t ht
 ·
  by_cases hts : t = s.data.toList
  ·
   rw [hts, upd_same] at ht; exact absurd rfl ht
  ·
   rw [upd_other _ _ _ _ hts] at ht ⊢
   obtain ⟨a1, a2, a3⟩ := h6 t ht
   refine ⟨fun z => by rw [atKey_del_other (hne t hts)]; exact a1 z, ?_, a3⟩
   obtain ⟨hl, hr⟩ := a2
   refine ⟨hl, ?_⟩
   rcases hr with hr | ⟨g, cap, cur, hv, hg0, hh, r⟩
   ·
    exact .inl hr
   ·
    refine .inr ⟨g, cap, cur, hv, hg0, ?_, r⟩
    rw [hg.block g (lQ3.1 hh).1 (fun e => by
     obtain ⟨es, clock, hbk, _⟩ := h4
     rw [lQ5 e] at hh
     rw [hh] at hbk
     cases hbk)]
    exact hh
 ·
  by_cases e1 : t = s.data.toList
  ·
   rw [e1, upd_same] at ht; exact absurd rfl ht
  ·
   by_cases e2 : t' = s.data.toList
   ·
    rw [e2, upd_same] at ht'; exact absurd rfl ht'
   ·
    rw [upd_other _ _ _ _ e1] at ht
    rw [upd_other _ _ _ _ e2] at ht'
    exact h7 t t' ht ht' hn
set_option maxHeartbeats 1000000 in
theorem removeR_none (w : World) (d : Nat) (F : Nat → Prop) (N : Nat) (M : List UInt8 → List Ext) (free fuse : Int) (h : DiskOf w d F N M free fuse) (s : ByteArray) (hs : s.size ≤ maxLen) (he : M s.data.toList = []) :
  Calls Tryz.prog 52 #[.pointer (some ⟨d, 0, none⟩), .string s] w fun e w' => e = .returned (.int .i64 30) ∧ w' = w := by
 obtain ⟨bm, D, G, C, hI⟩ := h.is
 have hlk := hI.look2_no s hs he
 have c0 := hI.c0
 clear hI he
 go_enter Tryz.func52, Tryz.ntmps52
 go_wp2_with fail
 refine (isMade_any _ d F N M free fuse h).mono ?_
 rintro e w1 ⟨rfl, rfl⟩
 go_wp2
 go_ret
 exact ⟨rfl, rfl⟩
end Go.Proofs.YtdppolelakbbiaaGreatDoor

namespace Go.Proofs.YtdppolelakbbiaaGreatDoor
open Go.RowKit Go.Maps
set_option linter.unusedVariables false
def Ext.rot (x : Ext) (k m : Nat) : Ext := { x with dur := x.dur.set k (x.dur.getD k 0 ^^^ m) }
theorem xor8 (x y : Nat) (hx : x < 256) (hy : y < 256) : bits .xor .u8 (x : Int) (y : Int) = ((x ^^^ y : Nat) : Int) := bits_xor_u .u8 rfl x y hx hy
theorem getD_b {l : List Nat} {k : Nat} (hk : k < l.length) (h : ∀ x ∈ l, x < 256) : l.getD k 0 < 256 := by
 rw [List.getD_eq_getElem?_getD, lQ6 hk]
 exact h _ (List.getElem_mem hk)
theorem Ext.rot_ok {x : Ext} (h : x.ok) {k m : Nat} (hk : k < 128) (hm : m < 256) : (x.rot k m).ok := by
 refine ⟨⟨by simp [Ext.rot, h.1.1], fun y hy => ?_⟩, h.2⟩
 rcases List.mem_or_eq_of_mem_set hy with hy | rfl
 ·
  exact h.1.2 y hy
 ·
  exact Nat.xor_lt_two_pow (n := 8) (getD_b (by rw [h.1.1]; exact hk) h.1.2) hm
theorem cells_rot {x : Ext} (h : x.ok) (k y : Nat) (hk : k < 128) : splice x.cells k [.int .u8 (y : Int)] = ({ x with dur := x.dur.set k y } : Ext).cells := by
 have e : ∀ (l : List Value) (j : Nat) (v : Value), j < l.length → splice l j [v] = l.set j v := by
  intro l j v hj
  rw [List.set_eq_take_append_cons_drop, if_pos hj]
  simp [splice]
 rw [e _ _ _ (by rw [Ext.cells_length h]; omega)]
 unfold Ext.cells
 rw [List.set_append_left _ _ (by rw [length_vb, h.1.1]; exact hk)]
 congr 1
 simp [vb, List.map_set]
theorem load_run {o : Oper} {a : Act} {w : World} {ty : TypeId} {x : Operand} {vx v : Value} (ho : o.op = Op.load ty x) (hx : a.eval x = vx) (hr : (Instr.loadAt ty vx).run Tryz.prog w = .ok v w) : (execOp a.eval o).run Tryz.prog w = .ok (.value v) w := by
 simp [execOp, ho, hx, hr, Result.andThen]
theorem arr_index (g o k : Nat) (hk : k < 128) (wx : World) : (Instr.indexAt 134 (.pointer (some ⟨g, o, none⟩)) (.int .i64 (k : Int))).run Tryz.prog wx = .ok (.pointer (some ⟨g, o + k, none⟩)) wx := by
 rw [run_indexAt_array (P := Tryz.prog) wx 134 ⟨g, o, none⟩ .i64 (k : Int) (by kernel_rfl)]
 have h1 : Tryz.prog.arrayLen 134 = 128 := by kernel_rfl
 have h2 : (sizeOf (Tryz.prog.elem 134)).run Tryz.prog wx = .ok 1 wx := by kernel_rfl
 rw [h1, if_pos ⟨by omega, by omega⟩, h2]
 simp [Result.andThen, add_none]
set_option maxHeartbeats 1000000 in
theorem extents_disk (w : World) (d : Nat) (F : Nat → Prop) (N : Nat) (M : List UInt8 → List Ext) (free fuse : Int) (h : DiskOf w d F N M free fuse) (s : ByteArray) (hs : s.size ≤ maxLen) (n : Nat) (HN : Hid (n = (M s.data.toList).length)) :
  Calls Tryz.prog 72 #[.pointer (some ⟨d, 0, none⟩), .string s] w fun e w' => e = .returned (.int .i64 n) ∧ w' = w := by
 obtain ⟨bm, D, G, C, hI⟩ := h.is
 obtain ⟨va, vc, hlk⟩ := hI.look_len s hs n HN
 have c0 := hI.c0
 clear hI
 go_enter Tryz.func72, Tryz.ntmps72
 go_wp2_with fail
 refine (isMade_any _ d F N M free fuse h).mono ?_
 rintro e w1 ⟨rfl, rfl⟩
 go_wp2
 go_ret
 exact ⟨rfl, rfl⟩
set_option maxHeartbeats 2000000 in
theorem rot_some (w : World) (d : Nat) (F : Nat → Prop) (N : Nat) (M : List UInt8 → List Ext) (free fuse : Int) (h : DiskOf w d F N M free fuse) (s : ByteArray) (hs : s.size ≤ maxLen) (i n o : Nat) (HN : Hid (n = (M s.data.toList).length)) (hi : i < n) (ho : i * 385 = o) (k m : Nat) (hk : k < 128) (hm : m < 256) (x : Ext) (HX : Hid ((M s.data.toList)[i]? = some x)) :
  Calls Tryz.prog 58 #[.pointer (some ⟨d, 0, none⟩), .string s, .int .i64 i, .int .i64 k, .int .u8 m] w fun e w' => e = .returned (.int .i64 0) ∧ DiskOf w' d F N (upd M s.data.toList ((M s.data.toList).set i (x.rot k m))) free fuse ∧ Gr F F w w' := by
 obtain ⟨bm, D, G, C, hI⟩ := h.is
 have hpn := fun (wx : World) (p : Option Addr) => run_eql_pointer_nil (P := Tryz.prog) wx 147 p (by kernel_rfl)
 have hbl : Below w.heap.size w w.drew := (Below.refl _ _).drew
 have hId := hI.below hbl
 obtain ⟨p1, p2, p3, p4, p5, p6⟩ := hId.parts _ i x HX.out o ho
 obtain ⟨v, hv⟩ : ∃ v, v = x.dur.getD k 0 := ⟨_, rfl⟩
 have hvl : v < 256 := by rw [hv]; exact getD_b (by rw [p6.1.1]; exact hk) p6.1.2
 have hcl : w.drew.cell? ⟨G s.data.toList, o + k, none⟩ = some (.int .u8 (v : Int)) := by
  have := p1 k (.int .u8 (v : Int)) (by rw [hv]; exact vb_getD _ _ (by rw [p6.1.1]; exact hk))
  exact this
 have hfz : w.drew.frozen? ⟨G s.data.toList, o + k, none⟩ = false := (by simpa using (hId.thereAt _ i x HX.out o ho k 1 (by omega) 0 (by omega)).2)
 have hxo : bits .xor .u8 (v : Int) (m : Int) = ((v ^^^ m : Nat) : Int) := xor8 v m hvl hm
 obtain ⟨hI2, hG2⟩ := hId.put _ i x HX.out o ho k [.int .u8 ((v ^^^ m : Nat) : Int)] (x.rot k m) (Ext.rot_ok p6 hk hm) (by simp; omega) (by rw [cells_rot p6 k _ hk]; unfold Ext.rot; rw [hv])
 have HI2 := hidn hI2.of
 have HG2 := hidn ((Gr.of (Keeps.of_below (F := F) hbl)).trans hG2)
 have HIX := hidn (arr_index (G s.data.toList) o k hk)
 have HAT := hidn (at_some w d F N M free fuse bm D G C hI s hs i n o HN hi ho)
 generalize G s.data.toList = g at *
 have h1 : decide ((k : Int) < 0) = false := by simp
 have h2 : decide (128 ≤ k) = false := by simp; omega
 have h3 : decide ((128 : Int) ≤ (k : Int)) = false := by simp; omega
 obtain ⟨y, hy⟩ : ∃ y, y = v ^^^ m := ⟨_, rfl⟩
 rw [← hy] at hxo HI2 HG2
 have e1 : (Instr.loadAt 5 (.pointer (some ⟨g, o + k, none⟩))).run Tryz.prog w.drew = .ok (.int .u8 (v : Int)) w.drew := by
  clear HI2 HG2 HIX HAT hxo
  go_simp
 have e2 : (Instr.storeAt 5 (.pointer (some ⟨g, o + k, none⟩)) (.int .u8 (y : Int))).run Tryz.prog w.drew = .ok () (w.drew.setCells g (o + k) [.int .u8 (y : Int)]) := by
  clear HI2 HG2 HIX HAT hxo e1
  show _ = Result.ok () (w.drew.setCell ⟨g, o + k, none⟩ (.int .u8 (y : Int)))
  go_simp
 obtain ⟨w0, hw0⟩ : ∃ w0, w0 = w.drew := ⟨_, rfl⟩
 rw [← hw0] at e1 e2 HI2 HG2
 obtain ⟨w2, hw2⟩ : ∃ w2, w2 = w0.setCells g (o + k) [.int .u8 (y : Int)] := ⟨_, rfl⟩
 rw [← hw2] at e2 HI2 HG2
 have HW0 := hidn hw0
 have E1 := hidn e1
 have E2 := hidn e2
 clear hI hId p1 p2 p3 p4 p5 p6 hI2 hG2 hcl hfz hv hw2 hw0 e1 e2 hy hbl ho
 go_enter Tryz.func58, Tryz.ntmps58
 go_wp2_with fail
 refine (isMade_any _ d F N M free fuse h).mono ?_
 rintro e w1 ⟨rfl, rfl⟩
 go_wp2_with fail
 refine HAT.out.mono ?_
 rintro e w1 ⟨rfl, rfl⟩
 go_wp2_with fail
 refine wp_region_noPanic ?_
 refine wp_region_held_drew (S := fun w' => True) (by kernel_rfl) trivial (fun hHeld => ?_)
 rw [← HW0.out]
 refine dtk (i := 0) (v := .pointer (some ⟨g, o, none⟩)) (some 27) rfl rfl (by kernel_rfl) (by kernel_rfl) (fun w hw => by go_simp) hHeld ?_
 refine dtk (i := 1) (v := .int .i64 (k : Int)) (some 28) rfl rfl (by kernel_rfl) (by kernel_rfl) (fun w hw => by go_simp) hHeld ?_
 simp only [Act.put, sQ1, sQ2, sQ3]
 refine dtk (i := 2) (v := .pointer (some ⟨g, o, none⟩)) (some 29) rfl rfl (by kernel_rfl) (by kernel_rfl) (fun w hw => by go_simp) hHeld ?_
 simp only [Act.put, sQ1, sQ2, sQ3]
 refine dtk (i := 3) (v := .pointer (some ⟨g, o, none⟩)) (some 30) rfl rfl (by kernel_rfl) (by kernel_rfl) (fun w hw => by go_simp) hHeld ?_
 simp only [Act.put, sQ1, sQ2, sQ3]
 refine dtk (i := 4) (v := .pointer (some ⟨g, o + k, none⟩)) (some 31) rfl rfl (by kernel_rfl) (by kernel_rfl) (fun w hw => idx_run (x := .tmp 30) (y := .tmp 28) (vx := .pointer (some ⟨g, o, none⟩)) (vy := .int .i64 (k : Int)) (by kernel_rfl) (by kernel_rfl) (by kernel_rfl) (HIX.out w)) hHeld ?_
 refine dtk (i := 6) (v := .int .u8 (m : Int)) (some 33) rfl rfl (by kernel_rfl) (by kernel_rfl) (fun w hw => by go_simp) hHeld ?_
 refine dtk (i := 8) (v := .pointer (some ⟨g, o, none⟩)) (some 35) rfl rfl (by kernel_rfl) (by kernel_rfl) (fun w hw => by go_simp) hHeld ?_
 simp only [Act.put, sQ1, sQ2, sQ3]
 refine dtk (i := 9) (v := .pointer (some ⟨g, o, none⟩)) (some 36) rfl rfl (by kernel_rfl) (by kernel_rfl) (fun w hw => by go_simp) hHeld ?_
 simp only [Act.put, sQ1, sQ2, sQ3]
 refine wpAnyH_ready (rs := [5]) (by kernel_rfl) (by simp) ?_
 refine rdy_val (i := 5) rfl rfl (some 32) rfl (.int .u8 (v : Int)) w0 (load_run (x := .tmp 31) (vx := .pointer (some ⟨g, o + k, none⟩)) (by kernel_rfl) (by kernel_rfl) E1.out) trivial (fun hHeld => ?_) rdy_nil
 simp only [Act.put, sQ1, sQ2, sQ3]
 refine dtk (i := 7) (v := .int .u8 (y : Int)) (some 34) rfl rfl (by kernel_rfl) (by kernel_rfl) (fun w hw => by go_simp) hHeld ?_
 simp only [Act.put, sQ1, sQ2, sQ3]
 refine dtk (i := 10) (v := .pointer (some ⟨g, o + k, none⟩)) (some 37) rfl rfl (by kernel_rfl) (by kernel_rfl) (fun w hw => idx_run (x := .tmp 36) (y := .tmp 28) (vx := .pointer (some ⟨g, o, none⟩)) (vy := .int .i64 (k : Int)) (by kernel_rfl) (by kernel_rfl) (by kernel_rfl) (HIX.out w)) hHeld ?_
 simp only [Act.put, sQ1, sQ2, sQ3]
 refine wpAnyH_ready (rs := [11]) (by kernel_rfl) (by simp) ?_
 refine rdy_unit (i := 11) rfl rfl none rfl w2 (store_run (ty := 5) (x := .tmp 37) (y := .tmp 34) (vx := .pointer (some ⟨g, o + k, none⟩)) (vy := .int .u8 (y : Int)) (by kernel_rfl) (by kernel_rfl) (by kernel_rfl) E2.out) trivial (fun hHeld => ?_) rdy_nil
 refine wpAnyH_done (by kernel_rfl) ?_ _
 refine NoPanic.normal ?_
 simp only [Act.put]
 clear hHeld
 go_wp2
 go_ret
 exact ⟨rfl, HI2.out, HG2.out⟩
end Go.Proofs.YtdppolelakbbiaaGreatDoor

namespace Go.Proofs.YtdppolelakbbiaaGreatDoor
open Go.RowKit Go.Maps
set_option linter.unusedVariables false
def rmD (st : St) (nm : List UInt8) : St × Int :=
 if st.M nm = [] then (st, 30)
 else if st.fuse = 0 then (st, 31)
 else (⟨upd st.M nm [], st.free + ((st.M nm).length : Int), burnt st.fuse⟩, 0)
def rotD (st : St) (nm : List UInt8) (i at2 : Int) (mk : Nat) : St × Int :=
 if i < 0 then (st, 30)
 else match (st.M nm)[i.toNat]? with
  | none => (st, 30)
  | some x => if at2 < 0 ∨ 128 ≤ at2 then (st, 1) else (⟨upd st.M nm ((st.M nm).set i.toNat (x.rot at2.toNat mk)), st.free, st.fuse⟩, 0)
def fuD (st : St) (n : Int) : St × Int := if n < 0 then (st, 1) else (⟨st.M, st.free, n⟩, 0)
def crD (st : St) (ks : List Kp) : St × Int := (⟨fun s => fellL (kfOf ks s) (st.M s), st.free, -1⟩, 0)
set_option maxHeartbeats 1000000 in
theorem freeP_any (w : World) (d : Nat) (F : Nat → Prop) (N : Nat) (M : List UInt8 → List Ext) (free fuse : Int) (h : DiskOf w d F N M free fuse) :
  Calls Tryz.prog 67 #[.pointer (some ⟨d, 0, none⟩)] w fun e w' => e = .returned (.int .i64 free) ∧ w' = w := by
 obtain ⟨bm, D, G, C, hI⟩ := h.is
 have c1 := hI.c1
 clear hI
 go_enter Tryz.func67, Tryz.ntmps67
 go_wp2_with fail
 refine (isMade_any _ d F N M free fuse h).mono ?_
 rintro e w1 ⟨rfl, rfl⟩
 go_wp2
 go_ret
 exact ⟨rfl, rfl⟩
set_option maxHeartbeats 1000000 in
theorem remove_dead (w : World) (d : Nat) (F : Nat → Prop) (N : Nat) (M : List UInt8 → List Ext) (free : Int) (h : DiskOf w d F N M free 0) (s : ByteArray) (hs : s.size ≤ maxLen) (hne : M s.data.toList ≠ []) :
  Calls Tryz.prog 52 #[.pointer (some ⟨d, 0, none⟩), .string s] w fun e w' => e = .returned (.int .i64 31) ∧ w' = w := by
 obtain ⟨bm, D, G, C, hI⟩ := h.is
 have hlk := hI.look2 s hs hne
 have c0 := hI.c0
 clear hI hne
 go_enter Tryz.func52, Tryz.ntmps52
 go_wp2_with fail
 refine (isMade_any _ d F N M free 0 h).mono ?_
 rintro e w1 ⟨rfl, rfl⟩
 go_wp2_with fail
 refine (burn_zero _ d F N M free h).mono ?_
 rintro e w1 ⟨rfl, rfl⟩
 go_wp2
 go_ret
 exact ⟨rfl, rfl⟩
set_option maxHeartbeats 2000000 in
set_option maxRecDepth 100000 in
theorem remove_burn (w : World) (d : Nat) (F : Nat → Prop) (N : Nat) (M : List UInt8 → List Ext) (free fuse : Int) (h : DiskOf w d F N M free fuse) (h0 : fuse ≠ 0) (h1 : -1 ≤ fuse) (h2 : fuse ≤ 9223372036854775807) (s : ByteArray) (hs : s.size ≤ maxLen) (n : Nat) (HN : Hid (n = (M s.data.toList).length)) (hne : M s.data.toList ≠ []) (hf0 : 0 ≤ free) (hf1 : free ≤ 1000000) (hn : n ≤ 1000000) :
  Calls Tryz.prog 52 #[.pointer (some ⟨d, 0, none⟩), .string s] w fun e w' => e = .returned (.int .i64 0) ∧ DiskOf w' d F N (upd M s.data.toList []) (free + n) (burnt fuse) ∧ Gr F F w w' := by
 obtain ⟨bm, D, G, C, hI⟩ := h.is
 have hlk := hI.look2 s hs hne
 rw [← HN.out] at hlk
 have c0 := hI.c0
 clear hne
 generalize G s.data.toList = gs at hlk
 generalize C s.data.toList = gc at hlk
 have hwr : IntKind.i64.wrap (free + (n : Int)) = free + (n : Int) := by rw [IntKind.wrap_i64]; omega
 go_enter Tryz.func52, Tryz.ntmps52
 go_wp2_with fail
 refine (isMade_any _ d F N M free fuse h).mono ?_
 rintro e w1 ⟨rfl, rfl⟩
 go_wp2_with fail
 refine (burn_is hI h0 h1 h2).mono ?_
 rintro e w2 ⟨rfl, hI2, hG2⟩
 obtain ⟨fu, hfu⟩ : ∃ fu, fu = burnt fuse := ⟨_, rfl⟩
 rw [← hfu] at hI2
 have HFU := hidn hfu
 clear hfu
 have hI3 := hI2.freedI (free + (n : Int))
 have c0' := hI2.c0
 have c1' := hI2.c1
 have f1' := frozen_of_row _ _ 1 _ _ hI2.1
 have c0'' := hI3.c0
 have hG3 : Gr F F w1 (w2.setCell ⟨d, 1, none⟩ (.int .i64 (free + (n : Int)))) := hG2.trans (Gr.of ((Keeps.refl _ _).setCell hI2.2.1.1 _))
 obtain ⟨w4, hdel, hD4, hG4⟩ := hI3.struck s hs 0
 have HD4 := hidn hD4
 have HG4 := hidn (hG3.trans hG4)
 clear hI hI2 hI3 hG2 hG3 hD4 hG4 hlk c0 h
 go_wp2_with fail
 go_ret
 rw [← HFU.out]
 exact ⟨rfl, HD4.out, HG4.out⟩
theorem remove_st (w : World) (d : Nat) (F : Nat → Prop) (N : Nat) (st : St) (h : DiskS w d F N st) (s : ByteArray) (hsm : s.size ≤ maxLen) (hf : -1 ≤ st.fuse) (hf2 : st.fuse ≤ 9223372036854775807) (hfr0 : 0 ≤ st.free) (hfr : st.free ≤ 1000000) (hn : (st.M s.data.toList).length ≤ 1000000) :
  Calls Tryz.prog 52 #[.pointer (some ⟨d, 0, none⟩), .string s] w (WrPost w d F N (rmD st s.data.toList)) := by
 by_cases h1 : st.M s.data.toList = []
 ·
  refine (removeR_none w d F N st.M st.free st.fuse h s hsm h1).mono ?_
  rintro e w' ⟨rfl, rfl⟩
  have e1 : rmD st s.data.toList = (st, 30) := by unfold rmD; rw [if_pos h1]
  rw [e1]
  exact ⟨rfl, F, h, Gr.refl _ _⟩
 ·
  obtain ⟨M, free, fuse⟩ := st
  by_cases h2 : fuse = 0
  ·
   subst h2
   refine (remove_dead w d F N M free h s hsm h1).mono ?_
   rintro e w' ⟨rfl, rfl⟩
   have e1 : rmD ⟨M, free, 0⟩ s.data.toList = (⟨M, free, 0⟩, 31) := by unfold rmD; rw [if_neg h1, if_pos rfl]
   rw [e1]
   exact ⟨rfl, F, h, Gr.refl _ _⟩
  ·
   refine (remove_burn w d F N M free fuse h h2 hf hf2 s hsm _ (hidn rfl) h1 hfr0 hfr hn).mono ?_
   rintro e w' ⟨rfl, hD, hG⟩
   have e1 : rmD ⟨M, free, fuse⟩ s.data.toList = (⟨upd M s.data.toList [], free + ((M s.data.toList).length : Int), burnt fuse⟩, 0) := by unfold rmD; rw [if_neg h1, if_neg h2]
   rw [e1]
   exact ⟨rfl, F, hD, hG⟩
set_option maxHeartbeats 1000000 in
theorem rot_none (w : World) (d : Nat) (F : Nat → Prop) (N : Nat) (M : List UInt8 → List Ext) (free fuse : Int) (h : DiskOf w d F N M free fuse) (s : ByteArray) (hs : s.size ≤ maxLen) (i : Int) (n : Nat) (HN : Hid (n = (M s.data.toList).length)) (hi : i < 0 ∨ (n : Int) ≤ i) (u v : Value) :
  Calls Tryz.prog 58 #[.pointer (some ⟨d, 0, none⟩), .string s, .int .i64 i, u, v] w fun e w' => e = .returned (.int .i64 30) ∧ w' = w := by
 obtain ⟨bm, D, G, C, hI⟩ := h.is
 have hpn := fun (wx : World) (p : Option Addr) => run_eql_pointer_nil (P := Tryz.prog) wx 147 p (by kernel_rfl)
 go_enter Tryz.func58, Tryz.ntmps58
 go_wp2_with fail
 refine (isMade_any _ d F N M free fuse h).mono ?_
 rintro e w1 ⟨rfl, rfl⟩
 go_wp2_with fail
 refine (at_none _ d F N M free fuse bm D G C hI s hs i n HN hi).mono ?_
 rintro e w2 ⟨rfl, rfl⟩
 go_wp2
 go_ret
 exact ⟨rfl, rfl⟩
set_option maxHeartbeats 1000000 in
theorem rot_arg (w : World) (d : Nat) (F : Nat → Prop) (N : Nat) (M : List UInt8 → List Ext) (free fuse : Int) (h : DiskOf w d F N M free fuse) (s : ByteArray) (hs : s.size ≤ maxLen) (i n o : Nat) (HN : Hid (n = (M s.data.toList).length)) (hi : i < n) (ho : i * 385 = o) (at2 : Int) (ha : at2 < 0 ∨ 128 ≤ at2) (v : Value) :
  Calls Tryz.prog 58 #[.pointer (some ⟨d, 0, none⟩), .string s, .int .i64 (i : Int), .int .i64 at2, v] w fun e w' => e = .returned (.int .i64 1) ∧ w' = w := by
 obtain ⟨bm, D, G, C, hI⟩ := h.is
 have hpn := fun (wx : World) (p : Option Addr) => run_eql_pointer_nil (P := Tryz.prog) wx 147 p (by kernel_rfl)
 have HAT := hidn (at_some w d F N M free fuse bm D G C hI s hs i n o HN hi ho)
 generalize G s.data.toList = g at *
 clear ho hI
 go_enter Tryz.func58, Tryz.ntmps58
 go_wp2_with fail
 refine (isMade_any _ d F N M free fuse h).mono ?_
 rintro e w1 ⟨rfl, rfl⟩
 go_wp2_with fail
 refine HAT.out.mono ?_
 rintro e w2 ⟨rfl, rfl⟩
 by_cases ha0 : at2 < 0
 ·
  have h1 : decide (at2 < 0) = true := decide_eq_true ha0
  go_wp2
  go_ret
  exact ⟨rfl, rfl⟩
 ·
  have h1 : decide (at2 < 0) = false := decide_eq_false ha0
  have ha1 : 128 ≤ at2 := by omega
  have h2 : decide (128 ≤ at2) = true := decide_eq_true ha1
  go_wp2
  go_ret
  exact ⟨rfl, rfl⟩
theorem rot_st (w : World) (d : Nat) (F : Nat → Prop) (N : Nat) (st : St) (h : DiskS w d F N st) (s : ByteArray) (hsm : s.size ≤ maxLen) (i at2 : Int) (mk : Nat) (hm : mk < 256) :
  Calls Tryz.prog 58 #[.pointer (some ⟨d, 0, none⟩), .string s, .int .i64 i, .int .i64 at2, .int .u8 (mk : Int)] w (WrPost w d F N (rotD st s.data.toList i at2 mk)) := by
 by_cases h1 : i < 0
 ·
  refine (rot_none w d F N st.M st.free st.fuse h s hsm i _ (hidn rfl) (.inl h1) _ _).mono ?_
  rintro e w' ⟨rfl, rfl⟩
  have e1 : rotD st s.data.toList i at2 mk = (st, 30) := by unfold rotD; rw [if_pos h1]
  rw [e1]
  exact ⟨rfl, F, h, Gr.refl _ _⟩
 ·
  obtain ⟨j, rfl⟩ : ∃ j : Nat, i = (j : Int) := ⟨i.toNat, by omega⟩
  cases hx : (st.M s.data.toList)[j]? with
  | none =>
   refine (rot_none w d F N st.M st.free st.fuse h s hsm j _ (hidn rfl) (.inr (by have := List.getElem?_eq_none_iff.1 hx; omega)) _ _).mono ?_
   rintro e w' ⟨rfl, rfl⟩
   have e1 : rotD st s.data.toList (j : Int) at2 mk = (st, 30) := by unfold rotD; rw [if_neg h1, Int.toNat_natCast, hx]
   rw [e1]
   exact ⟨rfl, F, h, Gr.refl _ _⟩
  | some x =>
   have hlt := (lQ4.1 hx).1
   by_cases h2 : at2 < 0 ∨ 128 ≤ at2
   ·
    refine (rot_arg w d F N st.M st.free st.fuse h s hsm j _ (j * 385) (hidn rfl) hlt rfl at2 h2 _).mono ?_
    rintro e w' ⟨rfl, rfl⟩
    have e1 : rotD st s.data.toList (j : Int) at2 mk = (st, 1) := by unfold rotD; rw [if_neg h1, Int.toNat_natCast, hx]; simp only []; rw [if_pos h2]
    rw [e1]
    exact ⟨rfl, F, h, Gr.refl _ _⟩
   ·
    obtain ⟨k, rfl⟩ : ∃ k : Nat, at2 = (k : Int) := ⟨at2.toNat, by omega⟩
    refine (rot_some w d F N st.M st.free st.fuse h s hsm j _ (j * 385) (hidn rfl) hlt rfl k mk (by omega) hm x (hidn hx)).mono ?_
    rintro e w' ⟨rfl, hD, hG⟩
    have e1 : rotD st s.data.toList (j : Int) (k : Int) mk = (⟨upd st.M s.data.toList ((st.M s.data.toList).set j (x.rot k mk)), st.free, st.fuse⟩, 0) := by unfold rotD; rw [if_neg h1, Int.toNat_natCast, hx]; simp only []; rw [if_neg h2, Int.toNat_natCast]
    rw [e1]
    exact ⟨rfl, F, hD, hG⟩
set_option maxHeartbeats 1000000 in
theorem fuse_st (w : World) (d : Nat) (F : Nat → Prop) (N : Nat) (st : St) (h : DiskS w d F N st) (n : Int) :
  Calls Tryz.prog 62 #[.pointer (some ⟨d, 0, none⟩), .int .i64 n] w (WrPost w d F N (fuD st n)) := by
 obtain ⟨M, free, fuse⟩ := st
 have h' : DiskOf w d F N M free fuse := h
 clear h
 by_cases hn : n < 0
 ·
  have e1 : fuD ⟨M, free, fuse⟩ n = (⟨M, free, fuse⟩, 1) := by unfold fuD; rw [if_pos hn]
  rw [e1]
  have h1 : decide (n < 0) = true := decide_eq_true hn
  have H := hidn h'
  go_enter Tryz.func62, Tryz.ntmps62
  go_wp2_with fail
  refine (isMade_any _ d F N M free fuse h').mono ?_
  rintro e w1 ⟨rfl, rfl⟩
  go_wp2
  go_ret
  exact ⟨rfl, F, H.out, Gr.refl _ _⟩
 ·
  have e1 : fuD ⟨M, free, fuse⟩ n = (⟨M, free, n⟩, 0) := by unfold fuD; rw [if_neg hn]
  rw [e1]
  obtain ⟨bm, D, G, C, hI⟩ := h'.is
  obtain ⟨c0, c2, f2⟩ := diskFuse hI
  have hFd := hI.2.1.1
  have HR := hidn (hI.fused n).of
  have h1 : decide (n < 0) = false := decide_eq_false hn
  clear hI
  go_enter Tryz.func62, Tryz.ntmps62
  go_wp2_with fail
  refine (isMade_any _ d F N M free fuse h').mono ?_
  rintro e w1 ⟨rfl, rfl⟩
  go_wp2
  go_ret
  exact ⟨rfl, F, HR.out, Gr.of ((Keeps.refl _ _).setCell hFd _)⟩
theorem crash_st (w : World) (d : Nat) (F : Nat → Prop) (N : Nat) (st : St) (h : DiskS w d F N st) (hF : ∀ k, F k → k < w.heap.size) (la : Option Addr) (ll lc : Nat) (ks : List Kp) (hk : Kps w la ll ks) :
  Calls Tryz.prog 60 #[.pointer (some ⟨d, 0, none⟩), .slice la ll lc] w (WrPost w d F N (crD st ks)) := by
 refine (crash_disk w d F N st.M st.free st.fuse h hF la ll lc (kfOf ks) (firstKept_any w la ll lc ks hk)).mono ?_
 rintro e w' ⟨rfl, hD, hG⟩
 exact ⟨rfl, F, hD, hG⟩
end Go.Proofs.YtdppolelakbbiaaGreatDoor
