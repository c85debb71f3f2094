/- Stripes: a file's write of a new extent. -/
import Derived.Test.YtmoeoffjlicdjacDoorStrSmall
import Derived.Test.YtmoeoffjlicdjacDoorPairStore
namespace Go.Proofs.YtmoeoffjlicdjacDoor
open Go.RowKit Go.Maps
set_option linter.unusedVariables false

/-- A stripe in memory. -/
def StripeAt (w : World) (sb d : Nat) (f0 f1 f2 f3 : ByteArray) (g : Nat) : Prop := w.heap[sb]? = some (.cells #[.pointer (some ⟨d, 0, none⟩), .string f0, .string f1, .string f2, .string f3, .int .i64 (g : Int)] 83 (0, 0))
def nameF (f0 f1 f2 f3 : ByteArray) (f : Nat) : ByteArray := match f with | 0 => f0 | 1 => f1 | 2 => f2 | _ => f3
theorem StripeAt.name {w : World} {sb d : Nat} {f0 f1 f2 f3 : ByteArray} {g : Nat} (h : StripeAt w sb d f0 f1 f2 f3 g) (f : Nat) (hf : f < 4) : w.cell? ⟨sb, 1 + f, none⟩ = some (.string (nameF f0 f1 f2 f3 f)) := by
  rw [cell_of_row _ _ _ _ _ _ h]
  match f, hf with
  | 0, _ => rfl
  | 1, _ => rfl
  | 2, _ => rfl
  | 3, _ => rfl
theorem StripeAt.gen {w : World} {sb d : Nat} {f0 f1 f2 f3 : ByteArray} {g : Nat} (h : StripeAt w sb d f0 f1 f2 f3 g) : w.cell? ⟨sb, 5, none⟩ = some (.int .i64 (g : Int)) := by rw [cell_of_row _ _ _ _ _ _ h]; rfl
theorem StripeAt.disk {w : World} {sb d : Nat} {f0 f1 f2 f3 : ByteArray} {g : Nat} (h : StripeAt w sb d f0 f1 f2 f3 g) : w.cell? ⟨sb, 0, none⟩ = some (.pointer (some ⟨d, 0, none⟩)) := by rw [cell_of_row _ _ _ _ _ _ h]; rfl
theorem StripeAt.lt {w : World} {sb d : Nat} {f0 f1 f2 f3 : ByteArray} {g : Nat} (h : StripeAt w sb d f0 f1 f2 f3 g) : sb < w.heap.size := (Array.getElem?_eq_some_iff.1 h).1
theorem StripeAt.below {w w' : World} {sb d : Nat} {f0 f1 f2 f3 : ByteArray} {g : Nat} (h : StripeAt w sb d f0 f1 f2 f3 g) (hb : Below w.heap.size w w') : StripeAt w' sb d f0 f1 f2 f3 g := (hb.block _ h.lt).trans h
theorem StripeAt.gr {w w' : World} {F F' : Nat → Prop} {sb d : Nat} {f0 f1 f2 f3 : ByteArray} {g : Nat} (h : StripeAt w sb d f0 f1 f2 f3 g) (hg : Gr F F' w w') (hn : ¬ F sb) : StripeAt w' sb d f0 f1 f2 f3 g := (hg.1.block _ h.lt hn).trans h
theorem file_index (g f : Nat) (hf : f < 4) (wx : World) : (Instr.indexAt 80 (.pointer (some ⟨g, 1, none⟩)) (.int .i64 (f : Int))).run Tryd.prog wx = .ok (.pointer (some ⟨g, 1 + f, none⟩)) wx := by
  rw [run_indexAt_array (P := Tryd.prog) wx 80 ⟨g, 1, none⟩ .i64 (f : Int) (by kernel_rfl)]
  have h1 : Tryd.prog.arrayLen 80 = 4 := by kernel_rfl
  have h2 : (sizeOf (Tryd.prog.elem 80)).run Tryd.prog wx = .ok 1 wx := by kernel_rfl
  rw [h1, if_pos ⟨by omega, by omega⟩, h2]
  simp [Result.andThen, add_none]
theorem load_str {w : World} {p : Addr} {v : ByteArray} (h : w.cell? p = some (.string v)) : (Instr.loadAt 9 (.pointer (some p))).run Tryd.prog w = .ok (.string v) w := by go_simp
theorem load_int {w : World} {p : Addr} {v : Int} (h : w.cell? p = some (.int .i64 v)) : (Instr.loadAt 3 (.pointer (some p))).run Tryd.prog w = .ok (.int .i64 v) w := by go_simp
theorem load_ptr {w : World} {p : Addr} {v : Option Addr} (h : w.cell? p = some (.pointer v)) : (Instr.loadAt 23 (.pointer (some p))).run Tryd.prog w = .ok (.pointer v) w := by go_simp
theorem frame_call_run {o : Oper} {a : Act} {w : World} {x y z u : Nat} {vx vy vz vu : Value} (ho : o.op = Op.call { callee := Callee.value (Operand.func 31), args := #[.tmp x, .tmp y, .tmp z, .tmp u], argTypes := #[9, 3, 3, 22] }) (hx : a.eval (.tmp x) = vx) (hy : a.eval (.tmp y) = vy) (hz : a.eval (.tmp z) = vz) (hu : a.eval (.tmp u) = vu) : (execOp a.eval o).run Tryd.prog w = .ok (.enter 31 #[vx, vy, vz, vu]) w := by
  simp [go_sem, execOp, ho, resolve, invoke]
  exact ⟨by simpa [Act.eval] using hx, by simpa [Act.eval] using hy, by simpa [Act.eval] using hz, by simpa [Act.eval] using hu⟩
theorem write_call_run {o : Oper} {a : Act} {w : World} {x y z u : Nat} {vx vy vz vu : Value} (ho : o.op = Op.call { callee := Callee.value (Operand.func 56), args := #[.tmp x, .tmp y, .tmp z, .tmp u], argTypes := #[23, 9, 3, 22] }) (hx : a.eval (.tmp x) = vx) (hy : a.eval (.tmp y) = vy) (hz : a.eval (.tmp z) = vz) (hu : a.eval (.tmp u) = vu) : (execOp a.eval o).run Tryd.prog w = .ok (.enter 56 #[vx, vy, vz, vu]) w := by
  simp [go_sem, execOp, ho, resolve, invoke]
  exact ⟨by simpa [Act.eval] using hx, by simpa [Act.eval] using hy, by simpa [Act.eval] using hz, by simpa [Act.eval] using hu⟩
theorem sync_call_run {o : Oper} {a : Act} {w : World} {x y : Nat} {vx vy : Value} (ho : o.op = Op.call { callee := Callee.value (Operand.func 38), args := #[.tmp x, .tmp y], argTypes := #[23, 9] }) (hx : a.eval (.tmp x) = vx) (hy : a.eval (.tmp y) = vy) : (execOp a.eval o).run Tryd.prog w = .ok (.enter 38 #[vx, vy]) w := by
  simp [go_sem, execOp, ho, resolve, invoke]
  exact ⟨by simpa [Act.eval] using hx, by simpa [Act.eval] using hy⟩

set_option maxHeartbeats 2000000 in
theorem stripeWrite_new (w : World) (d g : Nat) (F : Nat → Prop) (N : Nat) (M : List UInt8 → List Ext) (free fuse : Int) (h : DiskOf w d F N M free fuse) (hS : Sound5 w F) (sb f : Nat) (f0 f1 f2 f3 fn : ByteArray) (hA : StripeAt w sb d f0 f1 f2 f3 g) (hsb : ¬ F sb) (hf : f < 4) (HFN : Hid (fn = nameF f0 f1 f2 f3 f)) (hs : nameB fn.data.toList = true) (n o : Nat) (HN : Hid (n = (M fn.data.toList).length)) (ho : n * 385 = o)
    (a : Option Addr) (len cap : Nat) (p fz : List Nat) (hB : Bs w a len p) (hl : len ≤ 106) (hg : g ≤ 4611686018427387904) (HF : Hid (fz = frameB (nums fn) n g p)) (h0 : fuse ≠ 0) (hf1 : -1 ≤ fuse) (hf2 : fuse ≤ 9223372036854775807) (hn : n ≤ 1000000) (hNm : N < maxLen) (hfr : 1 ≤ free) (hfr2 : free ≤ 1000000) :
    Calls Tryd.prog 49 #[.pointer (some ⟨sb, 0, none⟩), .int .i64 f, .int .i64 n, .slice a len cap] w fun e w' => e = .returned (.int .i64 0) ∧ ∃ F', DiskOf w' d F' (N + 1) (upd M fn.data.toList (M fn.data.toList ++ [zeroE.wrote fz])) (free - 1) (burnt fuse) ∧ Gr F F' w w' := by
  have hsm : fn.size ≤ maxLen := by have := (name_size hs).2; unfold maxLen; omega
  have HSN := hidn hs
  have HO := hidn ho
  have HIX := hidn (fun wx => file_index sb f hf wx)
  have HAT := hidn hA
  have HSS := hidn hS
  have hbd : Below w.heap.size w w.drew := (Below.refl _ _).drew
  have hA0 := hA.below hbd
  have hc1 := hA0.name f hf
  rw [← HFN.out] at hc1
  have hc2 := hA0.gen
  have hc0 := hA0.disk
  have HNAME : Hid (∀ wx : World, StripeAt wx sb d f0 f1 f2 f3 g → wx.cell? ⟨sb, 1 + f, none⟩ = some (.string fn)) := hidn (fun wx hx => by rw [HFN.out]; exact hx.name f hf)
  obtain ⟨w0, hw0⟩ : ∃ w0, w0 = w.drew := ⟨_, rfl⟩
  rw [← hw0] at hbd hA0 hc1 hc2 hc0
  have hB0 := hB.below hbd
  have hD0 := h.below hbd
  have hT0 := hS.tab.below hbd
  have HW0 := hidn hw0
  have HC := hidn (And.intro hc1 hc2)
  clear hw0 hc1 hc2 hc0 hs ho hA hS
  go_enter Tryd.func49, Tryd.ntmps49
  go_wp2_with fail
  refine wp_region_noPanic ?_
  refine wp_region_held_drew (S := fun w' => w'.cell? ⟨sb, 1 + f, none⟩ = some (.string fn) ∧ w'.cell? ⟨sb, 5, none⟩ = some (.int .i64 (g : Int))) (by kernel_rfl) (HW0.out ▸ HC.out) (fun hHeld => ?_)
  rw [← HW0.out]
  rw [← HW0.out] at hHeld
  refine drawn_take (i := 0) (v := .pointer (some ⟨sb, 0, none⟩)) (some 12) rfl rfl (by kernel_rfl) (by kernel_rfl) (by kernel_rfl) (fun _ _ _ h => h) (Or.inl ⟨by kernel_rfl, fun wq hw => by go_simp⟩) hHeld ?_
  refine drawn_take (i := 1) (v := .int .i64 (f : Int)) (some 13) rfl rfl (by kernel_rfl) (by kernel_rfl) (by kernel_rfl) (fun _ _ _ h => h) (Or.inl ⟨by kernel_rfl, fun wq hw => by go_simp⟩) hHeld ?_
  simp only [Act.put, List.setIfInBounds_toArray, List.set_cons_succ, List.set_cons_zero]
  refine drawn_take (i := 2) (v := .pointer (some ⟨sb, 0, none⟩)) (some 14) rfl rfl (by kernel_rfl) (by kernel_rfl) (by kernel_rfl) (fun _ _ _ h => h) (Or.inl ⟨by kernel_rfl, fun wq hw => by go_simp⟩) hHeld ?_
  simp only [Act.put, List.setIfInBounds_toArray, List.set_cons_succ, List.set_cons_zero]
  refine drawn_take (i := 3) (v := .pointer (some ⟨sb, 1, none⟩)) (some 15) rfl rfl (by kernel_rfl) (by kernel_rfl) (by kernel_rfl) (fun _ _ _ h => h) (Or.inl ⟨by kernel_rfl, fun wq hw => by go_simp⟩) hHeld ?_
  simp only [Act.put, List.setIfInBounds_toArray, List.set_cons_succ, List.set_cons_zero]
  refine drawn_take (i := 4) (v := .pointer (some ⟨sb, 1 + f, none⟩)) (some 16) rfl rfl (by kernel_rfl) (by kernel_rfl) (by kernel_rfl) (fun _ _ _ h => h) (Or.inl ⟨by kernel_rfl, fun wq hw => idx_run (x := .tmp 15) (y := .tmp 13) (vx := .pointer (some ⟨sb, 1, none⟩)) (vy := .int .i64 (f : Int)) (by kernel_rfl) (by kernel_rfl) (by kernel_rfl) (HIX.out wq)⟩) hHeld ?_
  simp only [Act.put, List.setIfInBounds_toArray, List.set_cons_succ, List.set_cons_zero]
  refine drawn_take (i := 5) (v := .string fn) (some 17) rfl rfl (by kernel_rfl) (by kernel_rfl) (by kernel_rfl) (fun _ _ _ h => h) (Or.inl ⟨by kernel_rfl, fun wq hw => load_run (x := .tmp 16) (vx := .pointer (some ⟨sb, 1 + f, none⟩)) (by kernel_rfl) (by kernel_rfl) (load_str hw.1)⟩) hHeld ?_
  refine drawn_take (i := 6) (v := .int .i64 (n : Int)) (some 18) rfl rfl (by kernel_rfl) (by kernel_rfl) (by kernel_rfl) (fun _ _ _ h => h) (Or.inl ⟨by kernel_rfl, fun wq hw => by go_simp⟩) hHeld ?_
  refine drawn_take (i := 7) (v := .pointer (some ⟨sb, 0, none⟩)) (some 19) rfl rfl (by kernel_rfl) (by kernel_rfl) (by kernel_rfl) (fun _ _ _ h => h) (Or.inl ⟨by kernel_rfl, fun wq hw => by go_simp⟩) hHeld ?_
  simp only [Act.put, List.setIfInBounds_toArray, List.set_cons_succ, List.set_cons_zero]
  refine drawn_take (i := 8) (v := .pointer (some ⟨sb, 0, none⟩)) (some 20) rfl rfl (by kernel_rfl) (by kernel_rfl) (by kernel_rfl) (fun _ _ _ h => h) (Or.inl ⟨by kernel_rfl, fun wq hw => by go_simp⟩) hHeld ?_
  simp only [Act.put, List.setIfInBounds_toArray, List.set_cons_succ, List.set_cons_zero]
  refine drawn_take (i := 9) (v := .pointer (some ⟨sb, 5, none⟩)) (some 21) rfl rfl (by kernel_rfl) (by kernel_rfl) (by kernel_rfl) (fun _ _ _ h => h) (Or.inl ⟨by kernel_rfl, fun wq hw => by go_simp⟩) hHeld ?_
  simp only [Act.put, List.setIfInBounds_toArray, List.set_cons_succ, List.set_cons_zero]
  refine drawn_take (i := 10) (v := .int .i64 (g : Int)) (some 22) rfl rfl (by kernel_rfl) (by kernel_rfl) (by kernel_rfl) (fun _ _ _ h => h) (Or.inl ⟨by kernel_rfl, fun wq hw => load_run (x := .tmp 21) (vx := .pointer (some ⟨sb, 5, none⟩)) (by kernel_rfl) (by kernel_rfl) (load_int hw.2)⟩) hHeld ?_
  refine drawn_take (i := 11) (v := .slice a len cap) (some 23) rfl rfl (by kernel_rfl) (by kernel_rfl) (by kernel_rfl) (fun _ _ _ h => h) (Or.inl ⟨by kernel_rfl, fun wq hw => by go_simp⟩) hHeld ?_
  simp only [Act.put, List.setIfInBounds_toArray, List.set_cons_succ, List.set_cons_zero]
  refine wpAnyH_ready (rs := [12]) (by kernel_rfl) (by simp) ?_
  refine rdy_call (i := 12) rfl rfl (some 24) rfl 31 #[.string fn, .int .i64 (n : Int), .int .i64 (g : Int), .slice a len cap] (frame_call_run (x := 17) (y := 18) (z := 22) (u := 23) (by kernel_rfl) (by kernel_rfl) (by kernel_rfl) (by kernel_rfl) (by kernel_rfl)) (fun v w' => ∃ b, v = .tuple #[.slice (some ⟨b, 0, none⟩) 128 128, .int .i64 0] ∧ w0.heap.size ≤ b ∧ Bs w' (some ⟨b, 0, none⟩) 128 fz ∧ Below w0.heap.size w0 w') ((frame_bs fn n g n g rfl rfl a len cap p _ hB0 hT0 hsm (by omega) hg hl fz HF).mono fun e w' h => by obtain ⟨b, h1, h2, _, h4, h5⟩ := h; exact ⟨_, h1, b, rfl, h2, h4, h5⟩) (fun v w5 hR => ?_) rdy_nil
  obtain ⟨b5, rfl, hb5, hB5, hbl5⟩ := hR
  have hA5 := hA0.below hbl5
  refine ⟨⟨HNAME.out _ hA5, hA5.gen⟩, fun hHeld => ?_⟩
  simp only [Act.put, List.setIfInBounds_toArray, List.set_cons_succ, List.set_cons_zero]
  refine drawn_take (i := 13) (v := .tuple #[.slice (some ⟨b5, 0, none⟩) 128 128, .int .i64 0]) (some 11) rfl rfl (by kernel_rfl) (by kernel_rfl) (by kernel_rfl) (fun _ _ _ h => h) (Or.inl ⟨by kernel_rfl, fun wq hw => by go_simp⟩) hHeld ?_
  simp only [Act.put, List.setIfInBounds_toArray, List.set_cons_succ, List.set_cons_zero]
  refine drawn_take (i := 14) (v := .slice (some ⟨b5, 0, none⟩) 128 128) (some 25) rfl rfl (by kernel_rfl) (by kernel_rfl) (by kernel_rfl) (fun _ _ _ h => h) (Or.inl ⟨by kernel_rfl, fun wq hw => by go_simp⟩) hHeld ?_
  refine drawn_take (i := 15) (v := .int .i64 0) (some 26) rfl rfl (by kernel_rfl) (by kernel_rfl) (by kernel_rfl) (fun _ _ _ h => h) (Or.inl ⟨by kernel_rfl, fun wq hw => by go_simp⟩) hHeld ?_
  simp only [Act.put, List.setIfInBounds_toArray, List.set_cons_succ, List.set_cons_zero]
  refine drawn_take (i := 16) (v := .slice (some ⟨b5, 0, none⟩) 128 128) (some 9) rfl rfl (by kernel_rfl) (by kernel_rfl) (by kernel_rfl) (fun _ _ _ h => h) (Or.inl ⟨by kernel_rfl, fun wq hw => by go_simp⟩) hHeld ?_
  refine drawn_take (i := 17) (v := .int .i64 0) (some 10) rfl rfl (by kernel_rfl) (by kernel_rfl) (by kernel_rfl) (fun _ _ _ h => h) (Or.inl ⟨by kernel_rfl, fun wq hw => by go_simp⟩) hHeld ?_
  simp only [Act.put, List.setIfInBounds_toArray, List.set_cons_succ, List.set_cons_zero]
  refine wpAnyH_done (by kernel_rfl) ?_ _
  refine NoPanic.normal ?_
  have hbw5 : Below w.heap.size w w5 := hbd.trans (hbl5.mono hbd.size)
  have hD5 := h.below hbw5
  have hBF5 : BsF F w5 (some ⟨b5, 0, none⟩) 128 fz := BsF.fresh hB5 (Nat.le_trans hbd.size hb5) HSS.out.lt
  have HD5 := hidn hD5
  have HBF5 := hidn hBF5
  have HA5 := hidn hA5
  have HBW5 := hidn hbw5
  clear hHeld hB5 hbl5 hb5 hA5 hbw5 hD5 hBF5 hB0 hD0 hT0 hA0 hbd HC HW0
  go_wp2_with fail
  have hbd : Below w5.heap.size w5 w5.drew := (Below.refl _ _).drew
  have hA6 := HA5.out.below hbd
  have hD6 := HD5.out.below hbd
  have hBF6 := HBF5.out.below hbd
  obtain ⟨w6, hw6⟩ : ∃ w6, w6 = w5.drew := ⟨_, rfl⟩
  rw [← hw6] at hbd hA6 hD6 hBF6
  have HW6 := hidn hw6
  have HC6 := hidn (And.intro (HNAME.out _ hA6) hA6.disk)
  clear hw6
  refine wp_region_noPanic ?_
  refine wp_region_held_drew (S := fun w' => w'.cell? ⟨sb, 1 + f, none⟩ = some (.string fn) ∧ w'.cell? ⟨sb, 0, none⟩ = some (.pointer (some ⟨d, 0, none⟩))) (by kernel_rfl) (HW6.out ▸ HC6.out) (fun hHeld => ?_)
  rw [← HW6.out]
  rw [← HW6.out] at hHeld
  refine drawn_take (i := 0) (v := .pointer (some ⟨sb, 0, none⟩)) (some 27) rfl rfl (by kernel_rfl) (by kernel_rfl) (by kernel_rfl) (fun _ _ _ h => h) (Or.inl ⟨by kernel_rfl, fun wq hw => by go_simp⟩) hHeld ?_
  simp only [Act.put, List.setIfInBounds_toArray, List.set_cons_succ, List.set_cons_zero]
  refine drawn_take (i := 1) (v := .pointer (some ⟨sb, 0, none⟩)) (some 28) rfl rfl (by kernel_rfl) (by kernel_rfl) (by kernel_rfl) (fun _ _ _ h => h) (Or.inl ⟨by kernel_rfl, fun wq hw => by go_simp⟩) hHeld ?_
  simp only [Act.put, List.setIfInBounds_toArray, List.set_cons_succ, List.set_cons_zero]
  refine drawn_take (i := 2) (v := .pointer (some ⟨sb, 0, none⟩)) (some 29) rfl rfl (by kernel_rfl) (by kernel_rfl) (by kernel_rfl) (fun _ _ _ h => h) (Or.inl ⟨by kernel_rfl, fun wq hw => by go_simp⟩) hHeld ?_
  simp only [Act.put, List.setIfInBounds_toArray, List.set_cons_succ, List.set_cons_zero]
  refine drawn_take (i := 3) (v := .pointer (some ⟨d, 0, none⟩)) (some 30) rfl rfl (by kernel_rfl) (by kernel_rfl) (by kernel_rfl) (fun _ _ _ h => h) (Or.inl ⟨by kernel_rfl, fun wq hw => load_run (x := .tmp 29) (vx := .pointer (some ⟨sb, 0, none⟩)) (by kernel_rfl) (by kernel_rfl) (load_ptr hw.2)⟩) hHeld ?_
  refine drawn_take (i := 4) (v := .pointer (some ⟨sb, 0, none⟩)) (some 31) rfl rfl (by kernel_rfl) (by kernel_rfl) (by kernel_rfl) (fun _ _ _ h => h) (Or.inl ⟨by kernel_rfl, fun wq hw => by go_simp⟩) hHeld ?_
  refine drawn_take (i := 5) (v := .int .i64 (f : Int)) (some 32) rfl rfl (by kernel_rfl) (by kernel_rfl) (by kernel_rfl) (fun _ _ _ h => h) (Or.inl ⟨by kernel_rfl, fun wq hw => by go_simp⟩) hHeld ?_
  simp only [Act.put, List.setIfInBounds_toArray, List.set_cons_succ, List.set_cons_zero]
  refine drawn_take (i := 6) (v := .pointer (some ⟨sb, 0, none⟩)) (some 33) rfl rfl (by kernel_rfl) (by kernel_rfl) (by kernel_rfl) (fun _ _ _ h => h) (Or.inl ⟨by kernel_rfl, fun wq hw => by go_simp⟩) hHeld ?_
  simp only [Act.put, List.setIfInBounds_toArray, List.set_cons_succ, List.set_cons_zero]
  refine drawn_take (i := 7) (v := .pointer (some ⟨sb, 1, none⟩)) (some 34) rfl rfl (by kernel_rfl) (by kernel_rfl) (by kernel_rfl) (fun _ _ _ h => h) (Or.inl ⟨by kernel_rfl, fun wq hw => by go_simp⟩) hHeld ?_
  simp only [Act.put, List.setIfInBounds_toArray, List.set_cons_succ, List.set_cons_zero]
  refine drawn_take (i := 8) (v := .pointer (some ⟨sb, 1 + f, none⟩)) (some 35) rfl rfl (by kernel_rfl) (by kernel_rfl) (by kernel_rfl) (fun _ _ _ h => h) (Or.inl ⟨by kernel_rfl, fun wq hw => idx_run (x := .tmp 34) (y := .tmp 32) (vx := .pointer (some ⟨sb, 1, none⟩)) (vy := .int .i64 (f : Int)) (by kernel_rfl) (by kernel_rfl) (by kernel_rfl) (HIX.out wq)⟩) hHeld ?_
  simp only [Act.put, List.setIfInBounds_toArray, List.set_cons_succ, List.set_cons_zero]
  refine drawn_take (i := 9) (v := .string fn) (some 36) rfl rfl (by kernel_rfl) (by kernel_rfl) (by kernel_rfl) (fun _ _ _ h => h) (Or.inl ⟨by kernel_rfl, fun wq hw => load_run (x := .tmp 35) (vx := .pointer (some ⟨sb, 1 + f, none⟩)) (by kernel_rfl) (by kernel_rfl) (load_str hw.1)⟩) hHeld ?_
  refine drawn_take (i := 10) (v := .int .i64 (n : Int)) (some 37) rfl rfl (by kernel_rfl) (by kernel_rfl) (by kernel_rfl) (fun _ _ _ h => h) (Or.inl ⟨by kernel_rfl, fun wq hw => by go_simp⟩) hHeld ?_
  refine drawn_take (i := 11) (v := .slice (some ⟨b5, 0, none⟩) 128 128) (some 38) rfl rfl (by kernel_rfl) (by kernel_rfl) (by kernel_rfl) (fun _ _ _ h => h) (Or.inl ⟨by kernel_rfl, fun wq hw => by go_simp⟩) hHeld ?_
  simp only [Act.put, List.setIfInBounds_toArray, List.set_cons_succ, List.set_cons_zero]
  refine wpAnyH_ready (rs := [12]) (by kernel_rfl) (by simp) ?_
  refine rdy_call (i := 12) rfl rfl (some 39) rfl 56 #[.pointer (some ⟨d, 0, none⟩), .string fn, .int .i64 (n : Int), .slice (some ⟨b5, 0, none⟩) 128 128] (write_call_run (x := 30) (y := 36) (z := 37) (u := 38) (by kernel_rfl) (by kernel_rfl) (by kernel_rfl) (by kernel_rfl) (by kernel_rfl)) (fun v w' => v = .int .i64 0 ∧ ∃ F', DiskOf w' d F' (N + 1) (upd M fn.data.toList (M fn.data.toList ++ [zeroE.wrote fz])) (free - 1) (burnt fuse) ∧ Gr F F' w6 w') ((write_new _ d F N M free fuse hD6 fn HSN.out n o HN HO.out b5 0 128 fz hBF6 h0 hf1 hf2 hn hNm hfr hfr2).mono fun e w' h => ⟨_, h.1, rfl, h.2⟩) (fun v w7 hR => ?_) rdy_nil
  obtain ⟨rfl, F7, hD7, hG7⟩ := hR
  have hA7 := hA6.gr hG7 hsb
  refine ⟨⟨HNAME.out _ hA7, hA7.disk⟩, fun hHeld => ?_⟩
  simp only [Act.put, List.setIfInBounds_toArray, List.set_cons_succ, List.set_cons_zero]
  refine drawn_take (i := 13) (v := .int .i64 0) (some 8) rfl rfl (by kernel_rfl) (by kernel_rfl) (by kernel_rfl) (fun _ _ _ h => h) (Or.inl ⟨by kernel_rfl, fun wq hw => by go_simp⟩) hHeld ?_
  simp only [Act.put, List.setIfInBounds_toArray, List.set_cons_succ, List.set_cons_zero]
  refine wpAnyH_done (by kernel_rfl) ?_ _
  refine NoPanic.normal ?_
  have HD7 := hidn hD7
  have HG7 := hidn ((Gr.of (Keeps.of_below (F := F) HBW5.out)).trans ((Gr.of (Keeps.of_below (F := F) hbd)).trans hG7))
  clear hHeld hA7 hD7 hG7 hA6 hD6 hBF6
  go_wp2
  go_ret
  exact ⟨rfl, F7, HD7.out, HG7.out⟩
end Go.Proofs.YtmoeoffjlicdjacDoor
