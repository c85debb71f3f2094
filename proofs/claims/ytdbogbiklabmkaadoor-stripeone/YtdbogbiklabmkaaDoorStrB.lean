import Derived.Test.YtdbogbiklabmkaaDoorStrA
import Derived.Test.YtdbogbiklabmkaaDoorPairStore
import Derived.Test.YtdbogbiklabmkaaDoorDiskRot
/- Stripes: a file's write of a new extent. -/
namespace Go.Proofs.YtdbogbiklabmkaaDoor
open Go.RowKit Go.Maps
set_option linter.unusedVariables false

/-- A stripe in memory. -/
def StripeAt (w : World) (sb d : Nat) (f0 f1 f2 f3 : ByteArray) (g : Nat) : Prop := w.heap[sb]? = some (.cells #[.pointer (some ⟨d, 0, none⟩), .string f0, .string f1, .string f2, .string f3, .int .i64 (g : Int)] 51 (0, 0))
def nameF (f0 f1 f2 f3 : ByteArray) (f : Nat) : ByteArray := match f with | 0 => f0 | 1 => f1 | 2 => f2 | _ => f3
theorem StripeAt.name {w : World} {sb d : Nat} {f0 f1 f2 f3 : ByteArray} {g : Nat} (h : StripeAt w sb d f0 f1 f2 f3 g) (f : Nat) (hf : f < 4) : w.cell? ⟨sb, 1 + f, none⟩ = some (.string (nameF f0 f1 f2 f3 f)) := by
  rw [cell_of_row _ _ _ _ _ _ h]
  match f, hf with
  | 0, _ => rfl
  | 1, _ => rfl
  | 2, _ => rfl
  | 3, _ => rfl
theorem StripeAt.gen {w : World} {sb d : Nat} {f0 f1 f2 f3 : ByteArray} {g : Nat} (h : StripeAt w sb d f0 f1 f2 f3 g) : w.cell? ⟨sb, 5, none⟩ = some (.int .i64 (g : Int)) := by rw [cell_of_row _ _ _ _ _ _ h]; rfl
theorem StripeAt.disk {w : World} {sb d : Nat} {f0 f1 f2 f3 : ByteArray} {g : Nat} (h : StripeAt w sb d f0 f1 f2 f3 g) : w.cell? ⟨sb, 0, none⟩ = some (.pointer (some ⟨d, 0, none⟩)) := by rw [cell_of_row _ _ _ _ _ _ h]; rfl
theorem StripeAt.lt {w : World} {sb d : Nat} {f0 f1 f2 f3 : ByteArray} {g : Nat} (h : StripeAt w sb d f0 f1 f2 f3 g) : sb < w.heap.size := (Array.getElem?_eq_some_iff.1 h).1
theorem StripeAt.below {w w' : World} {sb d : Nat} {f0 f1 f2 f3 : ByteArray} {g : Nat} (h : StripeAt w sb d f0 f1 f2 f3 g) (hb : Below w.heap.size w w') : StripeAt w' sb d f0 f1 f2 f3 g := (hb.block _ h.lt).trans h
theorem StripeAt.gr {w w' : World} {F F' : Nat → Prop} {sb d : Nat} {f0 f1 f2 f3 : ByteArray} {g : Nat} (h : StripeAt w sb d f0 f1 f2 f3 g) (hg : Gr F F' w w') (hn : ¬ F sb) : StripeAt w' sb d f0 f1 f2 f3 g := (hg.1.block _ h.lt hn).trans h
theorem file_index (g f : Nat) (hf : f < 4) (wx : World) : (Instr.indexAt 48 (.pointer (some ⟨g, 1, none⟩)) (.int .i64 (f : Int))).run Tryd.prog wx = .ok (.pointer (some ⟨g, 1 + f, none⟩)) wx := by
  rw [run_indexAt_array (P := Tryd.prog) wx 48 ⟨g, 1, none⟩ .i64 (f : Int) (by kernel_rfl)]
  have h1 : Tryd.prog.arrayLen 48 = 4 := by kernel_rfl
  have h2 : (sizeOf (Tryd.prog.elem 48)).run Tryd.prog wx = .ok 1 wx := by kernel_rfl
  rw [h1, if_pos ⟨by omega, by omega⟩, h2]
  simp [Result.andThen, add_none]
theorem load_str {w : World} {p : Addr} {v : ByteArray} (h : w.cell? p = some (.string v)) : (Instr.loadAt 9 (.pointer (some p))).run Tryd.prog w = .ok (.string v) w := by go_simp
theorem load_int {w : World} {p : Addr} {v : Int} (h : w.cell? p = some (.int .i64 v)) : (Instr.loadAt 3 (.pointer (some p))).run Tryd.prog w = .ok (.int .i64 v) w := by go_simp
theorem load_ptr {w : World} {p : Addr} {v : Option Addr} (h : w.cell? p = some (.pointer v)) : (Instr.loadAt 24 (.pointer (some p))).run Tryd.prog w = .ok (.pointer v) w := by go_simp
theorem frame_call_run {o : Oper} {a : Act} {w : World} {x y z u : Nat} {vx vy vz vu : Value} (ho : o.op = Op.call { callee := Callee.value (Operand.func 34), args := #[.tmp x, .tmp y, .tmp z, .tmp u], argTypes := #[9, 3, 3, 22] }) (hx : a.eval (.tmp x) = vx) (hy : a.eval (.tmp y) = vy) (hz : a.eval (.tmp z) = vz) (hu : a.eval (.tmp u) = vu) : (execOp a.eval o).run Tryd.prog w = .ok (.enter 34 #[vx, vy, vz, vu]) w := by
  simp [go_sem, execOp, ho, resolve, invoke]
  exact ⟨by simpa [Act.eval] using hx, by simpa [Act.eval] using hy, by simpa [Act.eval] using hz, by simpa [Act.eval] using hu⟩
theorem write_call_run {o : Oper} {a : Act} {w : World} {x y z u : Nat} {vx vy vz vu : Value} (ho : o.op = Op.call { callee := Callee.value (Operand.func 35), args := #[.tmp x, .tmp y, .tmp z, .tmp u], argTypes := #[24, 9, 3, 22] }) (hx : a.eval (.tmp x) = vx) (hy : a.eval (.tmp y) = vy) (hz : a.eval (.tmp z) = vz) (hu : a.eval (.tmp u) = vu) : (execOp a.eval o).run Tryd.prog w = .ok (.enter 35 #[vx, vy, vz, vu]) w := by
  simp [go_sem, execOp, ho, resolve, invoke]
  exact ⟨by simpa [Act.eval] using hx, by simpa [Act.eval] using hy, by simpa [Act.eval] using hz, by simpa [Act.eval] using hu⟩
theorem sync_call_run {o : Oper} {a : Act} {w : World} {x y : Nat} {vx vy : Value} (ho : o.op = Op.call { callee := Callee.value (Operand.func 25), args := #[.tmp x, .tmp y], argTypes := #[24, 9] }) (hx : a.eval (.tmp x) = vx) (hy : a.eval (.tmp y) = vy) : (execOp a.eval o).run Tryd.prog w = .ok (.enter 25 #[vx, vy]) w := by
  simp [go_sem, execOp, ho, resolve, invoke]
  exact ⟨by simpa [Act.eval] using hx, by simpa [Act.eval] using hy⟩

set_option maxHeartbeats 2000000 in
theorem stripeWrite_new (w : World) (d g : Nat) (F : Nat → Prop) (N : Nat) (M : List UInt8 → List Ext) (free fuse : Int) (h : DiskOf w d F N M free fuse) (hS : Sound5 w F) (sb f : Nat) (f0 f1 f2 f3 fn : ByteArray) (hA : StripeAt w sb d f0 f1 f2 f3 g) (hsb : ¬ F sb) (hf : f < 4) (HFN : Hid (fn = nameF f0 f1 f2 f3 f)) (hs : nameB fn.data.toList = true) (n o : Nat) (HN : Hid (n = (M fn.data.toList).length)) (ho : n * 385 = o)
    (a : Option Addr) (len cap : Nat) (p fz : List Nat) (hB : Bs w a len p) (hl : len ≤ 106) (hg : g ≤ 4611686018427387904) (HF : Hid (fz = frameB (nums fn) n g p)) (h0 : fuse ≠ 0) (hf1 : -1 ≤ fuse) (hf2 : fuse ≤ 9223372036854775807) (hn : n ≤ 1000000) (hNm : N < maxLen) (hfr : 1 ≤ free) (hfr2 : free ≤ 1000000) :
    Calls Tryd.prog 24 #[.pointer (some ⟨sb, 0, none⟩), .int .i64 f, .int .i64 n, .slice a len cap] w fun e w' => e = .returned (.int .i64 0) ∧ ∃ F', DiskOf w' d F' (N + 1) (upd M fn.data.toList (M fn.data.toList ++ [zeroE.wrote fz])) (free - 1) (burnt fuse) ∧ Gr F F' w w' := by
  have hsm : fn.size ≤ maxLen := by have := (name_size hs).2; unfold maxLen; omega
  have HSN := hidn hs
  have HO := hidn ho
  have HIX := hidn (fun wx => file_index sb f hf wx)
  have HAT := hidn hA
  have HSS := hidn hS
  have hbd : Below w.heap.size w w.drew := (Below.refl _ _).drew
  have hA0 := hA.below hbd
  have hc1 := hA0.name f hf
  rw [← HFN.out] at hc1
  have hc2 := hA0.gen
  have hc0 := hA0.disk
  have HNAME : Hid (∀ wx : World, StripeAt wx sb d f0 f1 f2 f3 g → wx.cell? ⟨sb, 1 + f, none⟩ = some (.string fn)) := hidn (fun wx hx => by rw [HFN.out]; exact hx.name f hf)
  obtain ⟨w0, hw0⟩ : ∃ w0, w0 = w.drew := ⟨_, rfl⟩
  rw [← hw0] at hbd hA0 hc1 hc2 hc0
  have hB0 := hB.below hbd
  have hD0 := h.below hbd
  have hT0 := hS.tab.below hbd
  have HW0 := hidn hw0
  have HC := hidn (And.intro hc1 hc2)
  clear hw0 hc1 hc2 hc0 hs ho hA hS
  go_enter Tryd.func24, Tryd.ntmps24
  go_wp2_with fail
  refine wp_region_noPanic ?_
  refine wp_region_held_drew (S := fun w' => w'.cell? ⟨sb, 1 + f, none⟩ = some (.string fn) ∧ w'.cell? ⟨sb, 5, none⟩ = some (.int .i64 (g : Int))) (by kernel_rfl) (HW0.out ▸ HC.out) (fun hHeld => ?_)
  rw [← HW0.out]
  rw [← HW0.out] at hHeld
  refine drawn_take (i := 0) (v := .pointer (some ⟨sb, 0, none⟩)) (some 12) rfl rfl (by kernel_rfl) (by kernel_rfl) (by kernel_rfl) (fun _ _ _ h => h) (Or.inl ⟨by kernel_rfl, fun wq hw => by go_simp⟩) hHeld ?_
  refine drawn_take (i := 1) (v := .int .i64 (f : Int)) (some 13) rfl rfl (by kernel_rfl) (by kernel_rfl) (by kernel_rfl) (fun _ _ _ h => h) (Or.inl ⟨by kernel_rfl, fun wq hw => by go_simp⟩) hHeld ?_
  simp only [Act.put, List.setIfInBounds_toArray, List.set_cons_succ, List.set_cons_zero]
  refine drawn_take (i := 2) (v := .pointer (some ⟨sb, 0, none⟩)) (some 14) rfl rfl (by kernel_rfl) (by kernel_rfl) (by kernel_rfl) (fun _ _ _ h => h) (Or.inl ⟨by kernel_rfl, fun wq hw => by go_simp⟩) hHeld ?_
  simp only [Act.put, List.setIfInBounds_toArray, List.set_cons_succ, List.set_cons_zero]
  refine drawn_take (i := 3) (v := .pointer (some ⟨sb, 1, none⟩)) (some 15) rfl rfl (by kernel_rfl) (by kernel_rfl) (by kernel_rfl) (fun _ _ _ h => h) (Or.inl ⟨by kernel_rfl, fun wq hw => by go_simp⟩) hHeld ?_
  simp only [Act.put, List.setIfInBounds_toArray, List.set_cons_succ, List.set_cons_zero]
  refine drawn_take (i := 4) (v := .pointer (some ⟨sb, 1 + f, none⟩)) (some 16) rfl rfl (by kernel_rfl) (by kernel_rfl) (by kernel_rfl) (fun _ _ _ h => h) (Or.inl ⟨by kernel_rfl, fun wq hw => idx_run (x := .tmp 15) (y := .tmp 13) (vx := .pointer (some ⟨sb, 1, none⟩)) (vy := .int .i64 (f : Int)) (by kernel_rfl) (by kernel_rfl) (by kernel_rfl) (HIX.out wq)⟩) hHeld ?_
  simp only [Act.put, List.setIfInBounds_toArray, List.set_cons_succ, List.set_cons_zero]
  refine drawn_take (i := 5) (v := .string fn) (some 17) rfl rfl (by kernel_rfl) (by kernel_rfl) (by kernel_rfl) (fun _ _ _ h => h) (Or.inl ⟨by kernel_rfl, fun wq hw => load_run (x := .tmp 16) (vx := .pointer (some ⟨sb, 1 + f, none⟩)) (by kernel_rfl) (by kernel_rfl) (load_str hw.1)⟩) hHeld ?_
  refine drawn_take (i := 6) (v := .int .i64 (n : Int)) (some 18) rfl rfl (by kernel_rfl) (by kernel_rfl) (by kernel_rfl) (fun _ _ _ h => h) (Or.inl ⟨by kernel_rfl, fun wq hw => by go_simp⟩) hHeld ?_
  refine drawn_take (i := 7) (v := .pointer (some ⟨sb, 0, none⟩)) (some 19) rfl rfl (by kernel_rfl) (by kernel_rfl) (by kernel_rfl) (fun _ _ _ h => h) (Or.inl ⟨by kernel_rfl, fun wq hw => by go_simp⟩) hHeld ?_
  simp only [Act.put, List.setIfInBounds_toArray, List.set_cons_succ, List.set_cons_zero]
  refine drawn_take (i := 8) (v := .pointer (some ⟨sb, 0, none⟩)) (some 20) rfl rfl (by kernel_rfl) (by kernel_rfl) (by kernel_rfl) (fun _ _ _ h => h) (Or.inl ⟨by kernel_rfl, fun wq hw => by go_simp⟩) hHeld ?_
  simp only [Act.put, List.setIfInBounds_toArray, List.set_cons_succ, List.set_cons_zero]
  refine drawn_take (i := 9) (v := .pointer (some ⟨sb, 5, none⟩)) (some 21) rfl rfl (by kernel_rfl) (by kernel_rfl) (by kernel_rfl) (fun _ _ _ h => h) (Or.inl ⟨by kernel_rfl, fun wq hw => by go_simp⟩) hHeld ?_
  simp only [Act.put, List.setIfInBounds_toArray, List.set_cons_succ, List.set_cons_zero]
  refine drawn_take (i := 10) (v := .int .i64 (g : Int)) (some 22) rfl rfl (by kernel_rfl) (by kernel_rfl) (by kernel_rfl) (fun _ _ _ h => h) (Or.inl ⟨by kernel_rfl, fun wq hw => load_run (x := .tmp 21) (vx := .pointer (some ⟨sb, 5, none⟩)) (by kernel_rfl) (by kernel_rfl) (load_int hw.2)⟩) hHeld ?_
  refine drawn_take (i := 11) (v := .slice a len cap) (some 23) rfl rfl (by kernel_rfl) (by kernel_rfl) (by kernel_rfl) (fun _ _ _ h => h) (Or.inl ⟨by kernel_rfl, fun wq hw => by go_simp⟩) hHeld ?_
  simp only [Act.put, List.setIfInBounds_toArray, List.set_cons_succ, List.set_cons_zero]
  refine wpAnyH_ready (rs := [12]) (by kernel_rfl) (by simp) ?_
  refine rdy_call (i := 12) rfl rfl (some 24) rfl 34 #[.string fn, .int .i64 (n : Int), .int .i64 (g : Int), .slice a len cap] (frame_call_run (x := 17) (y := 18) (z := 22) (u := 23) (by kernel_rfl) (by kernel_rfl) (by kernel_rfl) (by kernel_rfl) (by kernel_rfl)) (fun v w' => ∃ b, v = .tuple #[.slice (some ⟨b, 0, none⟩) 128 128, .int .i64 0] ∧ w0.heap.size ≤ b ∧ Bs w' (some ⟨b, 0, none⟩) 128 fz ∧ Below w0.heap.size w0 w') ((frame_bs fn n g n g rfl rfl a len cap p _ hB0 hT0 hsm (by omega) hg hl fz HF).mono fun e w' h => by obtain ⟨b, h1, h2, _, h4, h5⟩ := h; exact ⟨_, h1, b, rfl, h2, h4, h5⟩) (fun v w5 hR => ?_) rdy_nil
  obtain ⟨b5, rfl, hb5, hB5, hbl5⟩ := hR
  have hA5 := hA0.below hbl5
  refine ⟨⟨HNAME.out _ hA5, hA5.gen⟩, fun hHeld => ?_⟩
  simp only [Act.put, List.setIfInBounds_toArray, List.set_cons_succ, List.set_cons_zero]
  refine drawn_take (i := 13) (v := .tuple #[.slice (some ⟨b5, 0, none⟩) 128 128, .int .i64 0]) (some 11) rfl rfl (by kernel_rfl) (by kernel_rfl) (by kernel_rfl) (fun _ _ _ h => h) (Or.inl ⟨by kernel_rfl, fun wq hw => by go_simp⟩) hHeld ?_
  simp only [Act.put, List.setIfInBounds_toArray, List.set_cons_succ, List.set_cons_zero]
  refine drawn_take (i := 14) (v := .slice (some ⟨b5, 0, none⟩) 128 128) (some 25) rfl rfl (by kernel_rfl) (by kernel_rfl) (by kernel_rfl) (fun _ _ _ h => h) (Or.inl ⟨by kernel_rfl, fun wq hw => by go_simp⟩) hHeld ?_
  refine drawn_take (i := 15) (v := .int .i64 0) (some 26) rfl rfl (by kernel_rfl) (by kernel_rfl) (by kernel_rfl) (fun _ _ _ h => h) (Or.inl ⟨by kernel_rfl, fun wq hw => by go_simp⟩) hHeld ?_
  simp only [Act.put, List.setIfInBounds_toArray, List.set_cons_succ, List.set_cons_zero]
  refine drawn_take (i := 16) (v := .slice (some ⟨b5, 0, none⟩) 128 128) (some 9) rfl rfl (by kernel_rfl) (by kernel_rfl) (by kernel_rfl) (fun _ _ _ h => h) (Or.inl ⟨by kernel_rfl, fun wq hw => by go_simp⟩) hHeld ?_
  refine drawn_take (i := 17) (v := .int .i64 0) (some 10) rfl rfl (by kernel_rfl) (by kernel_rfl) (by kernel_rfl) (fun _ _ _ h => h) (Or.inl ⟨by kernel_rfl, fun wq hw => by go_simp⟩) hHeld ?_
  simp only [Act.put, List.setIfInBounds_toArray, List.set_cons_succ, List.set_cons_zero]
  refine wpAnyH_done (by kernel_rfl) ?_ _
  refine NoPanic.normal ?_
  have hbw5 : Below w.heap.size w w5 := hbd.trans (hbl5.mono hbd.size)
  have hD5 := h.below hbw5
  have hBF5 : BsF F w5 (some ⟨b5, 0, none⟩) 128 fz := BsF.fresh hB5 (Nat.le_trans hbd.size hb5) HSS.out.lt
  have HD5 := hidn hD5
  have HBF5 := hidn hBF5
  have HA5 := hidn hA5
  have HBW5 := hidn hbw5
  clear hHeld hB5 hbl5 hb5 hA5 hbw5 hD5 hBF5 hB0 hD0 hT0 hA0 hbd HC HW0
  go_wp2_with fail
  have hbd : Below w5.heap.size w5 w5.drew := (Below.refl _ _).drew
  have hA6 := HA5.out.below hbd
  have hD6 := HD5.out.below hbd
  have hBF6 := HBF5.out.below hbd
  obtain ⟨w6, hw6⟩ : ∃ w6, w6 = w5.drew := ⟨_, rfl⟩
  rw [← hw6] at hbd hA6 hD6 hBF6
  have HW6 := hidn hw6
  have HC6 := hidn (And.intro (HNAME.out _ hA6) hA6.disk)
  clear hw6
  refine wp_region_noPanic ?_
  refine wp_region_held_drew (S := fun w' => w'.cell? ⟨sb, 1 + f, none⟩ = some (.string fn) ∧ w'.cell? ⟨sb, 0, none⟩ = some (.pointer (some ⟨d, 0, none⟩))) (by kernel_rfl) (HW6.out ▸ HC6.out) (fun hHeld => ?_)
  rw [← HW6.out]
  rw [← HW6.out] at hHeld
  refine drawn_take (i := 0) (v := .pointer (some ⟨sb, 0, none⟩)) (some 27) rfl rfl (by kernel_rfl) (by kernel_rfl) (by kernel_rfl) (fun _ _ _ h => h) (Or.inl ⟨by kernel_rfl, fun wq hw => by go_simp⟩) hHeld ?_
  simp only [Act.put, List.setIfInBounds_toArray, List.set_cons_succ, List.set_cons_zero]
  refine drawn_take (i := 1) (v := .pointer (some ⟨sb, 0, none⟩)) (some 28) rfl rfl (by kernel_rfl) (by kernel_rfl) (by kernel_rfl) (fun _ _ _ h => h) (Or.inl ⟨by kernel_rfl, fun wq hw => by go_simp⟩) hHeld ?_
  simp only [Act.put, List.setIfInBounds_toArray, List.set_cons_succ, List.set_cons_zero]
  refine drawn_take (i := 2) (v := .pointer (some ⟨sb, 0, none⟩)) (some 29) rfl rfl (by kernel_rfl) (by kernel_rfl) (by kernel_rfl) (fun _ _ _ h => h) (Or.inl ⟨by kernel_rfl, fun wq hw => by go_simp⟩) hHeld ?_
  simp only [Act.put, List.setIfInBounds_toArray, List.set_cons_succ, List.set_cons_zero]
  refine drawn_take (i := 3) (v := .pointer (some ⟨d, 0, none⟩)) (some 30) rfl rfl (by kernel_rfl) (by kernel_rfl) (by kernel_rfl) (fun _ _ _ h => h) (Or.inl ⟨by kernel_rfl, fun wq hw => load_run (x := .tmp 29) (vx := .pointer (some ⟨sb, 0, none⟩)) (by kernel_rfl) (by kernel_rfl) (load_ptr hw.2)⟩) hHeld ?_
  refine drawn_take (i := 4) (v := .pointer (some ⟨sb, 0, none⟩)) (some 31) rfl rfl (by kernel_rfl) (by kernel_rfl) (by kernel_rfl) (fun _ _ _ h => h) (Or.inl ⟨by kernel_rfl, fun wq hw => by go_simp⟩) hHeld ?_
  refine drawn_take (i := 5) (v := .int .i64 (f : Int)) (some 32) rfl rfl (by kernel_rfl) (by kernel_rfl) (by kernel_rfl) (fun _ _ _ h => h) (Or.inl ⟨by kernel_rfl, fun wq hw => by go_simp⟩) hHeld ?_
  simp only [Act.put, List.setIfInBounds_toArray, List.set_cons_succ, List.set_cons_zero]
  refine drawn_take (i := 6) (v := .pointer (some ⟨sb, 0, none⟩)) (some 33) rfl rfl (by kernel_rfl) (by kernel_rfl) (by kernel_rfl) (fun _ _ _ h => h) (Or.inl ⟨by kernel_rfl, fun wq hw => by go_simp⟩) hHeld ?_
  simp only [Act.put, List.setIfInBounds_toArray, List.set_cons_succ, List.set_cons_zero]
  refine drawn_take (i := 7) (v := .pointer (some ⟨sb, 1, none⟩)) (some 34) rfl rfl (by kernel_rfl) (by kernel_rfl) (by kernel_rfl) (fun _ _ _ h => h) (Or.inl ⟨by kernel_rfl, fun wq hw => by go_simp⟩) hHeld ?_
  simp only [Act.put, List.setIfInBounds_toArray, List.set_cons_succ, List.set_cons_zero]
  refine drawn_take (i := 8) (v := .pointer (some ⟨sb, 1 + f, none⟩)) (some 35) rfl rfl (by kernel_rfl) (by kernel_rfl) (by kernel_rfl) (fun _ _ _ h => h) (Or.inl ⟨by kernel_rfl, fun wq hw => idx_run (x := .tmp 34) (y := .tmp 32) (vx := .pointer (some ⟨sb, 1, none⟩)) (vy := .int .i64 (f : Int)) (by kernel_rfl) (by kernel_rfl) (by kernel_rfl) (HIX.out wq)⟩) hHeld ?_
  simp only [Act.put, List.setIfInBounds_toArray, List.set_cons_succ, List.set_cons_zero]
  refine drawn_take (i := 9) (v := .string fn) (some 36) rfl rfl (by kernel_rfl) (by kernel_rfl) (by kernel_rfl) (fun _ _ _ h => h) (Or.inl ⟨by kernel_rfl, fun wq hw => load_run (x := .tmp 35) (vx := .pointer (some ⟨sb, 1 + f, none⟩)) (by kernel_rfl) (by kernel_rfl) (load_str hw.1)⟩) hHeld ?_
  refine drawn_take (i := 10) (v := .int .i64 (n : Int)) (some 37) rfl rfl (by kernel_rfl) (by kernel_rfl) (by kernel_rfl) (fun _ _ _ h => h) (Or.inl ⟨by kernel_rfl, fun wq hw => by go_simp⟩) hHeld ?_
  refine drawn_take (i := 11) (v := .slice (some ⟨b5, 0, none⟩) 128 128) (some 38) rfl rfl (by kernel_rfl) (by kernel_rfl) (by kernel_rfl) (fun _ _ _ h => h) (Or.inl ⟨by kernel_rfl, fun wq hw => by go_simp⟩) hHeld ?_
  simp only [Act.put, List.setIfInBounds_toArray, List.set_cons_succ, List.set_cons_zero]
  refine wpAnyH_ready (rs := [12]) (by kernel_rfl) (by simp) ?_
  refine rdy_call (i := 12) rfl rfl (some 39) rfl 35 #[.pointer (some ⟨d, 0, none⟩), .string fn, .int .i64 (n : Int), .slice (some ⟨b5, 0, none⟩) 128 128] (write_call_run (x := 30) (y := 36) (z := 37) (u := 38) (by kernel_rfl) (by kernel_rfl) (by kernel_rfl) (by kernel_rfl) (by kernel_rfl)) (fun v w' => v = .int .i64 0 ∧ ∃ F', DiskOf w' d F' (N + 1) (upd M fn.data.toList (M fn.data.toList ++ [zeroE.wrote fz])) (free - 1) (burnt fuse) ∧ Gr F F' w6 w') ((write_new _ d F N M free fuse hD6 fn HSN.out n o HN HO.out b5 0 128 fz hBF6 h0 hf1 hf2 hn hNm hfr hfr2).mono fun e w' h => ⟨_, h.1, rfl, h.2⟩) (fun v w7 hR => ?_) rdy_nil
  obtain ⟨rfl, F7, hD7, hG7⟩ := hR
  have hA7 := hA6.gr hG7 hsb
  refine ⟨⟨HNAME.out _ hA7, hA7.disk⟩, fun hHeld => ?_⟩
  simp only [Act.put, List.setIfInBounds_toArray, List.set_cons_succ, List.set_cons_zero]
  refine drawn_take (i := 13) (v := .int .i64 0) (some 8) rfl rfl (by kernel_rfl) (by kernel_rfl) (by kernel_rfl) (fun _ _ _ h => h) (Or.inl ⟨by kernel_rfl, fun wq hw => by go_simp⟩) hHeld ?_
  simp only [Act.put, List.setIfInBounds_toArray, List.set_cons_succ, List.set_cons_zero]
  refine wpAnyH_done (by kernel_rfl) ?_ _
  refine NoPanic.normal ?_
  have HD7 := hidn hD7
  have HG7 := hidn ((Gr.of (Keeps.of_below (F := F) HBW5.out)).trans ((Gr.of (Keeps.of_below (F := F) hbd)).trans hG7))
  clear hHeld hA7 hD7 hG7 hA6 hD6 hBF6
  go_wp2
  go_ret
  exact ⟨rfl, F7, HD7.out, HG7.out⟩
end Go.Proofs.YtdbogbiklabmkaaDoor

/- Stripes: what one file has of a text is stored. -/
namespace Go.Proofs.YtdbogbiklabmkaaDoor
open Go.RowKit Go.Maps
set_option linter.unusedVariables false

/-- What a file's extent has of a text. -/
def payS (zs : List Nat) (f i : Nat) : List Nat := if f < 3 then partS zs f i else accS zs i 3
theorem payS_ok {zs : List Nat} (h : ∀ x ∈ zs, x < 256) (f i : Nat) : (payS zs f i).length ≤ 106 ∧ ∀ x ∈ payS zs f i, x < 256 := by
  unfold payS
  split
  · exact ⟨Nat.le_trans (partS_le zs f i) (by omega), partS_mem h f i⟩
  · exact ⟨Nat.le_of_eq (accS_ok h i 3).1, (accS_ok h i 3).2⟩
theorem slotOf_any (w : World) (a : Option Addr) (len cap : Nat) (zs : List Nat) (hB : Bs w a len zs) (hcap : len ≤ cap) (hlen : len ≤ 100000) (f i : Nat) (hf : f < 4) (hi : i ≤ 1000000) (L : List Nat) (HL : Hid (L = slotF zs f i)) :
    Calls Tryd.prog 30 #[.slice a len cap, .int .i64 f, .int .i64 i] w fun e w' => e = .returned (.agg (vb L).toArray) ∧ Below w.heap.size w w' := by
  by_cases h3 : f < 3
  · exact slotOf_data w a len cap zs hB hcap hlen f i h3 hi L (hidn (by rw [HL.out]; unfold slotF; rw [if_pos h3]))
  · obtain rfl : f = 3 := by omega
    exact slotOf_par w a len cap zs hB hcap hlen i hi L (hidn (by rw [HL.out]; unfold slotF; rw [if_neg (by omega)]))
theorem payload_any (w : World) (zs L : List Nat) (f i : Nat) (hf : f < 4) (HL : Hid (L = slotF zs f i)) (hz : ∀ x ∈ zs, x < 256) :
    Calls Tryd.prog 23 #[.agg (vb L).toArray, .int .i64 f] w fun e w' => ∃ b o m c, e = .returned (.tuple #[.slice (some ⟨b, o, none⟩) m c, .bool true]) ∧ m ≤ 106 ∧ w.heap.size ≤ b ∧ Bs w' (some ⟨b, o, none⟩) m (payS zs f i) ∧ Below w.heap.size w w' := by
  by_cases h3 : f < 3
  · have e : payS zs f i = partS zs f i := by unfold payS; rw [if_pos h3]
    rw [e]
    have h := payload_part w (partS zs f i) L f (partS zs f i).length h3 (hidn (by rw [HL.out]; unfold slotF; rw [if_pos h3])) rfl (partS_le zs f i) (partS_mem hz f i)
    exact h.mono fun e w' hh => by
      obtain ⟨b, h1, h2, h3, h4⟩ := hh
      exact ⟨b, 1, _, 105, h1, Nat.le_trans (partS_le zs f i) (by omega), h2, h3, h4⟩
  · obtain rfl : f = 3 := by omega
    have e : payS zs 3 i = accS zs i 3 := by unfold payS; rw [if_neg (by omega)]
    rw [e]
    have eL : L = accS zs i 3 := by rw [HL.out]; unfold slotF; rw [if_neg (by omega)]
    rw [eL]
    exact (payload_par w (accS zs i 3) (accS_ok hz i 3).1 (accS_ok hz i 3).2).mono fun e w' hh => by
      obtain ⟨b, h1, h2, h3, h4⟩ := hh
      exact ⟨b, 0, 106, 106, h1, by omega, h2, h3, h4⟩

def fileS (fn : ByteArray) (g : Nat) (zs : List Nat) (f k : Nat) : List Ext := (List.range k).map fun j => zeroE.wrote (frameB (nums fn) j g (payS zs f j))
theorem fileS_length (s : ByteArray) (g : Nat) (zs : List Nat) (f k : Nat) : (fileS s g zs f k).length = k := by simp [fileS]
theorem fileS_succ (s : ByteArray) (g : Nat) (zs : List Nat) (f k : Nat) : fileS s g zs f (k + 1) = fileS s g zs f k ++ [zeroE.wrote (frameB (nums s) k g (payS zs f k))] := by simp [fileS, List.range_succ]

set_option maxHeartbeats 2000000 in
theorem sstore_new (w : World) (d g : Nat) (F : Nat → Prop) (N : Nat) (M : List UInt8 → List Ext) (free : Int) (h : DiskOf w d F N M free (-1)) (hS : Sound5 w F) (sb f : Nat) (f0 f1 f2 f3 fn : ByteArray) (hA : StripeAt w sb d f0 f1 f2 f3 g) (hsb : ¬ F sb) (hf : f < 4) (HFN : Hid (fn = nameF f0 f1 f2 f3 f)) (hs : nameB fn.data.toList = true) (hM : M fn.data.toList = []) (hg : g ≤ 4611686018427387904)
    (a : Option Addr) (len cap : Nat) (zs : List Nat) (hB : BsF F w a len zs) (hcap : len ≤ cap) (hlen : len ≤ 100000) (E : Nat) (HE : Hid (E = grpB len)) (hN : N + E < maxLen) (hfr : (E : Int) ≤ free) (hfr2 : free ≤ 1000000) :
    Calls Tryd.prog 17 #[.pointer (some ⟨sb, 0, none⟩), .int .i64 f, .slice a len cap] w fun e w' => e = .returned (.int .i64 0) ∧ ∃ F', DiskOf w' d F' (N + E) (upd M fn.data.toList ((fileS fn g zs f E).map Ext.synced)) (free - E) (-1) ∧ Gr F F' w w' := by
  have hsm : fn.size ≤ maxLen := by have := (name_size hs).2; unfold maxLen; omega
  have hE1 : 1 ≤ E ∧ E ≤ 400 := by
    rw [HE.out]; unfold grpB
    split <;> omega
  have HSM := hidn hsm
  have HSN := hidn hs
  have HM := hidn hM
  have HD := hidn h
  have HSS := hidn hS
  have HB := hidn hB
  have HE1 := hidn hE1
  have HA := hidn hA
  have HF := hidn hf
  have HLT := hidn hA.lt
  have HIX := hidn (fun wx => file_index sb f hf wx)
  have HNAME : Hid (∀ wx : World, StripeAt wx sb d f0 f1 f2 f3 g → wx.cell? ⟨sb, 1 + f, none⟩ = some (.string fn)) := hidn (fun wx hx => by rw [HFN.out]; exact hx.name f hf)
  have hEx := groups_any w (len : Int) (by omega)
  rw [Int.toNat_natCast, ← HE.out] at hEx
  clear hs hM h hS hB hE1 hA hf hsm
  go_enter Tryd.func17, Tryd.ntmps17
  go_wp2_with fail
  refine hEx.mono ?_
  rintro e w0 ⟨rfl, rfl⟩
  clear hEx
  go_wp2_with fail
  go_loopw [14] (fun iv wr => ∃ k : Nat, k ≤ E ∧ iv = .int .i64 k ∧ ∃ F', Hid (DiskOf wr d F' (N + k) (upd M fn.data.toList (fileS fn g zs f k)) (free - k) (-1)) ∧ Hid (Gr F F' w0 wr)) (fun iv _ => E - (intOf iv).toNat)
  case atStart =>
    refine ⟨0, Nat.zero_le _, rfl, F, ?_, hidn (Gr.refl _ _)⟩
    rw [show fileS fn g zs f 0 = [] from rfl, upd_self M _ _ HM.out, Nat.add_zero, show free - ((0 : Nat) : Int) = free by omega]
    exact HD
  case round =>
    obtain ⟨k, hk, rfl, F', HK, HGK⟩ := hrel
    by_cases hlt : k < E
    · have hlt' : decide (k < E) = true := by simpa using hlt
      have hBk := HB.out.gr HGK.out
      obtain ⟨L, hL⟩ : ∃ L, L = slotF zs f k := ⟨_, rfl⟩
      have HL := hidn hL
      obtain ⟨pp, hpp⟩ : ∃ pp, pp = payS zs f k := ⟨_, rfl⟩
      have HPP := hidn hpp
      obtain ⟨fz, hfz⟩ : ∃ fz, fz = frameB (nums fn) k g pp := ⟨_, rfl⟩
      have HFZ := hidn hfz
      have HKL := hidn hlt
      have HZ : Hid (∀ x ∈ zs, x < 256) := hidn hBk.1.2.2.1
      have HBK := hidn hBk
      clear hL hpp hfz hlt hBk
      go_wp2_with fail
      refine (slotOf_any _ a len cap zs HBK.out.1 hcap hlen f k HF.out (by have := HE1.out; have := HKL.out; omega) L HL).mono ?_
      rintro e w2 ⟨rfl, hb2⟩
      go_wp2_with fail
      refine (payload_any _ zs L f k HF.out HL HZ.out).mono ?_
      rintro e w3 ⟨b3, o3, m3, c3, rfl, hm3, hbb3, hB3, hb3⟩
      have hb13 : Below wr.heap.size wr w3 := hb2.trans (hb3.mono hb2.size)
      rw [← HPP.out] at hB3
      have HB3 := hidn hB3
      have HM3 := hidn hm3
      have HB13 := hidn hb13
      have HD3 := hidn (HK.out.below hb13)
      have HG3 := hidn (HGK.out.trans (Gr.of (Keeps.of_below (F := F') hb13)))
      clear hB3 hm3 hbb3 hb2 hb3 hb13
      go_wp2_with fail
      have hA3 := HA.out.gr HG3.out hsb
      have hS3 := HSS.out.gr HG3.out
      have hn3 := HG3.out.not HLT.out hsb
      have hfr' : (1 : Int) ≤ free - k := by have := HKL.out; omega
      refine (stripeWrite_new _ d g F' (N + k) _ (free - k) (-1) HD3.out hS3 sb f f0 f1 f2 f3 fn hA3 hn3 HF.out HFN HSN.out k (k * 385) (hidn (by rw [upd_same, fileS_length])) rfl _ m3 c3 pp fz HB3.out HM3.out hg HFZ (by omega) (by omega) (by omega) (by have := HE1.out; have := HKL.out; omega) (by have := HKL.out; omega) hfr' (by omega)).mono ?_
      rw [upd_upd, upd_same, burnt_none, HFZ.out, HPP.out, ← fileS_succ]
      rintro e w5 ⟨rfl, F5, hD5, hG5⟩
      have HD5 := hidn hD5
      have HG5 := hidn (HG3.out.trans hG5)
      clear hD5 hG5 hA3 hS3 hn3 hfr'
      go_wp2
      go_roundw
      case rel =>
        refine ⟨k + 1, HKL.out, by go_num, F5, ?_, HG5⟩
        have := HD5.out
        rw [show free - (k : Int) - 1 = free - ((k + 1 : Nat) : Int) by omega] at this
        exact this
      case measure => simp [intOf]; have := HKL.out; omega
    · obtain rfl : k = E := by omega
      have hlt' : decide (k < k) = false := by simp
      have HNE : Hid (upd M fn.data.toList (fileS fn g zs f k) fn.data.toList ≠ []) := hidn (by rw [upd_same]; intro e; have := fileS_length fn g zs f k; rw [e] at this; have := HE1.out.1; simp at *; omega)
      have HAK := hidn (HA.out.gr HGK.out hsb)
      go_wp2_with fail
      have hbd : Below wr.heap.size wr wr.drew := (Below.refl _ _).drew
      have hA6 := HAK.out.below hbd
      have hD6 := HK.out.below hbd
      have hG6 := HGK.out.trans (Gr.of (Keeps.of_below (F := F') hbd))
      obtain ⟨w6, hw6⟩ : ∃ w6, w6 = wr.drew := ⟨_, rfl⟩
      rw [← hw6] at hbd hA6 hD6 hG6
      have HW6 := hidn hw6
      have HC6 := hidn (And.intro (HNAME.out _ hA6) hA6.disk)
      have HN6 := hidn (HGK.out.not HLT.out hsb)
      clear hw6
      refine wp_region_noPanic ?_
      refine wp_region_held_drew (S := fun w' => w'.cell? ⟨sb, 1 + f, none⟩ = some (.string fn) ∧ w'.cell? ⟨sb, 0, none⟩ = some (.pointer (some ⟨d, 0, none⟩))) (by kernel_rfl) (HW6.out ▸ HC6.out) (fun hHeld => ?_)
      rw [← HW6.out]
      rw [← HW6.out] at hHeld
      refine drawn_take (i := 0) (v := .pointer (some ⟨sb, 0, none⟩)) (some 35) rfl rfl (by kernel_rfl) (by kernel_rfl) (by kernel_rfl) (fun _ _ _ h => h) (Or.inl ⟨by kernel_rfl, fun wq hw => by go_simp⟩) hHeld ?_
      simp only [Act.put, List.setIfInBounds_toArray, List.set_cons_succ, List.set_cons_zero]
      refine drawn_take (i := 1) (v := .pointer (some ⟨sb, 0, none⟩)) (some 36) rfl rfl (by kernel_rfl) (by kernel_rfl) (by kernel_rfl) (fun _ _ _ h => h) (Or.inl ⟨by kernel_rfl, fun wq hw => by go_simp⟩) hHeld ?_
      simp only [Act.put, List.setIfInBounds_toArray, List.set_cons_succ, List.set_cons_zero]
      refine drawn_take (i := 2) (v := .pointer (some ⟨sb, 0, none⟩)) (some 37) rfl rfl (by kernel_rfl) (by kernel_rfl) (by kernel_rfl) (fun _ _ _ h => h) (Or.inl ⟨by kernel_rfl, fun wq hw => by go_simp⟩) hHeld ?_
      simp only [Act.put, List.setIfInBounds_toArray, List.set_cons_succ, List.set_cons_zero]
      refine drawn_take (i := 3) (v := .pointer (some ⟨d, 0, none⟩)) (some 38) rfl rfl (by kernel_rfl) (by kernel_rfl) (by kernel_rfl) (fun _ _ _ h => h) (Or.inl ⟨by kernel_rfl, fun wq hw => load_run (x := .tmp 37) (vx := .pointer (some ⟨sb, 0, none⟩)) (by kernel_rfl) (by kernel_rfl) (load_ptr hw.2)⟩) hHeld ?_
      refine drawn_take (i := 4) (v := .pointer (some ⟨sb, 0, none⟩)) (some 39) rfl rfl (by kernel_rfl) (by kernel_rfl) (by kernel_rfl) (fun _ _ _ h => h) (Or.inl ⟨by kernel_rfl, fun wq hw => by go_simp⟩) hHeld ?_
      refine drawn_take (i := 5) (v := .int .i64 (f : Int)) (some 40) rfl rfl (by kernel_rfl) (by kernel_rfl) (by kernel_rfl) (fun _ _ _ h => h) (Or.inl ⟨by kernel_rfl, fun wq hw => by go_simp⟩) hHeld ?_
      simp only [Act.put, List.setIfInBounds_toArray, List.set_cons_succ, List.set_cons_zero]
      refine drawn_take (i := 6) (v := .pointer (some ⟨sb, 0, none⟩)) (some 41) rfl rfl (by kernel_rfl) (by kernel_rfl) (by kernel_rfl) (fun _ _ _ h => h) (Or.inl ⟨by kernel_rfl, fun wq hw => by go_simp⟩) hHeld ?_
      simp only [Act.put, List.setIfInBounds_toArray, List.set_cons_succ, List.set_cons_zero]
      refine drawn_take (i := 7) (v := .pointer (some ⟨sb, 1, none⟩)) (some 42) rfl rfl (by kernel_rfl) (by kernel_rfl) (by kernel_rfl) (fun _ _ _ h => h) (Or.inl ⟨by kernel_rfl, fun wq hw => by go_simp⟩) hHeld ?_
      simp only [Act.put, List.setIfInBounds_toArray, List.set_cons_succ, List.set_cons_zero]
      refine drawn_take (i := 8) (v := .pointer (some ⟨sb, 1 + f, none⟩)) (some 43) rfl rfl (by kernel_rfl) (by kernel_rfl) (by kernel_rfl) (fun _ _ _ h => h) (Or.inl ⟨by kernel_rfl, fun wq hw => idx_run (x := .tmp 42) (y := .tmp 40) (vx := .pointer (some ⟨sb, 1, none⟩)) (vy := .int .i64 (f : Int)) (by kernel_rfl) (by kernel_rfl) (by kernel_rfl) (HIX.out wq)⟩) hHeld ?_
      simp only [Act.put, List.setIfInBounds_toArray, List.set_cons_succ, List.set_cons_zero]
      refine drawn_take (i := 9) (v := .string fn) (some 44) rfl rfl (by kernel_rfl) (by kernel_rfl) (by kernel_rfl) (fun _ _ _ h => h) (Or.inl ⟨by kernel_rfl, fun wq hw => load_run (x := .tmp 43) (vx := .pointer (some ⟨sb, 1 + f, none⟩)) (by kernel_rfl) (by kernel_rfl) (load_str hw.1)⟩) hHeld ?_
      simp only [Act.put, List.setIfInBounds_toArray, List.set_cons_succ, List.set_cons_zero]

      refine wpAnyH_ready (rs := [10]) (by kernel_rfl) (by simp) ?_
      refine rdy_call (i := 10) rfl rfl (some 45) rfl 25 #[.pointer (some ⟨d, 0, none⟩), .string fn] (sync_call_run (x := 38) (y := 44) (by kernel_rfl) (by kernel_rfl) (by kernel_rfl)) (fun v w' => v = .int .i64 0 ∧ DiskOf w' d F' (N + k) (upd M fn.data.toList ((fileS fn g zs f k).map Ext.synced)) (free - k) (-1) ∧ Gr F' F' w6 w') ((sync_disk _ d F' _ _ _ (-1) hD6 fn HSM.out HNE.out (by omega) (by omega) (by omega)).mono fun e w' hh => ⟨_, hh.1, rfl, by have := hh.2.1; rwa [upd_upd, upd_same, burnt_none] at this, hh.2.2⟩) (fun v w7 hR => ?_) rdy_nil
      obtain ⟨rfl, hD7, hG7⟩ := hR
      have hA7 := hA6.gr hG7 HN6.out
      refine ⟨⟨HNAME.out _ hA7, hA7.disk⟩, fun hHeld => ?_⟩
      simp only [Act.put, List.setIfInBounds_toArray, List.set_cons_succ, List.set_cons_zero]
      refine drawn_take (i := 11) (v := .int .i64 0) (some 6) rfl rfl (by kernel_rfl) (by kernel_rfl) (by kernel_rfl) (fun _ _ _ h => h) (Or.inl ⟨by kernel_rfl, fun wq hw => by go_simp⟩) hHeld ?_
      simp only [Act.put, List.setIfInBounds_toArray, List.set_cons_succ, List.set_cons_zero]
      refine wpAnyH_done (by kernel_rfl) ?_ _
      refine NoPanic.normal ?_
      have HD7 := hidn hD7
      have HG7 := hidn (hG6.trans hG7)
      clear hHeld hA7 hD7 hG7 hA6 hD6 hG6
      go_wp2
      go_ret
      exact ⟨rfl, F', HD7.out, HG7.out⟩
end Go.Proofs.YtdbogbiklabmkaaDoor

/- Stripes: Store on a disk that has none of the four files. -/
namespace Go.Proofs.YtdbogbiklabmkaaDoor
open Go.RowKit Go.Maps
set_option linter.unusedVariables false

/-- The disk's files once a text is stored, the first k of the stripe's four. -/
def storedS (M : List UInt8 → List Ext) (f0 f1 f2 f3 : ByteArray) (g : Nat) (zs : List Nat) (E : Nat) : Nat → List UInt8 → List Ext
  | 0 => M
  | k + 1 => upd (storedS M f0 f1 f2 f3 g zs E k) (nameF f0 f1 f2 f3 k).data.toList ((fileS (nameF f0 f1 f2 f3 k) g zs k E).map Ext.synced)

set_option maxHeartbeats 2000000 in
theorem sstoreAll_new (w : World) (d : Nat) (F : Nat → Prop) (N : Nat) (M : List UInt8 → List Ext) (free : Int) (g : Nat) (zs : List Nat) (E : Nat) (h : DiskOf w d F N M free (-1)) (hS : Sound5 w F) (hM0 : M [] = []) (s f0 f1 f2 f3 : ByteArray) (hs : s.size ≤ 1000) (e0 : Hid (f0 = sf0 s)) (e1 : Hid (f1 = sf1 s)) (e2 : Hid (f2 = sf2 s)) (e3 : Hid (f3 = sf3 s))
    (HNM : Hid (∀ k, k < 4 → nameB (nameF f0 f1 f2 f3 k).data.toList = true)) (HMN : Hid (∀ k, k < 4 → M (nameF f0 f1 f2 f3 k).data.toList = [])) (HSM : Hid (∀ k, k < 4 → storedS M f0 f1 f2 f3 g zs E k (nameF f0 f1 f2 f3 k).data.toList = []))
    (hg : g ≤ 4611686018427387904) (a : Option Addr) (len cap : Nat) (hBz : BsF F w a len zs) (hcap : len ≤ cap) (hlen : len ≤ 100000) (HE : Hid (E = grpB len)) (hN : N + 4 * E < maxLen) (hfr : (4 * E : Int) ≤ free) (hfr2 : free ≤ 1000000) :
    Calls Tryd.prog 5 #[.pointer (some ⟨d, 0, none⟩), .string s, .int .i64 g, .slice a len cap] w fun e w' => e = .returned (.int .i64 0) ∧ ∃ F', DiskOf w' d F' (N + 4 * E) (storedS M f0 f1 f2 f3 g zs E 4) (free - 4 * E) (-1) ∧ Gr F F' w w' := by
  have HD := hidn h
  have HS := hidn hS
  have HBz := hidn hBz
  have hHv := fun wx => files_any wx s hs
  rw [← e0.out, ← e1.out, ← e2.out, ← e3.out] at hHv
  have hsz : ∀ k, k < 4 → (nameF f0 f1 f2 f3 k).size ≤ maxLen := fun k hk => by have := (name_size (HNM.out k hk)).2; unfold maxLen; omega
  have HDR : Hid (∀ wx, DiskOf wx d F N M free (-1) → _) := hidn (fun (wx : World) (hx : DiskOf wx d F N M free (-1)) => sdrop_none wx d F N M free (-1) hx hM0 s f0 f1 f2 f3 hs e0 e1 e2 e3 (hidn (HMN.out 0 (by omega))) (hidn (HMN.out 1 (by omega))) (hidn (HMN.out 2 (by omega))) (hidn (HMN.out 3 (by omega))) (hsz 0 (by omega)) (hsz 1 (by omega)) (hsz 2 (by omega)) (hsz 3 (by omega)))
  have hg1 : decide ((g : Int) < 0) = false := decide_eq_false (by omega)
  have hg2 : decide ((4611686018427387904 : Int) < (g : Int)) = false := decide_eq_false (by omega)
  have hg3 : decide (4611686018427387904 < g) = false := decide_eq_false (by omega)
  clear hBz hsz
  go_enter Tryd.func5, Tryd.ntmps5
  go_wp2_with fail
  refine (stripeMade _ d F N M free (-1) HD.out hM0).mono ?_
  rintro e w1 ⟨rfl, hb1⟩
  go_wp2_with fail
  refine (HDR.out _ (HD.out.below hb1)).mono ?_
  rintro e w3 ⟨rfl, hb3⟩
  have hb13 : Below w.heap.size w w3 := hb1.trans (hb3.mono hb1.size)
  clear hb1 hb3
  go_wp2_with fail
  refine (hHv _).mono ?_
  rintro e w4 ⟨rfl, hb4⟩
  have hb14 : Below w.heap.size w w4 := hb13.trans (hb4.mono hb13.size)
  have HB14 := hidn hb14
  have HLT : Hid (∀ k, F k → k < w.heap.size) := hidn hS.lt
  clear hb13 hb4 hb14 hHv h hS HDR
  go_wp2_with fail
  obtain ⟨sb, hsb⟩ : ∃ sb, sb = w4.heap.size := ⟨_, rfl⟩
  obtain ⟨w5, hw5⟩ : ∃ w5, w5 = w4.alloc (.cells #[.pointer (some ⟨d, 0, none⟩), .string f0, .string f1, .string f2, .string f3, .int .i64 (g : Int)] 51) := ⟨_, rfl⟩
  have hb5 : Below w.heap.size w w5 := by rw [hw5]; exact HB14.out.trans ((Below.refl _ _).alloc HB14.out.size _)
  have HA5 : Hid (StripeAt w5 sb d f0 f1 f2 f3 g) := hidn (by rw [hw5, hsb]; exact heap_alloc_new _ _)
  have HNS : Hid (¬ F sb) := hidn (fun hF => by have := HLT.out _ hF; have := HB14.out.size; omega)
  have HD5 := hidn (HD.out.below hb5)
  have HS5 := hidn (HS.out.below hb5)
  have HBz5 := hidn (HBz.out.below hb5)
  have HG5 := hidn (Gr.of (Keeps.of_below (F := F) hb5))
  have HLT5 := hidn HA5.out.lt
  rw [← hw5, ← hsb]
  clear hw5 hsb hb5 HB14
  go_loopw [33] (fun iv wr => ∃ (k : Nat) (F' : Nat → Prop), k ≤ 4 ∧ iv = .int .i64 k ∧ Hid (Gr F F' w5 wr) ∧ Hid (DiskOf wr d F' (N + k * E) (storedS M f0 f1 f2 f3 g zs E k) (free - (k * E : Nat)) (-1))) (fun iv _ => 4 - (intOf iv).toNat)
  case atStart => exact ⟨0, F, by omega, rfl, hidn (Gr.refl _ _), by rw [Nat.zero_mul, Nat.add_zero, show free - ((0 : Nat) : Int) = free by omega]; exact HD5⟩
  case round =>
    obtain ⟨k, F', hk, rfl, HGk, HDk⟩ := hrel
    by_cases hlt : k < 4
    · have hlt' : decide (k < 4) = true := by simpa using hlt
      have hlt2 : decide ((k : Int) < 4) = true := by simpa using (by omega : (k : Int) < 4)
      have HKL := hidn hlt
      have HU : Hid (k * E ≤ 3 * E ∧ (k + 1) * E = k * E + E) := hidn ⟨Nat.mul_le_mul_right _ (by omega), Nat.succ_mul _ _⟩
      clear hlt
      go_wp2_with fail
      obtain ⟨u, hu⟩ : ∃ u, u = k * E := ⟨_, rfl⟩
      have hU := HU.out
      have hDk := HDk.out
      rw [← hu] at hU hDk
      refine (sstore_new _ d g F' (N + u) _ (free - u) hDk (HS5.out.gr HGk.out) sb k f0 f1 f2 f3 (nameF f0 f1 f2 f3 k) (HA5.out.gr HGk.out HNS.out) (HGk.out.not HLT5.out HNS.out) HKL.out (hidn rfl) (HNM.out k HKL.out) (HSM.out k HKL.out) hg a len cap zs (HBz5.out.gr HGk.out) hcap hlen E HE (by omega) (by omega) (by omega)).mono ?_
      rintro e w6 ⟨rfl, F6, hD6, hG6⟩
      have HG6 := hidn (HGk.out.trans hG6)
      have HD6 : Hid (DiskOf w6 d F6 (N + (k + 1) * E) (storedS M f0 f1 f2 f3 g zs E (k + 1)) (free - ((k + 1) * E : Nat)) (-1)) := hidn (by
        rw [hU.2, ← Nat.add_assoc, show free - ((u + E : Nat) : Int) = free - u - E by omega]
        exact hD6)
      clear hD6 hG6 hDk hu hU
      go_wp2
      go_roundw
      case rel => exact ⟨k + 1, F6, HKL.out, by go_num, HG6, HD6⟩
      case measure => simp [intOf]; have := HKL.out; omega
    · obtain rfl : k = 4 := by omega
      go_wp2
      go_ret
      have h1 := HDk.out
      rw [show free - ((4 * E : Nat) : Int) = free - 4 * (E : Int) by omega] at h1
      exact ⟨rfl, F', h1, HG5.out.trans HGk.out⟩
end Go.Proofs.YtdbogbiklabmkaaDoor

/- Stripes: a text stored as x on a new disk. -/
namespace Go.Proofs.YtdbogbiklabmkaaDoor
open Go.RowKit Go.Maps
set_option linter.unusedVariables false

/-- The name x, and its four files. -/
def nmX6 : ByteArray := ⟨#[120]⟩
def x0 : ByteArray := ⟨#[120, 46, 48]⟩
def x1 : ByteArray := ⟨#[120, 46, 49]⟩
def x2 : ByteArray := ⟨#[120, 46, 50]⟩
def x3 : ByteArray := ⟨#[120, 46, 112]⟩
def nameX (k : Nat) : ByteArray := nameF x0 x1 x2 x3 k
theorem nameX_ok (k : Nat) (hk : k < 4) : nameB (nameX k).data.toList = true := by
  match k, hk with
  | 0, _ => decide +kernel
  | 1, _ => decide +kernel
  | 2, _ => decide +kernel
  | 3, _ => decide +kernel
theorem nameX_ne : ∀ j, j < 4 → ∀ k, k < 4 → j ≠ k → (nameX j).data.toList ≠ (nameX k).data.toList := by decide +kernel
def diskX (g : Nat) (zs : List Nat) (E : Nat) (k : Nat) : List UInt8 → List Ext := storedS (fun _ => []) x0 x1 x2 x3 g zs E k
theorem diskX_succ (g : Nat) (zs : List Nat) (E k : Nat) : diskX g zs E (k + 1) = upd (diskX g zs E k) (nameX k).data.toList ((fileS (nameX k) g zs k E).map Ext.synced) := rfl
theorem diskX_other (g : Nat) (zs : List Nat) (E : Nat) : ∀ k j, k ≤ j → j < 4 → diskX g zs E k (nameX j).data.toList = []
  | 0, _, _, _ => rfl
  | k + 1, j, h, h4 => by
    rw [diskX_succ, upd_other _ _ _ _ (nameX_ne j h4 k (by omega) (by omega))]
    exact diskX_other g zs E k j (by omega) h4
theorem diskX_at (g : Nat) (zs : List Nat) (E : Nat) : ∀ k j, j < k → k ≤ 4 → diskX g zs E k (nameX j).data.toList = (fileS (nameX j) g zs j E).map Ext.synced
  | 0, _, h, _ => absurd h (by omega)
  | k + 1, j, h, h4 => by
    rw [diskX_succ]
    by_cases hj : j = k
    · subst hj; rw [upd_same]
    · rw [upd_other _ _ _ _ (nameX_ne j (by omega) k (by omega) hj)]
      exact diskX_at g zs E k j (by omega) (by omega)
theorem diskX_nil (g : Nat) (zs : List Nat) (E : Nat) : ∀ k, k ≤ 4 → diskX g zs E k [] = []
  | 0, _ => rfl
  | k + 1, h4 => by
    have : ∀ k, k < 4 → ([] : List UInt8) ≠ (nameX k).data.toList := by decide +kernel
    rw [diskX_succ, upd_other _ _ _ _ (this k (by omega))]
    exact diskX_nil g zs E k (by omega)
theorem bs_cut6 {w : World} {a : Option Addr} {len : Nat} {zs : List Nat} (h : Bs w a len zs) (m : Nat) (hm : m ≤ len) : Bs w a m (zs.take m) := by
  refine ⟨by rw [List.length_take, h.1]; omega, Nat.le_trans hm h.2.1, fun x hx => h.2.2.1 x (List.mem_of_mem_take hx), fun ha => by have := h.2.2.2.1 ha; omega, fun x hx j hj => ?_⟩
  have e : (zs.take m).getD j 0 = zs.getD j 0 := by rw [List.getD_eq_getElem?_getD, List.getD_eq_getElem?_getD, List.getElem?_take, if_pos hj]
  rw [h.2.2.2.2 x hx j (by omega), e]

/-- New and Store of x: what is known then. -/
theorem storeX (w w1 : World) (hb1 : Below w.heap.size w w1) (hs1 : w1.heap.size = w.heap.size + 2) (d : Nat) (hD1 : DiskOf w1 d (fun k => w.heap.size ≤ k ∧ k < w.heap.size + 2) 0 (fun _ => []) 40 (-1)) (hT : CrcTab w) (g : Nat) (hg : g ≤ 4611686018427387904) (a : Option Addr) (m cap : Nat) (pp : List Nat) (hB : Bs w a m pp) (hcap : m ≤ cap) (hm : m ≤ 1500) (E : Nat) (HE : Hid (E = grpB m)) :
    Calls Tryd.prog 5 #[.pointer (some ⟨d, 0, none⟩), .string ⟨#[120]⟩, .int .i64 g, .slice a m cap] w1 fun e w' => e = .returned (.int .i64 0) ∧ ∃ F', DiskOf w' d F' (4 * E) (diskX g pp E 4) (40 - 4 * E) (-1) ∧ Sound5 w' F' ∧ (∀ k, F' k → w.heap.size ≤ k) ∧ Below w.heap.size w w' := by
  have hE6 : E ≤ 5 := by rw [HE.out]; unfold grpB; split <;> omega
  have hB1 : BsF (fun k => w.heap.size ≤ k ∧ k < w.heap.size + 2) w1 a m pp := by
    refine ⟨hB.below hb1, fun x hx hl hF => ?_⟩
    have e : (x.add 0).block = x.block := by unfold Addr.add; split <;> rfl
    have := block_lt_of_cell (hB.2.2.2.2 x hx 0 hl)
    omega
  have hS1 : Sound5 w1 (fun k => w.heap.size ≤ k ∧ k < w.heap.size + 2) := ⟨hT.below hb1, fun hF => by have := hT.lt; omega, fun k hk => by rw [hs1]; exact hk.2⟩
  refine (sstoreAll_new w1 d _ 0 _ 40 g pp E hD1 hS1 rfl ⟨#[120]⟩ x0 x1 x2 x3 (by decide) (hidn (by decide +kernel)) (hidn (by decide +kernel)) (hidn (by decide +kernel)) (hidn (by decide +kernel)) (hidn nameX_ok) (hidn (fun _ _ => rfl)) (hidn (fun k hk => diskX_other g pp E k k (Nat.le_refl _) hk)) hg a m cap hB1 hcap (by omega) HE (by unfold maxLen; omega) (by omega) (by omega)).mono ?_
  rintro e w' ⟨rfl, F', hD, hG⟩
  rw [Nat.zero_add] at hD
  exact ⟨rfl, F', hD, hS1.gr hG, hG.ge (by omega) (fun k hk => hk.1), hb1.trans (hG.1.below hb1.size (fun k hk => hk.1))⟩

end Go.Proofs.YtdbogbiklabmkaaDoor
