import Derived.Test.YtdbogbiklabmkaaDoorStrB
import Derived.Test.YtdbogbiklabmkaaDoorExtLaws
import Derived.Laws.AppendOwnNone
/- Stripes: a slot is read. -/
namespace Go.Proofs.YtdbogbiklabmkaaDoor
open Go.RowKit Go.Maps
set_option linter.unusedVariables false

theorem read_call_run {o : Oper} {a : Act} {w : World} {x y z : Nat} {vx vy vz : Value} (ho : o.op = Op.call { callee := Callee.value (Operand.func 12), args := #[.tmp x, .tmp y, .tmp z], argTypes := #[24, 9, 3] }) (hx : a.eval (.tmp x) = vx) (hy : a.eval (.tmp y) = vy) (hz : a.eval (.tmp z) = vz) : (execOp a.eval o).run Tryd.prog w = .ok (.enter 12 #[vx, vy, vz]) w := by
  simp [go_sem, execOp, ho, resolve, invoke]
  exact ⟨by simpa [Act.eval] using hx, by simpa [Act.eval] using hy, by simpa [Act.eval] using hz⟩

theorem results_row_tmp {fn : Func} {p u : Tmp} {v : Value} (h : fn.results = #[.cell p 65, .tmp u]) (tmps : Array Value) (w : World) (g : Nat) (t : TypeId) (cs : Array Value) (fr : Nat × Nat)
    (hp : tmps.getD p undef = .pointer (some ⟨g, 0, none⟩)) (hv : tmps.getD u undef = v) (hg : w.heap[g]? = some (.cells cs t fr)) (hi : (Tryd.prog.info? 65).map (·.size) = some cs.size) :
    (results fn tmps).run Tryd.prog w = .ok (.tuple #[.agg cs, v]) w := by
  have hp' : tmps[p]?.getD undef = .pointer (some ⟨g, 0, none⟩) := by simpa using hp
  have hv' : tmps[u]?.getD undef = v := by simpa using hv
  simp [results, h, hp', hv', asAddr, run_loadVar_row w g t 65 cs fr _ hg Tryd.underlying65 rfl hi]

set_option maxHeartbeats 2000000 in
theorem sread_none (w : World) (d g : Nat) (F : Nat → Prop) (N : Nat) (M : List UInt8 → List Ext) (free fuse : Int) (h : DiskOf w d F N M free fuse) (hT : CrcTab w) (sb f i : Nat) (f0 f1 f2 f3 fn : ByteArray) (hA : StripeAt w sb d f0 f1 f2 f3 g) (hf : f < 4) (HFN : Hid (fn = nameF f0 f1 f2 f3 f)) (hsm : fn.size ≤ maxLen) (n : Nat) (HN : Hid (n = (M fn.data.toList).length)) (hi : n ≤ i) (L : List Nat) (HL : Hid (L = List.replicate 106 0)) :
    Calls Tryd.prog 31 #[.pointer (some ⟨sb, 0, none⟩), .int .i64 f, .int .i64 i] w fun e w' => e = .returned (.tuple #[.agg (vb L).toArray, .bool false]) ∧ Below w.heap.size w w' := by
  have HI := hidn hi
  have lL : L.length = 106 := by rw [HL.out]; rfl
  have HLL := hidn lL
  clear lL
  obtain ⟨hz, hzs⟩ := zero_of_info Tryd.infoSlot
  obtain ⟨c0, hc0⟩ : ∃ c0, c0 = List.replicate 106 0 := ⟨_, rfl⟩
  rw [← hc0] at hz
  have HC0 := hidn hc0
  have l0 : (vb c0).toArray.size = 106 := by rw [hc0]; rfl
  have HL0 := hidn l0
  have HZS := hidn hzs
  have HSM := hidn hsm
  have HIX := hidn (fun wx => file_index sb f hf wx)
  have HNAME : Hid (∀ wx : World, StripeAt wx sb d f0 f1 f2 f3 g → wx.cell? ⟨sb, 1 + f, none⟩ = some (.string fn)) := hidn (fun wx hx => by rw [HFN.out]; exact hx.name f hf)
  have HA := hidn hA
  have HT := hidn hT
  have HD := hidn h
  have HF := hidn hf
  clear hc0 l0 hzs hsm hA hT h hf
  go_enter Tryd.func31, Tryd.ntmps31
  go_wp2_with fail
  have hbel1 : Below w.heap.size w (w.alloc (.cells (vb c0).toArray 65)).drew := ((Below.refl _ _).alloc (Nat.le_refl _) _).drew
  have hr1 : (w.alloc (.cells (vb c0).toArray 65)).drew.heap[w.heap.size]? = some (.cells (vb c0).toArray 65 (0, 0)) := heap_alloc_new _ _
  obtain ⟨w0, hw0⟩ : ∃ w0, w0 = (w.alloc (.cells (vb c0).toArray 65)).drew := ⟨_, rfl⟩
  rw [← hw0] at hbel1 hr1
  have hA0 := HA.out.below hbel1
  have HC := hidn (And.intro (HNAME.out _ hA0) hA0.disk)
  have HW0 := hidn hw0
  clear hw0
  refine wp_region_noPanic ?_
  refine wp_region_held_drew (S := fun w' => w'.cell? ⟨sb, 1 + f, none⟩ = some (.string fn) ∧ w'.cell? ⟨sb, 0, none⟩ = some (.pointer (some ⟨d, 0, none⟩))) (by kernel_rfl) (HW0.out ▸ HC.out) (fun hHeld => ?_)
  rw [← HW0.out]
  rw [← HW0.out] at hHeld
  refine drawn_take (i := 0) (v := .pointer (some ⟨sb, 0, none⟩)) (some 14) rfl rfl (by kernel_rfl) (by kernel_rfl) (by kernel_rfl) (fun _ _ _ h => h) (Or.inl ⟨by kernel_rfl, fun wq hw => by go_simp⟩) hHeld ?_
  simp only [Act.put, List.setIfInBounds_toArray, List.set_cons_succ, List.set_cons_zero]
  refine drawn_take (i := 1) (v := .pointer (some ⟨sb, 0, none⟩)) (some 15) rfl rfl (by kernel_rfl) (by kernel_rfl) (by kernel_rfl) (fun _ _ _ h => h) (Or.inl ⟨by kernel_rfl, fun wq hw => by go_simp⟩) hHeld ?_
  simp only [Act.put, List.setIfInBounds_toArray, List.set_cons_succ, List.set_cons_zero]
  refine drawn_take (i := 2) (v := .pointer (some ⟨sb, 0, none⟩)) (some 16) rfl rfl (by kernel_rfl) (by kernel_rfl) (by kernel_rfl) (fun _ _ _ h => h) (Or.inl ⟨by kernel_rfl, fun wq hw => by go_simp⟩) hHeld ?_
  simp only [Act.put, List.setIfInBounds_toArray, List.set_cons_succ, List.set_cons_zero]
  refine drawn_take (i := 3) (v := .pointer (some ⟨d, 0, none⟩)) (some 17) rfl rfl (by kernel_rfl) (by kernel_rfl) (by kernel_rfl) (fun _ _ _ h => h) (Or.inl ⟨by kernel_rfl, fun wq hw => load_run (x := .tmp 16) (vx := .pointer (some ⟨sb, 0, none⟩)) (by kernel_rfl) (by kernel_rfl) (load_ptr hw.2)⟩) hHeld ?_
  refine drawn_take (i := 4) (v := .pointer (some ⟨sb, 0, none⟩)) (some 18) rfl rfl (by kernel_rfl) (by kernel_rfl) (by kernel_rfl) (fun _ _ _ h => h) (Or.inl ⟨by kernel_rfl, fun wq hw => by go_simp⟩) hHeld ?_
  refine drawn_take (i := 5) (v := .int .i64 (f : Int)) (some 19) rfl rfl (by kernel_rfl) (by kernel_rfl) (by kernel_rfl) (fun _ _ _ h => h) (Or.inl ⟨by kernel_rfl, fun wq hw => by go_simp⟩) hHeld ?_
  simp only [Act.put, List.setIfInBounds_toArray, List.set_cons_succ, List.set_cons_zero]
  refine drawn_take (i := 6) (v := .pointer (some ⟨sb, 0, none⟩)) (some 20) rfl rfl (by kernel_rfl) (by kernel_rfl) (by kernel_rfl) (fun _ _ _ h => h) (Or.inl ⟨by kernel_rfl, fun wq hw => by go_simp⟩) hHeld ?_
  simp only [Act.put, List.setIfInBounds_toArray, List.set_cons_succ, List.set_cons_zero]
  refine drawn_take (i := 7) (v := .pointer (some ⟨sb, 1, none⟩)) (some 21) rfl rfl (by kernel_rfl) (by kernel_rfl) (by kernel_rfl) (fun _ _ _ h => h) (Or.inl ⟨by kernel_rfl, fun wq hw => by go_simp⟩) hHeld ?_
  simp only [Act.put, List.setIfInBounds_toArray, List.set_cons_succ, List.set_cons_zero]
  refine drawn_take (i := 8) (v := .pointer (some ⟨sb, 1 + f, none⟩)) (some 22) rfl rfl (by kernel_rfl) (by kernel_rfl) (by kernel_rfl) (fun _ _ _ h => h) (Or.inl ⟨by kernel_rfl, fun wq hw => idx_run (x := .tmp 21) (y := .tmp 19) (vx := .pointer (some ⟨sb, 1, none⟩)) (vy := .int .i64 (f : Int)) (by kernel_rfl) (by kernel_rfl) (by kernel_rfl) (HIX.out wq)⟩) hHeld ?_
  simp only [Act.put, List.setIfInBounds_toArray, List.set_cons_succ, List.set_cons_zero]
  refine drawn_take (i := 9) (v := .string fn) (some 23) rfl rfl (by kernel_rfl) (by kernel_rfl) (by kernel_rfl) (fun _ _ _ h => h) (Or.inl ⟨by kernel_rfl, fun wq hw => load_run (x := .tmp 22) (vx := .pointer (some ⟨sb, 1 + f, none⟩)) (by kernel_rfl) (by kernel_rfl) (load_str hw.1)⟩) hHeld ?_
  refine drawn_take (i := 10) (v := .int .i64 (i : Int)) (some 24) rfl rfl (by kernel_rfl) (by kernel_rfl) (by kernel_rfl) (fun _ _ _ h => h) (Or.inl ⟨by kernel_rfl, fun wq hw => by go_simp⟩) hHeld ?_
  simp only [Act.put, List.setIfInBounds_toArray, List.set_cons_succ, List.set_cons_zero]
  refine wpAnyH_ready (rs := [11]) (by kernel_rfl) (by simp) ?_
  refine rdy_call (i := 11) rfl rfl (some 25) rfl 12 #[.pointer (some ⟨d, 0, none⟩), .string fn, .int .i64 (i : Int)] (read_call_run (x := 17) (y := 23) (z := 24) (by kernel_rfl) (by kernel_rfl) (by kernel_rfl) (by kernel_rfl)) (fun v w' => v = .tuple #[.slice none 0 0, .int .i64 30] ∧ Below w0.heap.size w0 w') ((diskRead_none _ d F N M free fuse (HD.out.below hbel1) fn HSM.out (i : Int) n HN (Or.inr (by have := HI.out; omega))).mono fun e w' hh => ⟨_, hh.1, rfl, hh.2⟩) (fun v w5 hR => ?_) rdy_nil
  obtain ⟨rfl, hbl5⟩ := hR
  have hA5 := hA0.below hbl5
  refine ⟨⟨HNAME.out _ hA5, hA5.disk⟩, fun hHeld => ?_⟩
  simp only [Act.put, List.setIfInBounds_toArray, List.set_cons_succ, List.set_cons_zero]
  refine drawn_take (i := 12) (v := .tuple #[.slice none 0 0, .int .i64 30]) (some 13) rfl rfl (by kernel_rfl) (by kernel_rfl) (by kernel_rfl) (fun _ _ _ h => h) (Or.inl ⟨by kernel_rfl, fun wq hw => by go_simp⟩) hHeld ?_
  simp only [Act.put, List.setIfInBounds_toArray, List.set_cons_succ, List.set_cons_zero]
  refine drawn_take (i := 13) (v := .slice none 0 0) (some 26) rfl rfl (by kernel_rfl) (by kernel_rfl) (by kernel_rfl) (fun _ _ _ h => h) (Or.inl ⟨by kernel_rfl, fun wq hw => by go_simp⟩) hHeld ?_
  refine drawn_take (i := 14) (v := .int .i64 30) (some 27) rfl rfl (by kernel_rfl) (by kernel_rfl) (by kernel_rfl) (fun _ _ _ h => h) (Or.inl ⟨by kernel_rfl, fun wq hw => by go_simp⟩) hHeld ?_
  simp only [Act.put, List.setIfInBounds_toArray, List.set_cons_succ, List.set_cons_zero]
  refine drawn_take (i := 15) (v := .slice none 0 0) (some 8) rfl rfl (by kernel_rfl) (by kernel_rfl) (by kernel_rfl) (fun _ _ _ h => h) (Or.inl ⟨by kernel_rfl, fun wq hw => by go_simp⟩) hHeld ?_
  refine drawn_take (i := 16) (v := .int .i64 30) (some 9) rfl rfl (by kernel_rfl) (by kernel_rfl) (by kernel_rfl) (fun _ _ _ h => h) (Or.inl ⟨by kernel_rfl, fun wq hw => by go_simp⟩) hHeld ?_
  simp only [Act.put, List.setIfInBounds_toArray, List.set_cons_succ, List.set_cons_zero]
  refine wpAnyH_done (by kernel_rfl) ?_ _
  refine NoPanic.normal ?_
  have hbw5 : Below w.heap.size w w5 := hbel1.trans (hbl5.mono hbel1.size)
  have HR5 := hidn ((hbl5.block _ ((Array.getElem?_eq_some_iff.1 hr1).1)).trans hr1)
  have hlt5 : w.heap.size < w5.heap.size := (Array.getElem?_eq_some_iff.1 HR5.out).1
  have HLT5 := hidn hlt5
  have HA5 := hidn hA5
  have HBW5 := hidn hbw5
  have hcn5 := HNAME.out _ hA5
  have hix := HIX.out
  clear hHeld hbl5 hA5 hbw5 hA0 hr1 HC HW0 hlt5 hbel1
  go_wp2_with fail
  refine (open_short fn (i : Int) none 0 0 _ (by omega)).mono ?_
  rintro e w7 ⟨rfl, hb7⟩
  have HR8 := hidn ((hb7.block _ HLT5.out).trans HR5.out)
  have HB8 := hidn (HBW5.out.trans (hb7.mono HBW5.out.size))
  have hg7 := (HA5.out.below hb7).gen
  clear hb7 hcn5
  have HSZ : Hid ((Tryd.prog.info? 65).map (·.size) = some (vb L).toArray.size) := hidn (by rw [HZS.out]; simp [length_vb, HLL.out])
  have HOLD : Hid ((vb c0).toArray.size = (vb L).toArray.size) := hidn (by rw [HL0.out]; simp [length_vb, HLL.out])
  obtain rfl : c0 = L := by rw [HC0.out, HL.out]
  repeat (first
    | (with_reducible refine wpList_store_row (by rfl) 65 (.tmp 6) (.tmp 51) (by rfl) w.heap.size (vb c0).toArray (by kernel_rfl) (by kernel_rfl) 65 (vb c0).toArray HR8.out HSZ.out HOLD.out image_all ?_)
    | go_values | go_skip | go_guarded | go_step | go_upon | (simp only []))
  exact bodyPost_ret (v := .tuple #[.agg (vb c0).toArray, .bool false]) (results_row_tmp rfl _ _ w.heap.size 65 _ (0, 0) (by kernel_rfl) (by kernel_rfl) (setRow_heap _ _ _ _ _ _ HR8.out) HSZ.out) rfl ⟨rfl, below_setRow HB8.out (Nat.le_refl _) _⟩


set_option maxHeartbeats 2000000 in
theorem sread_bad (w : World) (d g : Nat) (F : Nat → Prop) (N : Nat) (M : List UInt8 → List Ext) (free fuse : Int) (h : DiskOf w d F N M free fuse) (hT : CrcTab w) (sb f i : Nat) (f0 f1 f2 f3 fn : ByteArray) (hA : StripeAt w sb d f0 f1 f2 f3 g) (hf : f < 4) (HFN : Hid (fn = nameF f0 f1 f2 f3 f)) (hsm : fn.size ≤ maxLen) (n : Nat) (HN : Hid (n = (M fn.data.toList).length)) (hi : i < n) (im : List Nat) (x : Ext) (HX : Hid ((M fn.data.toList)[i]? = some x)) (HM : Hid (im = x.rd)) (HO : Hid (openB im (nums fn) (i : Int) = none)) (L : List Nat) (HL : Hid (L = List.replicate 106 0)) :
    Calls Tryd.prog 31 #[.pointer (some ⟨sb, 0, none⟩), .int .i64 f, .int .i64 i] w fun e w' => e = .returned (.tuple #[.agg (vb L).toArray, .bool false]) ∧ Below w.heap.size w w' := by
  have HI := hidn hi
  have lL : L.length = 106 := by rw [HL.out]; rfl
  have HLL := hidn lL
  clear lL
  obtain ⟨hz, hzs⟩ := zero_of_info Tryd.infoSlot
  obtain ⟨c0, hc0⟩ : ∃ c0, c0 = List.replicate 106 0 := ⟨_, rfl⟩
  rw [← hc0] at hz
  have HC0 := hidn hc0
  have l0 : (vb c0).toArray.size = 106 := by rw [hc0]; rfl
  have HL0 := hidn l0
  have HZS := hidn hzs
  have HSM := hidn hsm
  have HIX := hidn (fun wx => file_index sb f hf wx)
  have HNAME : Hid (∀ wx : World, StripeAt wx sb d f0 f1 f2 f3 g → wx.cell? ⟨sb, 1 + f, none⟩ = some (.string fn)) := hidn (fun wx hx => by rw [HFN.out]; exact hx.name f hf)
  have HA := hidn hA
  have HT := hidn hT
  have HD := hidn h
  have HF := hidn hf
  clear hc0 l0 hzs hsm hA hT h hf
  go_enter Tryd.func31, Tryd.ntmps31
  go_wp2_with fail
  have hbel1 : Below w.heap.size w (w.alloc (.cells (vb c0).toArray 65)).drew := ((Below.refl _ _).alloc (Nat.le_refl _) _).drew
  have hr1 : (w.alloc (.cells (vb c0).toArray 65)).drew.heap[w.heap.size]? = some (.cells (vb c0).toArray 65 (0, 0)) := heap_alloc_new _ _
  obtain ⟨w0, hw0⟩ : ∃ w0, w0 = (w.alloc (.cells (vb c0).toArray 65)).drew := ⟨_, rfl⟩
  rw [← hw0] at hbel1 hr1
  have hA0 := HA.out.below hbel1
  have HC := hidn (And.intro (HNAME.out _ hA0) hA0.disk)
  have HW0 := hidn hw0
  clear hw0
  refine wp_region_noPanic ?_
  refine wp_region_held_drew (S := fun w' => w'.cell? ⟨sb, 1 + f, none⟩ = some (.string fn) ∧ w'.cell? ⟨sb, 0, none⟩ = some (.pointer (some ⟨d, 0, none⟩))) (by kernel_rfl) (HW0.out ▸ HC.out) (fun hHeld => ?_)
  rw [← HW0.out]
  rw [← HW0.out] at hHeld
  refine drawn_take (i := 0) (v := .pointer (some ⟨sb, 0, none⟩)) (some 14) rfl rfl (by kernel_rfl) (by kernel_rfl) (by kernel_rfl) (fun _ _ _ h => h) (Or.inl ⟨by kernel_rfl, fun wq hw => by go_simp⟩) hHeld ?_
  simp only [Act.put, List.setIfInBounds_toArray, List.set_cons_succ, List.set_cons_zero]
  refine drawn_take (i := 1) (v := .pointer (some ⟨sb, 0, none⟩)) (some 15) rfl rfl (by kernel_rfl) (by kernel_rfl) (by kernel_rfl) (fun _ _ _ h => h) (Or.inl ⟨by kernel_rfl, fun wq hw => by go_simp⟩) hHeld ?_
  simp only [Act.put, List.setIfInBounds_toArray, List.set_cons_succ, List.set_cons_zero]
  refine drawn_take (i := 2) (v := .pointer (some ⟨sb, 0, none⟩)) (some 16) rfl rfl (by kernel_rfl) (by kernel_rfl) (by kernel_rfl) (fun _ _ _ h => h) (Or.inl ⟨by kernel_rfl, fun wq hw => by go_simp⟩) hHeld ?_
  simp only [Act.put, List.setIfInBounds_toArray, List.set_cons_succ, List.set_cons_zero]
  refine drawn_take (i := 3) (v := .pointer (some ⟨d, 0, none⟩)) (some 17) rfl rfl (by kernel_rfl) (by kernel_rfl) (by kernel_rfl) (fun _ _ _ h => h) (Or.inl ⟨by kernel_rfl, fun wq hw => load_run (x := .tmp 16) (vx := .pointer (some ⟨sb, 0, none⟩)) (by kernel_rfl) (by kernel_rfl) (load_ptr hw.2)⟩) hHeld ?_
  refine drawn_take (i := 4) (v := .pointer (some ⟨sb, 0, none⟩)) (some 18) rfl rfl (by kernel_rfl) (by kernel_rfl) (by kernel_rfl) (fun _ _ _ h => h) (Or.inl ⟨by kernel_rfl, fun wq hw => by go_simp⟩) hHeld ?_
  refine drawn_take (i := 5) (v := .int .i64 (f : Int)) (some 19) rfl rfl (by kernel_rfl) (by kernel_rfl) (by kernel_rfl) (fun _ _ _ h => h) (Or.inl ⟨by kernel_rfl, fun wq hw => by go_simp⟩) hHeld ?_
  simp only [Act.put, List.setIfInBounds_toArray, List.set_cons_succ, List.set_cons_zero]
  refine drawn_take (i := 6) (v := .pointer (some ⟨sb, 0, none⟩)) (some 20) rfl rfl (by kernel_rfl) (by kernel_rfl) (by kernel_rfl) (fun _ _ _ h => h) (Or.inl ⟨by kernel_rfl, fun wq hw => by go_simp⟩) hHeld ?_
  simp only [Act.put, List.setIfInBounds_toArray, List.set_cons_succ, List.set_cons_zero]
  refine drawn_take (i := 7) (v := .pointer (some ⟨sb, 1, none⟩)) (some 21) rfl rfl (by kernel_rfl) (by kernel_rfl) (by kernel_rfl) (fun _ _ _ h => h) (Or.inl ⟨by kernel_rfl, fun wq hw => by go_simp⟩) hHeld ?_
  simp only [Act.put, List.setIfInBounds_toArray, List.set_cons_succ, List.set_cons_zero]
  refine drawn_take (i := 8) (v := .pointer (some ⟨sb, 1 + f, none⟩)) (some 22) rfl rfl (by kernel_rfl) (by kernel_rfl) (by kernel_rfl) (fun _ _ _ h => h) (Or.inl ⟨by kernel_rfl, fun wq hw => idx_run (x := .tmp 21) (y := .tmp 19) (vx := .pointer (some ⟨sb, 1, none⟩)) (vy := .int .i64 (f : Int)) (by kernel_rfl) (by kernel_rfl) (by kernel_rfl) (HIX.out wq)⟩) hHeld ?_
  simp only [Act.put, List.setIfInBounds_toArray, List.set_cons_succ, List.set_cons_zero]
  refine drawn_take (i := 9) (v := .string fn) (some 23) rfl rfl (by kernel_rfl) (by kernel_rfl) (by kernel_rfl) (fun _ _ _ h => h) (Or.inl ⟨by kernel_rfl, fun wq hw => load_run (x := .tmp 22) (vx := .pointer (some ⟨sb, 1 + f, none⟩)) (by kernel_rfl) (by kernel_rfl) (load_str hw.1)⟩) hHeld ?_
  refine drawn_take (i := 10) (v := .int .i64 (i : Int)) (some 24) rfl rfl (by kernel_rfl) (by kernel_rfl) (by kernel_rfl) (fun _ _ _ h => h) (Or.inl ⟨by kernel_rfl, fun wq hw => by go_simp⟩) hHeld ?_
  simp only [Act.put, List.setIfInBounds_toArray, List.set_cons_succ, List.set_cons_zero]
  refine wpAnyH_ready (rs := [11]) (by kernel_rfl) (by simp) ?_
  refine rdy_call (i := 11) rfl rfl (some 25) rfl 12 #[.pointer (some ⟨d, 0, none⟩), .string fn, .int .i64 (i : Int)] (read_call_run (x := 17) (y := 23) (z := 24) (by kernel_rfl) (by kernel_rfl) (by kernel_rfl) (by kernel_rfl)) (fun v w' => ∃ b, v = .tuple #[.slice (some ⟨b, 0, none⟩) 128 128, .int .i64 0] ∧ w0.heap.size ≤ b ∧ Bs w' (some ⟨b, 0, none⟩) 128 im ∧ Below w0.heap.size w0 w') ((diskRead_some _ d F N M free fuse (HD.out.below hbel1) fn HSM.out i n (i * 385) HN HI.out rfl im x HX HM).mono fun e w' hh => by obtain ⟨b, h1, h2, h3, h4⟩ := hh; exact ⟨_, h1, b, rfl, h2, h3, h4⟩) (fun v w5 hR => ?_) rdy_nil
  obtain ⟨b5, rfl, _, hB5, hbl5⟩ := hR
  have hA5 := hA0.below hbl5
  refine ⟨⟨HNAME.out _ hA5, hA5.disk⟩, fun hHeld => ?_⟩
  simp only [Act.put, List.setIfInBounds_toArray, List.set_cons_succ, List.set_cons_zero]
  refine drawn_take (i := 12) (v := .tuple #[.slice (some ⟨b5, 0, none⟩) 128 128, .int .i64 0]) (some 13) rfl rfl (by kernel_rfl) (by kernel_rfl) (by kernel_rfl) (fun _ _ _ h => h) (Or.inl ⟨by kernel_rfl, fun wq hw => by go_simp⟩) hHeld ?_
  simp only [Act.put, List.setIfInBounds_toArray, List.set_cons_succ, List.set_cons_zero]
  refine drawn_take (i := 13) (v := .slice (some ⟨b5, 0, none⟩) 128 128) (some 26) rfl rfl (by kernel_rfl) (by kernel_rfl) (by kernel_rfl) (fun _ _ _ h => h) (Or.inl ⟨by kernel_rfl, fun wq hw => by go_simp⟩) hHeld ?_
  refine drawn_take (i := 14) (v := .int .i64 0) (some 27) rfl rfl (by kernel_rfl) (by kernel_rfl) (by kernel_rfl) (fun _ _ _ h => h) (Or.inl ⟨by kernel_rfl, fun wq hw => by go_simp⟩) hHeld ?_
  simp only [Act.put, List.setIfInBounds_toArray, List.set_cons_succ, List.set_cons_zero]
  refine drawn_take (i := 15) (v := .slice (some ⟨b5, 0, none⟩) 128 128) (some 8) rfl rfl (by kernel_rfl) (by kernel_rfl) (by kernel_rfl) (fun _ _ _ h => h) (Or.inl ⟨by kernel_rfl, fun wq hw => by go_simp⟩) hHeld ?_
  refine drawn_take (i := 16) (v := .int .i64 0) (some 9) rfl rfl (by kernel_rfl) (by kernel_rfl) (by kernel_rfl) (fun _ _ _ h => h) (Or.inl ⟨by kernel_rfl, fun wq hw => by go_simp⟩) hHeld ?_
  simp only [Act.put, List.setIfInBounds_toArray, List.set_cons_succ, List.set_cons_zero]
  refine wpAnyH_done (by kernel_rfl) ?_ _
  refine NoPanic.normal ?_
  have hbw5 : Below w.heap.size w w5 := hbel1.trans (hbl5.mono hbel1.size)
  have HR5 := hidn ((hbl5.block _ ((Array.getElem?_eq_some_iff.1 hr1).1)).trans hr1)
  have hlt5 : w.heap.size < w5.heap.size := (Array.getElem?_eq_some_iff.1 HR5.out).1
  have HLT5 := hidn hlt5
  have HA5 := hidn hA5
  have HBW5 := hidn hbw5
  have hcn5 := HNAME.out _ hA5
  have hix := HIX.out
  clear hHeld hbl5 hA5 hbw5 hA0 hr1 HC HW0 hlt5 hbel1
  have HB5 := hidn hB5
  clear hB5
  go_wp2_with fail
  refine (open_no fn (i : Int) b5 0 128 im _ HB5.out (Nat.le_refl _) (HT.out.below HBW5.out) HSM.out HO).mono ?_
  rintro e w7 ⟨rfl, hb7⟩
  have HR8 := hidn ((hb7.block _ HLT5.out).trans HR5.out)
  have HB8 := hidn (HBW5.out.trans (hb7.mono HBW5.out.size))
  have hg7 := (HA5.out.below hb7).gen
  clear hb7 hcn5
  have HSZ : Hid ((Tryd.prog.info? 65).map (·.size) = some (vb L).toArray.size) := hidn (by rw [HZS.out]; simp [length_vb, HLL.out])
  have HOLD : Hid ((vb c0).toArray.size = (vb L).toArray.size) := hidn (by rw [HL0.out]; simp [length_vb, HLL.out])
  obtain rfl : c0 = L := by rw [HC0.out, HL.out]
  repeat (first
    | (with_reducible refine wpList_store_row (by rfl) 65 (.tmp 6) (.tmp 51) (by rfl) w.heap.size (vb c0).toArray (by kernel_rfl) (by kernel_rfl) 65 (vb c0).toArray HR8.out HSZ.out HOLD.out image_all ?_)
    | go_values | go_skip | go_guarded | go_step | go_upon | (simp only []))
  exact bodyPost_ret (v := .tuple #[.agg (vb c0).toArray, .bool false]) (results_row_tmp rfl _ _ w.heap.size 65 _ (0, 0) (by kernel_rfl) (by kernel_rfl) (setRow_heap _ _ _ _ _ _ HR8.out) HSZ.out) rfl ⟨rfl, below_setRow HB8.out (Nat.le_refl _) _⟩

set_option maxHeartbeats 2000000 in
theorem sread_part (w : World) (d g : Nat) (F : Nat → Prop) (N : Nat) (M : List UInt8 → List Ext) (free fuse : Int) (h : DiskOf w d F N M free fuse) (hT : CrcTab w) (sb f i : Nat) (f0 f1 f2 f3 fn : ByteArray) (hA : StripeAt w sb d f0 f1 f2 f3 g) (hf : f < 4) (HFN : Hid (fn = nameF f0 f1 f2 f3 f)) (hsm : fn.size ≤ maxLen) (hf3 : f < 3) (n : Nat) (HN : Hid (n = (M fn.data.toList).length)) (hi : i < n) (im : List Nat) (x : Ext) (HX : Hid ((M fn.data.toList)[i]? = some x)) (HM : Hid (im = x.rd)) (p : List Nat) (pl : Nat) (hpl : p.length = pl) (hp5 : pl ≤ 105) (hpb : ∀ x ∈ p, x < 256) (HO : Hid (openB im (nums fn) (i : Int) = some (p, g))) (L : List Nat) (HL : Hid (L = slotB p)) :
    Calls Tryd.prog 31 #[.pointer (some ⟨sb, 0, none⟩), .int .i64 f, .int .i64 i] w fun e w' => e = .returned (.tuple #[.agg (vb L).toArray, .bool true]) ∧ Below w.heap.size w w' := by
  have HI := hidn hi
  have lL : L.length = 106 := by rw [HL.out]; exact slotB_length p (by omega)
  have HLL := hidn lL
  have HPL := hidn hpl
  have HP5 := hidn hp5
  have HPB := hidn hpb
  have hne3 : ((f : Int) == 3) = false := beq_eq_false_iff_ne.2 (by omega)
  have hgt : decide ((105 : Int) < (pl : Int)) = false := decide_eq_false (by omega)
  have hgt2 : decide (105 < pl) = false := decide_eq_false (by omega)
  clear lL hpl hpb hp5
  obtain ⟨hz, hzs⟩ := zero_of_info Tryd.infoSlot
  obtain ⟨c0, hc0⟩ : ∃ c0, c0 = List.replicate 106 0 := ⟨_, rfl⟩
  rw [← hc0] at hz
  have HC0 := hidn hc0
  have l0 : (vb c0).toArray.size = 106 := by rw [hc0]; rfl
  have HL0 := hidn l0
  have HZS := hidn hzs
  have HSM := hidn hsm
  have HIX := hidn (fun wx => file_index sb f hf wx)
  have HNAME : Hid (∀ wx : World, StripeAt wx sb d f0 f1 f2 f3 g → wx.cell? ⟨sb, 1 + f, none⟩ = some (.string fn)) := hidn (fun wx hx => by rw [HFN.out]; exact hx.name f hf)
  have HA := hidn hA
  have HT := hidn hT
  have HD := hidn h
  have HF := hidn hf
  clear hc0 l0 hzs hsm hA hT h hf
  go_enter Tryd.func31, Tryd.ntmps31
  go_wp2_with fail
  have hbel1 : Below w.heap.size w (w.alloc (.cells (vb c0).toArray 65)).drew := ((Below.refl _ _).alloc (Nat.le_refl _) _).drew
  have hr1 : (w.alloc (.cells (vb c0).toArray 65)).drew.heap[w.heap.size]? = some (.cells (vb c0).toArray 65 (0, 0)) := heap_alloc_new _ _
  obtain ⟨w0, hw0⟩ : ∃ w0, w0 = (w.alloc (.cells (vb c0).toArray 65)).drew := ⟨_, rfl⟩
  rw [← hw0] at hbel1 hr1
  have hA0 := HA.out.below hbel1
  have HC := hidn (And.intro (HNAME.out _ hA0) hA0.disk)
  have HW0 := hidn hw0
  clear hw0
  refine wp_region_noPanic ?_
  refine wp_region_held_drew (S := fun w' => w'.cell? ⟨sb, 1 + f, none⟩ = some (.string fn) ∧ w'.cell? ⟨sb, 0, none⟩ = some (.pointer (some ⟨d, 0, none⟩))) (by kernel_rfl) (HW0.out ▸ HC.out) (fun hHeld => ?_)
  rw [← HW0.out]
  rw [← HW0.out] at hHeld
  refine drawn_take (i := 0) (v := .pointer (some ⟨sb, 0, none⟩)) (some 14) rfl rfl (by kernel_rfl) (by kernel_rfl) (by kernel_rfl) (fun _ _ _ h => h) (Or.inl ⟨by kernel_rfl, fun wq hw => by go_simp⟩) hHeld ?_
  simp only [Act.put, List.setIfInBounds_toArray, List.set_cons_succ, List.set_cons_zero]
  refine drawn_take (i := 1) (v := .pointer (some ⟨sb, 0, none⟩)) (some 15) rfl rfl (by kernel_rfl) (by kernel_rfl) (by kernel_rfl) (fun _ _ _ h => h) (Or.inl ⟨by kernel_rfl, fun wq hw => by go_simp⟩) hHeld ?_
  simp only [Act.put, List.setIfInBounds_toArray, List.set_cons_succ, List.set_cons_zero]
  refine drawn_take (i := 2) (v := .pointer (some ⟨sb, 0, none⟩)) (some 16) rfl rfl (by kernel_rfl) (by kernel_rfl) (by kernel_rfl) (fun _ _ _ h => h) (Or.inl ⟨by kernel_rfl, fun wq hw => by go_simp⟩) hHeld ?_
  simp only [Act.put, List.setIfInBounds_toArray, List.set_cons_succ, List.set_cons_zero]
  refine drawn_take (i := 3) (v := .pointer (some ⟨d, 0, none⟩)) (some 17) rfl rfl (by kernel_rfl) (by kernel_rfl) (by kernel_rfl) (fun _ _ _ h => h) (Or.inl ⟨by kernel_rfl, fun wq hw => load_run (x := .tmp 16) (vx := .pointer (some ⟨sb, 0, none⟩)) (by kernel_rfl) (by kernel_rfl) (load_ptr hw.2)⟩) hHeld ?_
  refine drawn_take (i := 4) (v := .pointer (some ⟨sb, 0, none⟩)) (some 18) rfl rfl (by kernel_rfl) (by kernel_rfl) (by kernel_rfl) (fun _ _ _ h => h) (Or.inl ⟨by kernel_rfl, fun wq hw => by go_simp⟩) hHeld ?_
  refine drawn_take (i := 5) (v := .int .i64 (f : Int)) (some 19) rfl rfl (by kernel_rfl) (by kernel_rfl) (by kernel_rfl) (fun _ _ _ h => h) (Or.inl ⟨by kernel_rfl, fun wq hw => by go_simp⟩) hHeld ?_
  simp only [Act.put, List.setIfInBounds_toArray, List.set_cons_succ, List.set_cons_zero]
  refine drawn_take (i := 6) (v := .pointer (some ⟨sb, 0, none⟩)) (some 20) rfl rfl (by kernel_rfl) (by kernel_rfl) (by kernel_rfl) (fun _ _ _ h => h) (Or.inl ⟨by kernel_rfl, fun wq hw => by go_simp⟩) hHeld ?_
  simp only [Act.put, List.setIfInBounds_toArray, List.set_cons_succ, List.set_cons_zero]
  refine drawn_take (i := 7) (v := .pointer (some ⟨sb, 1, none⟩)) (some 21) rfl rfl (by kernel_rfl) (by kernel_rfl) (by kernel_rfl) (fun _ _ _ h => h) (Or.inl ⟨by kernel_rfl, fun wq hw => by go_simp⟩) hHeld ?_
  simp only [Act.put, List.setIfInBounds_toArray, List.set_cons_succ, List.set_cons_zero]
  refine drawn_take (i := 8) (v := .pointer (some ⟨sb, 1 + f, none⟩)) (some 22) rfl rfl (by kernel_rfl) (by kernel_rfl) (by kernel_rfl) (fun _ _ _ h => h) (Or.inl ⟨by kernel_rfl, fun wq hw => idx_run (x := .tmp 21) (y := .tmp 19) (vx := .pointer (some ⟨sb, 1, none⟩)) (vy := .int .i64 (f : Int)) (by kernel_rfl) (by kernel_rfl) (by kernel_rfl) (HIX.out wq)⟩) hHeld ?_
  simp only [Act.put, List.setIfInBounds_toArray, List.set_cons_succ, List.set_cons_zero]
  refine drawn_take (i := 9) (v := .string fn) (some 23) rfl rfl (by kernel_rfl) (by kernel_rfl) (by kernel_rfl) (fun _ _ _ h => h) (Or.inl ⟨by kernel_rfl, fun wq hw => load_run (x := .tmp 22) (vx := .pointer (some ⟨sb, 1 + f, none⟩)) (by kernel_rfl) (by kernel_rfl) (load_str hw.1)⟩) hHeld ?_
  refine drawn_take (i := 10) (v := .int .i64 (i : Int)) (some 24) rfl rfl (by kernel_rfl) (by kernel_rfl) (by kernel_rfl) (fun _ _ _ h => h) (Or.inl ⟨by kernel_rfl, fun wq hw => by go_simp⟩) hHeld ?_
  simp only [Act.put, List.setIfInBounds_toArray, List.set_cons_succ, List.set_cons_zero]
  refine wpAnyH_ready (rs := [11]) (by kernel_rfl) (by simp) ?_
  refine rdy_call (i := 11) rfl rfl (some 25) rfl 12 #[.pointer (some ⟨d, 0, none⟩), .string fn, .int .i64 (i : Int)] (read_call_run (x := 17) (y := 23) (z := 24) (by kernel_rfl) (by kernel_rfl) (by kernel_rfl) (by kernel_rfl)) (fun v w' => ∃ b, v = .tuple #[.slice (some ⟨b, 0, none⟩) 128 128, .int .i64 0] ∧ w0.heap.size ≤ b ∧ Bs w' (some ⟨b, 0, none⟩) 128 im ∧ Below w0.heap.size w0 w') ((diskRead_some _ d F N M free fuse (HD.out.below hbel1) fn HSM.out i n (i * 385) HN HI.out rfl im x HX HM).mono fun e w' hh => by obtain ⟨b, h1, h2, h3, h4⟩ := hh; exact ⟨_, h1, b, rfl, h2, h3, h4⟩) (fun v w5 hR => ?_) rdy_nil
  obtain ⟨b5, rfl, _, hB5, hbl5⟩ := hR
  have hA5 := hA0.below hbl5
  refine ⟨⟨HNAME.out _ hA5, hA5.disk⟩, fun hHeld => ?_⟩
  simp only [Act.put, List.setIfInBounds_toArray, List.set_cons_succ, List.set_cons_zero]
  refine drawn_take (i := 12) (v := .tuple #[.slice (some ⟨b5, 0, none⟩) 128 128, .int .i64 0]) (some 13) rfl rfl (by kernel_rfl) (by kernel_rfl) (by kernel_rfl) (fun _ _ _ h => h) (Or.inl ⟨by kernel_rfl, fun wq hw => by go_simp⟩) hHeld ?_
  simp only [Act.put, List.setIfInBounds_toArray, List.set_cons_succ, List.set_cons_zero]
  refine drawn_take (i := 13) (v := .slice (some ⟨b5, 0, none⟩) 128 128) (some 26) rfl rfl (by kernel_rfl) (by kernel_rfl) (by kernel_rfl) (fun _ _ _ h => h) (Or.inl ⟨by kernel_rfl, fun wq hw => by go_simp⟩) hHeld ?_
  refine drawn_take (i := 14) (v := .int .i64 0) (some 27) rfl rfl (by kernel_rfl) (by kernel_rfl) (by kernel_rfl) (fun _ _ _ h => h) (Or.inl ⟨by kernel_rfl, fun wq hw => by go_simp⟩) hHeld ?_
  simp only [Act.put, List.setIfInBounds_toArray, List.set_cons_succ, List.set_cons_zero]
  refine drawn_take (i := 15) (v := .slice (some ⟨b5, 0, none⟩) 128 128) (some 8) rfl rfl (by kernel_rfl) (by kernel_rfl) (by kernel_rfl) (fun _ _ _ h => h) (Or.inl ⟨by kernel_rfl, fun wq hw => by go_simp⟩) hHeld ?_
  refine drawn_take (i := 16) (v := .int .i64 0) (some 9) rfl rfl (by kernel_rfl) (by kernel_rfl) (by kernel_rfl) (fun _ _ _ h => h) (Or.inl ⟨by kernel_rfl, fun wq hw => by go_simp⟩) hHeld ?_
  simp only [Act.put, List.setIfInBounds_toArray, List.set_cons_succ, List.set_cons_zero]
  refine wpAnyH_done (by kernel_rfl) ?_ _
  refine NoPanic.normal ?_
  have hbw5 : Below w.heap.size w w5 := hbel1.trans (hbl5.mono hbel1.size)
  have HR5 := hidn ((hbl5.block _ ((Array.getElem?_eq_some_iff.1 hr1).1)).trans hr1)
  have hlt5 : w.heap.size < w5.heap.size := (Array.getElem?_eq_some_iff.1 HR5.out).1
  have HLT5 := hidn hlt5
  have HA5 := hidn hA5
  have HBW5 := hidn hbw5
  have hcn5 := HNAME.out _ hA5
  have hix := HIX.out
  clear hHeld hbl5 hA5 hbw5 hA0 hr1 HC HW0 hlt5 hbel1
  have HB5 := hidn hB5
  clear hB5
  go_wp2_with fail
  refine (open_yes fn (i : Int) b5 0 128 im _ HB5.out (Nat.le_refl _) (HT.out.below HBW5.out) HSM.out p g pl HPL.out HPB.out HO).mono ?_
  rintro e w7 ⟨a7, c7, rfl, hB7, hb7⟩
  have HR7 := hidn ((hb7.block _ HLT5.out).trans HR5.out)
  have HB8 := hidn (HBW5.out.trans (hb7.mono HBW5.out.size))
  have HLT7 := hidn (Nat.lt_of_lt_of_le HLT5.out hb7.size)
  have HBB7 := hidn hB7
  have hg7 := (HA5.out.below hb7).gen
  clear hb7 hcn5 hB7
  go_wp2_with fail
  refine (partSlot_any _ a7 pl c7 p HBB7.out HP5.out L HL).mono ?_
  rintro e w8 ⟨rfl, hb8⟩
  have HR8 := hidn ((hb8.block _ HLT7.out).trans HR7.out)
  have HB9 := hidn (HB8.out.trans (hb8.mono HB8.out.size))
  have HSZ : Hid ((Tryd.prog.info? 65).map (·.size) = some (vb L).toArray.size) := hidn (by rw [HZS.out]; simp [length_vb, HLL.out])
  have HOLD : Hid ((vb c0).toArray.size = (vb L).toArray.size) := hidn (by rw [HL0.out]; simp [length_vb, HLL.out])
  clear hb8 hg7
  repeat (first
    | (with_reducible refine wpList_store_row (by rfl) 65 (.tmp 6) (.tmp 66) (by rfl) w.heap.size (vb L).toArray (by kernel_rfl) (by kernel_rfl) 65 (vb c0).toArray HR8.out HSZ.out HOLD.out image_all ?_)
    | go_values | go_skip | go_guarded | go_step | go_upon | (simp only []))
  exact bodyPost_ret (v := .tuple #[.agg (vb L).toArray, .bool true]) (results_row_tmp rfl _ _ w.heap.size 65 _ (0, 0) (by kernel_rfl) (by kernel_rfl) (setRow_heap _ _ _ _ _ _ HR8.out) HSZ.out) rfl ⟨rfl, below_setRow HB9.out (Nat.le_refl _) _⟩

end Go.Proofs.YtdbogbiklabmkaaDoor

/- Stripes: look. -/
namespace Go.Proofs.YtdbogbiklabmkaaDoor
open Go.RowKit Go.Maps
set_option linter.unusedVariables false

/-- What look comes to, over the first k files. -/
def restS (L : Nat → List Nat) (ok : Nat → Bool) : Nat → List Nat
  | 0 => List.replicate 106 0
  | k + 1 => if ok k then xorL (restS L ok k) (L k) else restS L ok k
def wrongS (ok : Nat → Bool) : Nat → Nat
  | 0 => 0
  | k + 1 => if ok k then wrongS ok k else k
def countS (ok : Nat → Bool) : Nat → Nat
  | 0 => 0
  | k + 1 => if ok k then countS ok k else countS ok k + 1

theorem results_row_tmp2 {fn : Func} {p u u2 : Tmp} {v v2 : Value} (h : fn.results = #[.cell p 65, .tmp u, .tmp u2]) (tmps : Array Value) (w : World) (g : Nat) (t : TypeId) (cs : Array Value) (fr : Nat × Nat)
    (hp : tmps.getD p undef = .pointer (some ⟨g, 0, none⟩)) (hv : tmps.getD u undef = v) (hv2 : tmps.getD u2 undef = v2) (hg : w.heap[g]? = some (.cells cs t fr)) (hi : (Tryd.prog.info? 65).map (·.size) = some cs.size) :
    (results fn tmps).run Tryd.prog w = .ok (.tuple #[.agg cs, v, v2]) w := by
  have hp' : tmps[p]?.getD undef = .pointer (some ⟨g, 0, none⟩) := by simpa using hp
  have hv' : tmps[u]?.getD undef = v := by simpa using hv
  have hv2' : tmps[u2]?.getD undef = v2 := by simpa using hv2
  simp [results, h, hp', hv', hv2', asAddr, run_loadVar_row w g t 65 cs fr _ hg Tryd.underlying65 rfl hi]

set_option maxHeartbeats 2000000 in
theorem look_any (w : World) (sb i : Nat) (L : Nat → List Nat) (ok : Nat → Bool) (HL : Hid (∀ k, k < 4 → (L k).length = 106 ∧ ∀ x ∈ L k, x < 256))
    (HR : Hid (∀ k : Nat, k < 4 → ∀ wx, Below w.heap.size w wx → Calls Tryd.prog 31 #[.pointer (some ⟨sb, 0, none⟩), .int .i64 (k : Int), .int .i64 (i : Int)] wx fun e w' => e = .returned (.tuple #[.agg (vb (L k)).toArray, .bool (ok k)]) ∧ Below wx.heap.size wx w'))
    (R : List Nat) (HRS : Hid (R = restS L ok 4)) (wg ct : Nat) (HW : Hid (wg = wrongS ok 4)) (HCT : Hid (ct = countS ok 4)) :
    Calls Tryd.prog 22 #[.pointer (some ⟨sb, 0, none⟩), .int .i64 i] w fun e w' => e = .returned (.tuple #[.agg (vb R).toArray, .int .i64 wg, .int .i64 ct]) ∧ Below w.heap.size w w' := by
  obtain ⟨hz, hzs⟩ := zero_of_info Tryd.infoSlot
  obtain ⟨c0, hc0⟩ : ∃ c0, c0 = List.replicate 106 0 := ⟨_, rfl⟩
  rw [← hc0] at hz
  have HC0 := hidn hc0
  have HZS := hidn hzs
  clear hc0 hzs
  go_enter Tryd.func22, Tryd.ntmps22
  have HWB : Hid (∀ k, k ≤ 4 → wrongS ok k ≤ 4 ∧ countS ok k ≤ 4) := hidn (fun k hk => by
    have h1 : ∀ j, wrongS ok j ≤ j := fun j => by
      induction j with
      | zero => exact Nat.le_refl _
      | succ j ih => unfold wrongS; split <;> omega
    have h2 : ∀ j, countS ok j ≤ j := fun j => by
      induction j with
      | zero => exact Nat.le_refl _
      | succ j ih => unfold countS; split <;> omega
    have := h1 k
    have := h2 k
    omega)
  have HRL : Hid (∀ k, k ≤ 4 → (restS L ok k).length = 106 ∧ ∀ x ∈ restS L ok k, x < 256) := hidn (fun k => by
    induction k with
    | zero => intro _; exact ⟨rfl, fun x hx => by rw [List.eq_of_mem_replicate hx]; omega⟩
    | succ k ih =>
      intro hk
      have h1 := ih (by omega)
      have h2 := HL.out k (by omega)
      unfold restS
      split
      · exact ⟨xorL_length h1.1 h2.1, xorL_lt h1.2 h2.2⟩
      · exact h1)
  have HSZ : Hid (∀ l : List Nat, l.length = 106 → (Tryd.prog.info? 65).map (·.size) = some (vb l).toArray.size) := hidn (fun l hl => by rw [HZS.out]; simp [length_vb, hl])
  have HOLD : Hid (∀ l m : List Nat, l.length = 106 → m.length = 106 → (vb l).toArray.size = (vb m).toArray.size) := hidn (fun l m hl hm => by simp [length_vb, hl, hm])
  have HLC : Hid (c0.length = 106) := hidn (by rw [HC0.out]; rfl)
  go_wp2_with fail
  go_loopw [5, 6, 10] (fun wv cv iv wr => ∃ k : Nat, k ≤ 4 ∧ iv = .int .i64 k ∧ wv = .int .i64 (wrongS ok k : Nat) ∧ cv = .int .i64 (countS ok k : Nat) ∧ Hid (wr.heap[w.heap.size]? = some (.cells (vb (restS L ok k)).toArray 65 (0, 0))) ∧ Hid (Below w.heap.size w wr)) (fun _ _ iv _ => 4 - (intOf iv).toNat)
  case atStart => exact ⟨0, by omega, rfl, rfl, rfl, hidn (by rw [show restS L ok 0 = c0 from HC0.out.symm]; exact heap_alloc_new _ _), hidn ((Below.refl _ _).alloc (Nat.le_refl _) _)⟩
  case round =>
    obtain ⟨k, hk, rfl, rfl, rfl, HRk, HBk⟩ := hrel
    by_cases hlt : k < 4
    · have hlt' : decide (k < 4) = true := by simpa using hlt
      have hlt2 : decide ((k : Int) < 4) = true := by simpa using (by omega : (k : Int) < 4)
      have HKL := hidn hlt
      have hcw : IntKind.i64.wrap ((countS ok k : Nat) + 1 : Int) = ((countS ok k + 1 : Nat) : Int) := by have := (HWB.out k hk).2; rw [IntKind.wrap_i64]; omega
      obtain ⟨wc, hwc⟩ : ∃ wc, wc = wrongS ok k := ⟨_, rfl⟩
      obtain ⟨cc, hcc⟩ : ∃ cc, cc = countS ok k := ⟨_, rfl⟩
      obtain ⟨rk, hrk⟩ : ∃ rk, rk = restS L ok k := ⟨_, rfl⟩
      obtain ⟨Lk, hLk⟩ : ∃ Lk, Lk = L k := ⟨_, rfl⟩
      obtain ⟨bk, hbk⟩ : ∃ bk, bk = ok k := ⟨_, rfl⟩
      have HBKK := hidn hbk
      rw [← hcc] at hcw
      rw [← hwc, ← hcc]
      rw [← hrk] at HRk
      have HWC := hidn hwc
      have HCC := hidn hcc
      have HRK := hidn hrk
      have HLK := hidn hLk
      have HRR : Hid (rk.length = 106 ∧ ∀ x ∈ rk, x < 256) := hidn (by rw [hrk]; exact HRL.out k hk)
      have HLL : Hid (Lk.length = 106 ∧ ∀ x ∈ Lk, x < 256) := hidn (by rw [hLk]; exact HL.out k hlt)
      clear hlt hwc hcc hrk hLk hbk
      go_wp2_with fail
      refine (HR.out k HKL.out _ HBk.out).mono ?_
      rw [← HLK.out, ← HBKK.out]
      rintro e w2 ⟨rfl, hb2⟩
      have hlt1 : w.heap.size < wr.heap.size := (Array.getElem?_eq_some_iff.1 HRk.out).1
      have HR2 := hidn ((hb2.block _ hlt1).trans HRk.out)
      have HB2 := hidn (HBk.out.trans (hb2.mono HBk.out.size))
      have HLT2 := hidn (Nat.lt_of_lt_of_le hlt1 hb2.size)
      clear hb2 hlt1
      have HNX : Hid ((w2.alloc (.cells (vb c0).toArray 65)).heap[w2.heap.size]? = some (.cells (vb c0).toArray 65 (0, 0))) := hidn (heap_alloc_new _ _)
      have HNY : Hid (Below w2.heap.size w2 ((w2.alloc (.cells (vb c0).toArray 65)).setRow w2.heap.size (vb Lk).toArray)) := hidn (below_setRow ((Below.refl _ _).alloc (Nat.le_refl _) _) (Nat.le_refl _) _)
      have HS1 : Hid ((Tryd.prog.info? 65).map (·.size) = some (vb Lk).toArray.size) := hidn (HSZ.out _ HLL.out.1)
      have HO1 : Hid ((vb c0).toArray.size = (vb Lk).toArray.size) := hidn (HOLD.out _ _ HLC.out HLL.out.1)
      have HR3 : Hid (((w2.alloc (.cells (vb c0).toArray 65)).setRow w2.heap.size (vb Lk).toArray).heap[w.heap.size]? = some (.cells (vb rk).toArray 65 (0, 0))) := hidn ((HNY.out.block _ HLT2.out).trans HR2.out)
      have HR3x : Hid (((w2.alloc (.cells (vb c0).toArray 65)).setRow w2.heap.size (vb Lk).toArray).heap[w2.heap.size]? = some (.cells (vb Lk).toArray 65 (0, 0))) := hidn (setRow_heap _ _ _ _ _ _ HNX.out)
      have HB3 : Hid (Below w.heap.size w ((w2.alloc (.cells (vb c0).toArray 65)).setRow w2.heap.size (vb Lk).toArray)) := hidn (HB2.out.trans (HNY.out.mono HB2.out.size))
      have HS2 : Hid ((Tryd.prog.info? 65).map (·.size) = some (vb rk).toArray.size) := hidn (HSZ.out _ HRR.out.1)
      cases bk
      · repeat (first
          | (with_reducible refine wpList_store_row (by rfl) 65 (.tmp 8) (.tmp 18) (by rfl) w2.heap.size (vb Lk).toArray (by kernel_rfl) (by kernel_rfl) 65 (vb c0).toArray HNX.out HS1.out HO1.out image_all ?_)
          | go_values | go_skip | go_guarded | go_step | go_upon | (simp only []))
        refine ⟨⟨k + 1, HKL.out, by go_num, ?_, ?_, ?_, HB3⟩, by have := HKL.out; simp [intOf]; omega⟩
        · rw [show wrongS ok (k + 1) = k by unfold wrongS; rw [← HBKK.out]; rfl]
        · rw [show countS ok (k + 1) = cc + 1 by rw [HCC.out]; conv => { lhs; unfold countS }; rw [← HBKK.out]; rfl]; push_cast; rfl
        · rw [show restS L ok (k + 1) = rk by rw [HRK.out]; conv => { lhs; unfold restS }; rw [← HBKK.out]; rfl]
          exact HR3
      · obtain ⟨xk, hxk⟩ : ∃ xk, xk = xorL rk Lk := ⟨_, rfl⟩
        have HXK := hidn hxk
        have HS3 : Hid ((Tryd.prog.info? 65).map (·.size) = some (vb xk).toArray.size) := hidn (HSZ.out _ (by rw [hxk]; exact xorL_length HRR.out.1 HLL.out.1))
        have HO3 : Hid ((vb rk).toArray.size = (vb xk).toArray.size) := hidn (HOLD.out _ _ HRR.out.1 (by rw [hxk]; exact xorL_length HRR.out.1 HLL.out.1))
        clear hxk
        obtain ⟨w3, hw3⟩ : ∃ w3, w3 = (w2.alloc (.cells (vb c0).toArray 65)).setRow w2.heap.size (vb Lk).toArray := ⟨_, rfl⟩
        rw [← hw3] at HR3 HR3x HB3
        have HW3 := hidn hw3
        clear hw3
        repeat (first
          | (with_reducible refine wpList_store_row (by rfl) 65 (.tmp 8) (.tmp 18) (by rfl) w2.heap.size (vb Lk).toArray (by kernel_rfl) (by kernel_rfl) 65 (vb c0).toArray HNX.out HS1.out HO1.out image_all ?_); rw [← HW3.out]
          | (with_reducible refine wpList_load_row (by rfl) 65 (.tmp 4) (by rfl) w.heap.size (by kernel_rfl) 65 (vb rk).toArray (0, 0) _ HR3.out Tryd.underlying65 rfl HS2.out ?_)
          | (with_reducible refine wpList_load_row (by rfl) 65 (.tmp 8) (by rfl) w2.heap.size (by kernel_rfl) 65 (vb Lk).toArray (0, 0) _ HR3x.out Tryd.underlying65 rfl HS1.out ?_)
          | go_values | go_skip | go_guarded | go_step | go_upon | (simp only []))
        refine (xor_any _ rk Lk HRR.out.1 HLL.out.1 HRR.out.2 HLL.out.2 xk HXK).mono ?_
        rintro e w4 ⟨rfl, hb4⟩
        have hlt3 : w.heap.size < w3.heap.size := (Array.getElem?_eq_some_iff.1 HR3.out).1
        have HR4 := hidn ((hb4.block _ hlt3).trans HR3.out)
        have HB5 : Hid (Below w.heap.size w (w4.setRow w.heap.size (vb xk).toArray)) := hidn (below_setRow (HB3.out.trans (hb4.mono HB3.out.size)) (Nat.le_refl _) _)
        have HR5 : Hid ((w4.setRow w.heap.size (vb xk).toArray).heap[w.heap.size]? = some (.cells (vb xk).toArray 65 (0, 0))) := hidn (setRow_heap _ _ _ _ _ _ HR4.out)
        clear hb4 hlt3
        repeat (first
          | (with_reducible refine wpList_store_row (by rfl) 65 (.tmp 4) (.tmp 27) (by rfl) w.heap.size (vb xk).toArray (by kernel_rfl) (by kernel_rfl) 65 (vb rk).toArray HR4.out HS3.out HO3.out image_all ?_)
          | go_values | go_skip | go_guarded | go_step | go_upon | (simp only []))
        refine ⟨⟨k + 1, HKL.out, by go_num, ?_, ?_, ?_, HB5⟩, by have := HKL.out; simp [intOf]; omega⟩
        · rw [show wrongS ok (k + 1) = wc by rw [HWC.out]; conv => { lhs; unfold wrongS }; rw [← HBKK.out]; rfl]
        · rw [show countS ok (k + 1) = cc by rw [HCC.out]; conv => { lhs; unfold countS }; rw [← HBKK.out]; rfl]
        · rw [show restS L ok (k + 1) = xk by rw [HXK.out, HRK.out, HLK.out]; conv => { lhs; unfold restS }; rw [← HBKK.out]; rfl]
          exact HR5
    · obtain rfl : k = 4 := by omega
      have hRk := HRk.out
      rw [← HRS.out] at hRk
      have HR6 := hidn hRk
      rw [← HW.out, ← HCT.out]
      have lR : R.length = 106 := by rw [HRS.out]; exact (HRL.out 4 (by omega)).1
      have HS6 : Hid ((Tryd.prog.info? 65).map (·.size) = some (vb R).toArray.size) := hidn (HSZ.out _ lR)
      have HO6 : Hid ((vb R).toArray.size = (vb R).toArray.size) := hidn rfl
      clear hRk lR
      repeat (first
        | (with_reducible refine wpList_load_row (by rfl) 65 (.tmp 4) (by rfl) w.heap.size (by kernel_rfl) 65 (vb R).toArray (0, 0) _ HR6.out Tryd.underlying65 rfl HS6.out ?_)
        | (with_reducible refine wpList_store_row (by rfl) 65 (.tmp 4) (.tmp 29) (by rfl) w.heap.size (vb R).toArray (by kernel_rfl) (by kernel_rfl) 65 (vb R).toArray HR6.out HS6.out HO6.out image_all ?_)
        | go_values | go_skip | go_guarded | go_step | go_upon | (simp only []))
      exact bodyPost_ret (v := .tuple #[.agg (vb R).toArray, .int .i64 wg, .int .i64 ct]) (results_row_tmp2 rfl _ _ w.heap.size 65 _ (0, 0) (by kernel_rfl) (by kernel_rfl) (by kernel_rfl) (setRow_heap _ _ _ _ _ _ HR6.out) HS6.out) rfl ⟨rfl, below_setRow HBk.out (Nat.le_refl _) _⟩
end Go.Proofs.YtdbogbiklabmkaaDoor

/- Stripes: a part of the text. -/
namespace Go.Proofs.YtdbogbiklabmkaaDoor
open Go.RowKit Go.Maps
set_option linter.unusedVariables false

set_option maxHeartbeats 2000000 in
theorem spart_ok (w : World) (sb e f i : Nat) (he : e ≤ 1000000000) (hf : e % 3 = f) (hi : e / 3 = i) (L p : List Nat) (pl : Nat) (hpl : p.length = pl) (hp5 : pl ≤ 105) (hpb : ∀ x ∈ p, x < 256) (HL : Hid (L = slotB p))
    (HR : Hid (∀ wx, Below w.heap.size w wx → Calls Tryd.prog 31 #[.pointer (some ⟨sb, 0, none⟩), .int .i64 (f : Int), .int .i64 (i : Int)] wx fun e w' => e = .returned (.tuple #[.agg (vb L).toArray, .bool true]) ∧ Below wx.heap.size wx w')) :
    Calls Tryd.prog 21 #[.pointer (some ⟨sb, 0, none⟩), .int .i64 e] w fun e w' => ∃ b, e = .returned (.tuple #[.slice (some ⟨b, 1, none⟩) pl 105, .bool true]) ∧ w.heap.size ≤ b ∧ Bs w' (some ⟨b, 1, none⟩) pl p ∧ Below w.heap.size w w' := by
  obtain ⟨hz, hzs⟩ := zero_of_info Tryd.infoSlot
  obtain ⟨c0, hc0⟩ : ∃ c0, c0 = List.replicate 106 0 := ⟨_, rfl⟩
  rw [← hc0] at hz
  have lL : L.length = 106 := by rw [HL.out]; exact slotB_length p (by omega)
  have HS1 : Hid ((Tryd.prog.info? 65).map (·.size) = some (vb L).toArray.size) := hidn (by rw [hzs]; simp [length_vb, lL])
  have HO1 : Hid ((vb c0).toArray.size = (vb L).toArray.size) := hidn (by rw [hc0]; simp [length_vb, lL])
  have hm : (e : Int).tmod 3 = (f : Int) := by rw [Int.tmod_eq_emod_of_nonneg (by omega)]; omega
  have hd : (e : Int).tdiv 3 = (i : Int) := by rw [Int.tdiv_eq_ediv_of_nonneg (by omega)]; omega
  have hwi : IntKind.i64.wrap (i : Int) = (i : Int) := by rw [IntKind.wrap_i64]; omega
  have hwf : IntKind.i64.wrap (f : Int) = (f : Int) := by rw [IntKind.wrap_i64]; omega
  have HF3 : Hid (f < 3) := hidn (by omega)
  have HPL := hidn hpl
  have HP5 := hidn hp5
  have HPB := hidn hpb
  clear hc0 lL hzs hf hi hpl hp5 hpb
  go_enter Tryd.func21, Tryd.ntmps21
  go_wp2_with fail
  refine (HR.out _ (Below.refl _ _)).mono ?_
  rintro e w2 ⟨rfl, hb2⟩
  have HB2 := hidn hb2
  clear hb2
  have HNX3 : Hid ((w2.alloc (.cells (vb c0).toArray 65)).heap[w2.heap.size]? = some (.cells (vb c0).toArray 65 (0, 0))) := hidn (heap_alloc_new _ _)
  obtain ⟨w3, hw3⟩ : ∃ w3, w3 = (w2.alloc (.cells (vb c0).toArray 65)).setRow w2.heap.size (vb L).toArray := ⟨_, rfl⟩
  have HW3 := hidn hw3
  have HR3 : Hid (w3.heap[w2.heap.size]? = some (.cells (vb L).toArray 65 (0, 0))) := hidn (by rw [hw3]; exact setRow_heap _ _ _ _ _ _ HNX3.out)
  have HB3 : Hid (Below w.heap.size w w3) := hidn (by rw [hw3]; exact HB2.out.trans (below_setRow ((Below.refl _ _).alloc HB2.out.size _) HB2.out.size _))
  clear hw3
  repeat (first
    | (with_reducible refine wpList_store_row (by rfl) 65 (.tmp 8) (.tmp 22) (by rfl) w2.heap.size (vb L).toArray (by kernel_rfl) (by kernel_rfl) 65 (vb c0).toArray HNX3.out HS1.out HO1.out image_all ?_; rw [← HW3.out])
    | (with_reducible refine wpList_load_row (by rfl) 65 (.tmp 8) (by rfl) w2.heap.size (by kernel_rfl) 65 (vb L).toArray (0, 0) _ HR3.out Tryd.underlying65 rfl HS1.out ?_)
    | go_values | go_skip | go_guarded | go_step | go_upon | (simp only []))
  have HBZ := HB3
  refine (payload_part _ p L f pl HF3.out HL HPL.out HP5.out HPB.out).mono ?_
  rintro e w4 ⟨b4, rfl, hbb4, hB4, hb4⟩
  have HB4 := hidn hB4
  have HX4 := hidn (And.intro (Nat.le_trans HBZ.out.size hbb4) (HBZ.out.trans (hb4.mono HBZ.out.size)))
  clear hb4 hB4 hbb4
  go_wp2
  go_ret2
  exact ⟨b4, rfl, HX4.out.1, HB4.out, HX4.out.2⟩

set_option maxHeartbeats 2000000 in
theorem spart_lost (w : World) (sb e f i : Nat) (he : e ≤ 1000000000) (hf : e % 3 = f) (hi : e / 3 = i) (L R : List Nat) (lL : L.length = 106) (lR : R.length = 106) (wg ct : Nat) (hct : 1 < ct)
    (HR : Hid (∀ wx, Below w.heap.size w wx → Calls Tryd.prog 31 #[.pointer (some ⟨sb, 0, none⟩), .int .i64 (f : Int), .int .i64 (i : Int)] wx fun e w' => e = .returned (.tuple #[.agg (vb L).toArray, .bool false]) ∧ Below wx.heap.size wx w')) (HK : Hid (∀ wx, Below w.heap.size w wx → Calls Tryd.prog 22 #[.pointer (some ⟨sb, 0, none⟩), .int .i64 (i : Int)] wx fun e w' => e = .returned (.tuple #[.agg (vb R).toArray, .int .i64 (wg : Nat), .int .i64 (ct : Nat)]) ∧ Below wx.heap.size wx w')) :
    Calls Tryd.prog 21 #[.pointer (some ⟨sb, 0, none⟩), .int .i64 e] w fun e w' => e = .returned (.tuple #[.slice none 0 0, .bool false]) ∧ Below w.heap.size w w' := by
  obtain ⟨hz, hzs⟩ := zero_of_info Tryd.infoSlot
  obtain ⟨c0, hc0⟩ : ∃ c0, c0 = List.replicate 106 0 := ⟨_, rfl⟩
  rw [← hc0] at hz
  have HS1 : Hid ((Tryd.prog.info? 65).map (·.size) = some (vb L).toArray.size) := hidn (by rw [hzs]; simp [length_vb, lL])
  have HO1 : Hid ((vb c0).toArray.size = (vb L).toArray.size) := hidn (by rw [hc0]; simp [length_vb, lL])
  have hm : (e : Int).tmod 3 = (f : Int) := by rw [Int.tmod_eq_emod_of_nonneg (by omega)]; omega
  have hd : (e : Int).tdiv 3 = (i : Int) := by rw [Int.tdiv_eq_ediv_of_nonneg (by omega)]; omega
  have hwi : IntKind.i64.wrap (i : Int) = (i : Int) := by rw [IntKind.wrap_i64]; omega
  have hwf : IntKind.i64.wrap (f : Int) = (f : Int) := by rw [IntKind.wrap_i64]; omega
  have HS2 : Hid ((Tryd.prog.info? 65).map (·.size) = some (vb R).toArray.size) := hidn (by rw [hzs]; simp [length_vb, lR])
  have HO2 : Hid ((vb c0).toArray.size = (vb R).toArray.size) := hidn (by rw [hc0]; simp [length_vb, lR])
  have hgt : decide ((1 : Int) < (ct : Int)) = true := decide_eq_true (by omega)
  have hgt2 : decide (1 < ct) = true := decide_eq_true hct
  clear hc0 lL lR hzs hf hi hct
  go_enter Tryd.func21, Tryd.ntmps21
  go_wp2_with fail
  refine (HR.out _ (Below.refl _ _)).mono ?_
  rintro e w2 ⟨rfl, hb2⟩
  have HB2 := hidn hb2
  clear hb2
  have HNX3 : Hid ((w2.alloc (.cells (vb c0).toArray 65)).heap[w2.heap.size]? = some (.cells (vb c0).toArray 65 (0, 0))) := hidn (heap_alloc_new _ _)
  obtain ⟨w3, hw3⟩ : ∃ w3, w3 = (w2.alloc (.cells (vb c0).toArray 65)).setRow w2.heap.size (vb L).toArray := ⟨_, rfl⟩
  have HW3 := hidn hw3
  have HR3 : Hid (w3.heap[w2.heap.size]? = some (.cells (vb L).toArray 65 (0, 0))) := hidn (by rw [hw3]; exact setRow_heap _ _ _ _ _ _ HNX3.out)
  have HB3 : Hid (Below w.heap.size w w3) := hidn (by rw [hw3]; exact HB2.out.trans (below_setRow ((Below.refl _ _).alloc HB2.out.size _) HB2.out.size _))
  clear hw3
  repeat (first
    | (with_reducible refine wpList_store_row (by rfl) 65 (.tmp 8) (.tmp 22) (by rfl) w2.heap.size (vb L).toArray (by kernel_rfl) (by kernel_rfl) 65 (vb c0).toArray HNX3.out HS1.out HO1.out image_all ?_; rw [← HW3.out])
    | go_values | go_skip | go_guarded | go_step | go_upon | (simp only []))
  refine (HK.out _ HB3.out).mono ?_
  rintro e w5 ⟨rfl, hb5⟩
  have HB5 := hidn (HB3.out.trans (hb5.mono HB3.out.size))
  clear hb5
  have HNX6 : Hid ((w5.alloc (.cells (vb c0).toArray 65)).heap[w5.heap.size]? = some (.cells (vb c0).toArray 65 (0, 0))) := hidn (heap_alloc_new _ _)
  obtain ⟨w6, hw6⟩ : ∃ w6, w6 = (w5.alloc (.cells (vb c0).toArray 65)).setRow w5.heap.size (vb R).toArray := ⟨_, rfl⟩
  have HW6 := hidn hw6
  have HR6 : Hid (w6.heap[w5.heap.size]? = some (.cells (vb R).toArray 65 (0, 0))) := hidn (by rw [hw6]; exact setRow_heap _ _ _ _ _ _ HNX6.out)
  have HB6 : Hid (Below w.heap.size w w6) := hidn (by rw [hw6]; exact HB5.out.trans (below_setRow ((Below.refl _ _).alloc HB5.out.size _) HB5.out.size _))
  clear hw6
  repeat (first
    | (with_reducible refine wpList_store_row (by rfl) 65 (.tmp 10) (.tmp 34) (by rfl) w5.heap.size (vb R).toArray (by kernel_rfl) (by kernel_rfl) 65 (vb c0).toArray HNX6.out HS2.out HO2.out image_all ?_; rw [← HW6.out])
    | go_values | go_skip | go_guarded | go_step | go_upon | (simp only []))
  go_ret2
  exact ⟨rfl, HB6.out⟩

set_option maxHeartbeats 2000000 in
theorem spart_rest (w : World) (sb e f i : Nat) (he : e ≤ 1000000000) (hf : e % 3 = f) (hi : e / 3 = i) (L0 L p : List Nat) (lL0 : L0.length = 106) (wg ct : Nat) (hct : ct ≤ 1) (pl : Nat) (hpl : p.length = pl) (hp5 : pl ≤ 105) (hpb : ∀ x ∈ p, x < 256) (HL : Hid (L = slotB p))
    (HR : Hid (∀ wx, Below w.heap.size w wx → Calls Tryd.prog 31 #[.pointer (some ⟨sb, 0, none⟩), .int .i64 (f : Int), .int .i64 (i : Int)] wx fun e w' => e = .returned (.tuple #[.agg (vb L0).toArray, .bool false]) ∧ Below wx.heap.size wx w')) (HK : Hid (∀ wx, Below w.heap.size w wx → Calls Tryd.prog 22 #[.pointer (some ⟨sb, 0, none⟩), .int .i64 (i : Int)] wx fun e w' => e = .returned (.tuple #[.agg (vb L).toArray, .int .i64 (wg : Nat), .int .i64 (ct : Nat)]) ∧ Below wx.heap.size wx w')) :
    Calls Tryd.prog 21 #[.pointer (some ⟨sb, 0, none⟩), .int .i64 e] w fun e w' => ∃ b, e = .returned (.tuple #[.slice (some ⟨b, 1, none⟩) pl 105, .bool true]) ∧ w.heap.size ≤ b ∧ Bs w' (some ⟨b, 1, none⟩) pl p ∧ Below w.heap.size w w' := by
  obtain ⟨hz, hzs⟩ := zero_of_info Tryd.infoSlot
  obtain ⟨c0, hc0⟩ : ∃ c0, c0 = List.replicate 106 0 := ⟨_, rfl⟩
  rw [← hc0] at hz
  have lL : L.length = 106 := by rw [HL.out]; exact slotB_length p (by omega)
  have HS1 : Hid ((Tryd.prog.info? 65).map (·.size) = some (vb L).toArray.size) := hidn (by rw [hzs]; simp [length_vb, lL])
  have HO1 : Hid ((vb c0).toArray.size = (vb L).toArray.size) := hidn (by rw [hc0]; simp [length_vb, lL])
  have hm : (e : Int).tmod 3 = (f : Int) := by rw [Int.tmod_eq_emod_of_nonneg (by omega)]; omega
  have hd : (e : Int).tdiv 3 = (i : Int) := by rw [Int.tdiv_eq_ediv_of_nonneg (by omega)]; omega
  have hwi : IntKind.i64.wrap (i : Int) = (i : Int) := by rw [IntKind.wrap_i64]; omega
  have hwf : IntKind.i64.wrap (f : Int) = (f : Int) := by rw [IntKind.wrap_i64]; omega
  have HS0 : Hid ((Tryd.prog.info? 65).map (·.size) = some (vb L0).toArray.size) := hidn (by rw [hzs]; simp [length_vb, lL0])
  have HO0 : Hid ((vb c0).toArray.size = (vb L0).toArray.size) := hidn (by rw [hc0]; simp [length_vb, lL0])
  have hgt : decide ((1 : Int) < (ct : Int)) = false := decide_eq_false (by omega)
  have hgt2 : decide (1 < ct) = false := decide_eq_false (by omega)
  have HF3 : Hid (f < 3) := hidn (by omega)
  have HPL := hidn hpl
  have HP5 := hidn hp5
  have HPB := hidn hpb
  clear hc0 lL lL0 hct hzs hf hi hpl hp5 hpb
  go_enter Tryd.func21, Tryd.ntmps21
  go_wp2_with fail
  refine (HR.out _ (Below.refl _ _)).mono ?_
  rintro e w2 ⟨rfl, hb2⟩
  have HB2 := hidn hb2
  clear hb2
  have HNX3 : Hid ((w2.alloc (.cells (vb c0).toArray 65)).heap[w2.heap.size]? = some (.cells (vb c0).toArray 65 (0, 0))) := hidn (heap_alloc_new _ _)
  obtain ⟨w3, hw3⟩ : ∃ w3, w3 = (w2.alloc (.cells (vb c0).toArray 65)).setRow w2.heap.size (vb L0).toArray := ⟨_, rfl⟩
  have HW3 := hidn hw3
  have HR3 : Hid (w3.heap[w2.heap.size]? = some (.cells (vb L0).toArray 65 (0, 0))) := hidn (by rw [hw3]; exact setRow_heap _ _ _ _ _ _ HNX3.out)
  have HB3 : Hid (Below w.heap.size w w3) := hidn (by rw [hw3]; exact HB2.out.trans (below_setRow ((Below.refl _ _).alloc HB2.out.size _) HB2.out.size _))
  clear hw3
  repeat (first
    | (with_reducible refine wpList_store_row (by rfl) 65 (.tmp 8) (.tmp 22) (by rfl) w2.heap.size (vb L0).toArray (by kernel_rfl) (by kernel_rfl) 65 (vb c0).toArray HNX3.out HS0.out HO0.out image_all ?_; rw [← HW3.out])
    | go_values | go_skip | go_guarded | go_step | go_upon | (simp only []))
  refine (HK.out _ HB3.out).mono ?_
  rintro e w5 ⟨rfl, hb5⟩
  have HB5 := hidn (HB3.out.trans (hb5.mono HB3.out.size))
  clear hb5
  have HNX6 : Hid ((w5.alloc (.cells (vb c0).toArray 65)).heap[w5.heap.size]? = some (.cells (vb c0).toArray 65 (0, 0))) := hidn (heap_alloc_new _ _)
  obtain ⟨w6, hw6⟩ : ∃ w6, w6 = (w5.alloc (.cells (vb c0).toArray 65)).setRow w5.heap.size (vb L).toArray := ⟨_, rfl⟩
  have HW6 := hidn hw6
  have HR6 : Hid (w6.heap[w5.heap.size]? = some (.cells (vb L).toArray 65 (0, 0))) := hidn (by rw [hw6]; exact setRow_heap _ _ _ _ _ _ HNX6.out)
  have HB6 : Hid (Below w.heap.size w w6) := hidn (by rw [hw6]; exact HB5.out.trans (below_setRow ((Below.refl _ _).alloc HB5.out.size _) HB5.out.size _))
  clear hw6
  repeat (first
    | (with_reducible refine wpList_store_row (by rfl) 65 (.tmp 10) (.tmp 34) (by rfl) w5.heap.size (vb L).toArray (by kernel_rfl) (by kernel_rfl) 65 (vb c0).toArray HNX6.out HS1.out HO1.out image_all ?_; rw [← HW6.out])
    | (with_reducible refine wpList_load_row (by rfl) 65 (.tmp 10) (by rfl) w5.heap.size (by kernel_rfl) 65 (vb L).toArray (0, 0) _ HR6.out Tryd.underlying65 rfl HS1.out ?_)
    | go_values | go_skip | go_guarded | go_step | go_upon | (simp only []))
  have HBZ := HB6
  refine (payload_part _ p L f pl HF3.out HL HPL.out HP5.out HPB.out).mono ?_
  rintro e w4 ⟨b4, rfl, hbb4, hB4, hb4⟩
  have HB4 := hidn hB4
  have HX4 := hidn (And.intro (Nat.le_trans HBZ.out.size hbb4) (HBZ.out.trans (hb4.mono HBZ.out.size)))
  clear hb4 hB4 hbb4
  go_wp2
  go_ret2
  exact ⟨b4, rfl, HX4.out.1, HB4.out, HX4.out.2⟩
end Go.Proofs.YtdbogbiklabmkaaDoor

/- Stripes: Part. -/
namespace Go.Proofs.YtdbogbiklabmkaaDoor
open Go.RowKit Go.Maps
set_option linter.unusedVariables false

theorem wpList_app6 {w : World} {ops : Array Oper} {rest : List Oper} {o : Oper} {a : Act} {Q : Exit → Act → World → Prop} (hgd : o.guard = none) (s x : Operand)
    (ho : o.op = .call { callee := .builtin .append, args := #[s, x], argTypes := #[22, 22] }) (B : Nat) (w0 : World) (v : Value) (n : Nat) (l : List Nat) (hs : a.eval s = v) (hown : w.ownsRow B 5 1 v n (vb l))
    (sa : Option Addr) (m c : Nat) (z : List Nat) (hx : a.eval x = .slice sa m c) (hnil : sa = none → c = 0) (hB : Bs w sa m z) (n' : Nat) (l' : List Nat) (hn' : n + m = n') (hl' : Hid (l' = l ++ z)) (hm : n' ≤ 100000) (hbase : B ≤ w.heap.size) (hb : Below B w0 w)
    (h : ∀ v' w', Hid (w'.ownsRow B 5 1 v' n' (vb l')) → Below B w0 w' → wpList Tryd.prog ops Q rest (a.put o.dst v') w') : wpList Tryd.prog ops Q (o :: rest) a w := by
  obtain ⟨i0, hi, hz0, hz1, hz2⟩ := info_parts Tryd.info5
  subst hn'
  rw [hl'.out] at h
  have hvb : vb (l ++ z) = vb l ++ vb z := by simp [vb]
  cases sa with
  | none =>
    obtain rfl := hnil rfl
    obtain rfl := hB.2.2.2.1 rfl
    obtain rfl : z = [] := List.length_eq_zero_iff.1 hB.1
    refine wpList_append_own_none hgd s x 22 ho B 5 i0 1 Tryd.underlying22 hi v n (vb l) hs hown hx ?_
    exact h v w (hid (by simpa using hown)) hb
  | some ad =>
    refine wpList_append_own w hgd s x 22 ho B 5 i0 (.int .u8 0) 1 1 Tryd.underlying22 hi hz0 hz1 hz2 rfl (by decide) v n (vb l) hs hown ad m c (vb z) hx (by rw [length_vb, hB.1, Nat.mul_one]) ?_ (one_vb z) (by unfold maxLen; omega) (by omega) hbase ?_
    · intro j u hj
      have hlt : j < z.length := by have := (List.getElem?_eq_some_iff.1 hj).1; rwa [length_vb] at this
      rw [vb_getD z j hlt] at hj
      rw [hB.2.2.2.2 ad rfl j (by rw [← hB.1]; exact hlt)]
      exact hj
    · intro v' w' hown' hgrow _
      refine h v' w' (by rw [hvb]; exact hown') (hb.grown hgrow hbase ?_)
      intro g hg
      rcases hown.2 with ⟨rfl, _⟩ | ⟨g', cap', cur, rfl, hg', _⟩
      · simp [Value.ownBlock] at hg
      · simp [Value.ownBlock] at hg; omega


def slLen : Value → Nat
  | .slice _ n _ => n
  | _ => 0
def partT (zs : List Nat) (e : Nat) : List Nat := (zs.drop (105 * e)).take 105
def PartGood (w5 : World) (sb : Nat) (zs : List Nat) (e : Nat) : Prop := ∀ wx, Below w5.heap.size w5 wx → Calls Tryd.prog 21 #[.pointer (some ⟨sb, 0, none⟩), .int .i64 (e : Int)] wx fun r w' => ∃ b, r = .returned (.tuple #[.slice (some ⟨b, 1, none⟩) (partT zs e).length 105, .bool true]) ∧ wx.heap.size ≤ b ∧ Bs w' (some ⟨b, 1, none⟩) (partT zs e).length (partT zs e) ∧ Below wx.heap.size wx w'
def PartNone (w5 : World) (sb : Nat) (e : Nat) : Prop := ∀ wx, Below w5.heap.size w5 wx → Calls Tryd.prog 21 #[.pointer (some ⟨sb, 0, none⟩), .int .i64 (e : Int)] wx fun r w' => r = .returned (.tuple #[.slice none 0 0, .bool false]) ∧ Below wx.heap.size wx w'

set_option maxHeartbeats 2000000 in
theorem sPart_any (w : World) (d : Nat) (F : Nat → Prop) (N : Nat) (M : List UInt8 → List Ext) (free fuse : Int) (h : DiskOf w d F N M free fuse) (hM0 : M [] = []) (s f0 f1 f2 f3 : ByteArray) (hs : s.size ≤ 1000) (e0 : Hid (f0 = sf0 s)) (e1 : Hid (f1 = sf1 s)) (e2 : Hid (f2 = sf2 s)) (e3 : Hid (f3 = sf3 s))
    (g fr sz : Nat) (zs : List Nat) (zl : Nat) (hzl : zs.length = zl) (hz1 : zl ≤ 100000) (hzb : ∀ x ∈ zs, x < 256) (hfr : fr ≤ zl) (hsz : sz ≤ 100001) (Q : Prop)
    (HP : Hid (∀ w5 sb, StripeAt w5 sb d f0 f1 f2 f3 g → Below w.heap.size w w5 → ∀ e, 105 * e ≤ zl → PartGood w5 sb zs e ∨ (PartNone w5 sb e ∧ (105 * e < zl → Q)))) :
    Calls Tryd.prog 9 #[.pointer (some ⟨d, 0, none⟩), .string s, .int .i64 g, .int .i64 fr, .int .i64 sz] w fun r w' => Below w.heap.size w w' ∧ ((r = .returned (.tuple #[.slice none 0 0, .int .i64 50]) ∧ (zl < fr + sz ∨ Q)) ∨ (fr + sz ≤ zl ∧ ∃ a c, r = .returned (.tuple #[.slice a sz c, .int .i64 0]) ∧ Bs w' a sz ((zs.drop fr).take sz))) := by
  have HD := hidn h
  have hHv := fun wx => files_any wx s hs
  rw [← e0.out, ← e1.out, ← e2.out, ← e3.out] at hHv
  have hd1 : decide ((fr : Int) < 0) = false := decide_eq_false (by omega)
  have hd2 : decide ((2147483647 : Int) < (fr : Int)) = false := decide_eq_false (by omega)
  have hd3 : decide ((sz : Int) < 0) = false := decide_eq_false (by omega)
  have hd4 : decide ((2147483647 : Int) < (sz : Int)) = false := decide_eq_false (by omega)
  have hd5 : decide (2147483647 < fr) = false := decide_eq_false (by omega)
  have hd6 : decide (2147483647 < sz) = false := decide_eq_false (by omega)
  go_enter Tryd.func9, Tryd.ntmps9
  go_wp2_with fail
  refine (stripeMade _ d F N M free fuse HD.out hM0).mono ?_
  rintro e w1 ⟨rfl, hb1⟩
  go_wp2_with fail
  refine (hHv _).mono ?_
  rintro e w4 ⟨rfl, hb4⟩
  have hb14 : Below w.heap.size w w4 := hb1.trans (hb4.mono hb1.size)
  have HB14 := hidn hb14
  clear hb1 hb4 hb14 hHv h
  go_wp2_with fail
  obtain ⟨sb, hsb⟩ : ∃ sb, sb = w4.heap.size := ⟨_, rfl⟩
  obtain ⟨w5, hw5⟩ : ∃ w5, w5 = w4.alloc (.cells #[.pointer (some ⟨d, 0, none⟩), .string f0, .string f1, .string f2, .string f3, .int .i64 (g : Int)] 51) := ⟨_, rfl⟩
  have HB5 : Hid (Below w.heap.size w w5) := hidn (by rw [hw5]; exact HB14.out.trans ((Below.refl _ _).alloc HB14.out.size _))
  have HA5 : Hid (StripeAt w5 sb d f0 f1 f2 f3 g) := hidn (by rw [hw5, hsb]; exact heap_alloc_new _ _)
  rw [← hw5, ← hsb]
  clear hw5 hsb HB14
  go_loopw [13] (fun tv wr => ∃ (t : Nat) (a : Option Addr) (c : Nat), t ≤ sz ∧ fr + t ≤ zl ∧ tv = .slice a t c ∧ Hid (wr.ownsRow w5.heap.size 5 1 (.slice a t c) t (vb ((zs.drop fr).take t))) ∧ Hid (Below w5.heap.size w5 wr)) (fun tv _ => sz - slLen tv)
  case atStart => exact ⟨0, none, 0, by omega, by omega, rfl, hidn (World.ownsRow_nil _ _ _ _), hidn (Below.refl _ _)⟩
  case round =>
    obtain ⟨t, a, c, ht, hft, rfl, HO, HBr⟩ := hrel
    by_cases hlt : t < sz
    · have hlt' : decide (t < sz) = true := by simpa using hlt
      obtain ⟨at', hat⟩ : ∃ x, x = fr + t := ⟨_, rfl⟩
      obtain ⟨e, he⟩ : ∃ x, x = at' / 105 := ⟨_, rfl⟩
      obtain ⟨lo, hlo⟩ : ∃ x, x = at' % 105 := ⟨_, rfl⟩
      obtain ⟨y, hy⟩ : ∃ x, x = lo + sz := ⟨_, rfl⟩
      obtain ⟨x, hx⟩ : ∃ x, x = lo + sz - t := ⟨_, rfl⟩
      obtain ⟨hi, hhi⟩ : ∃ x, x = min 105 (lo + sz - t) := ⟨_, rfl⟩
      have hw1 : IntKind.i64.wrap ((fr : Int) + (t : Int)) = (at' : Int) := by rw [IntKind.wrap_i64]; omega
      have hm : (at' : Int).tmod 105 = (lo : Int) := by rw [Int.tmod_eq_emod_of_nonneg (by omega)]; omega
      have hdv : (at' : Int).tdiv 105 = (e : Int) := by rw [Int.tdiv_eq_ediv_of_nonneg (by omega)]; omega
      have hwe : IntKind.i64.wrap (e : Int) = (e : Int) := by rw [IntKind.wrap_i64]; omega
      have hwl : IntKind.i64.wrap (lo : Int) = (lo : Int) := by rw [IntKind.wrap_i64]; omega
      have hw2 : IntKind.i64.wrap ((lo : Int) + (sz : Int)) = (y : Int) := by rw [IntKind.wrap_i64]; omega
      have hw3 : IntKind.i64.wrap ((y : Int) - (t : Int)) = (x : Int) := by rw [IntKind.wrap_i64]; omega
      have hmn : (if (x : Int) < 105 then (x : Int) else 105) = (hi : Int) := by split <;> omega
      have HAR : Hid (105 * e + lo = fr + t ∧ lo < 105 ∧ lo < hi ∧ hi ≤ 105 ∧ (hi = 105 ∨ hi = lo + sz - t) ∧ hi ≤ lo + sz - t) := hidn (by omega)
      have HLT := hidn hlt
      have HFT := hidn hft
      clear hat he hlo hy hx hhi hlt hft
      obtain ⟨pl, hpl⟩ : ∃ pl, pl = (partT zs e).length := ⟨_, rfl⟩
      have HPL : Hid (pl = min 105 (zl - 105 * e)) := hidn (by rw [hpl]; unfold partT; rw [List.length_take, List.length_drop, hzl])
      have HG : Hid (PartGood w5 sb zs e ∨ (PartNone w5 sb e ∧ (105 * e < zl → Q))) := hidn (HP.out w5 sb HA5.out HB5.out e (by have := HAR.out; have := HFT.out; omega))
      have HPE := hidn hpl
      rcases HG.out with hgood | ⟨hnone, hq⟩
      · have HGD := hidn hgood
        clear hgood hpl HG
        go_wp2_with fail
        refine (HGD.out _ HBr.out).mono ?_
        rw [← HPE.out]
        rintro r w6 ⟨b6, rfl, hbb6, hB6, hb6⟩
        have HB6 := hidn hB6
        have HBr6 := hidn (HBr.out.trans (hb6.mono HBr.out.size))
        have HO6 := hidn (own_of_below HO.out hb6)
        clear hbb6 hB6 hb6
        by_cases hsh : pl < hi
        · have hd : decide (pl < hi) = true := by simpa using hsh
          have HSH := hidn hsh
          clear hsh
          go_wp2
          go_ret2
          refine ⟨HB5.out.trans (HBr6.out.mono HB5.out.size), Or.inl ⟨rfl, Or.inl ?_⟩⟩
          have := HSH.out; have := HPL.out; have := HAR.out; have := HFT.out
          omega
        · have hd : decide (pl < hi) = false := by simpa using hsh
          have HSH := hidn hsh
          obtain ⟨a', hsl, hB', hx'⟩ := slice_part HB6.out (by have := HPL.out; omega : pl ≤ 105) lo hi (by have := HAR.out; omega) (by omega)
          obtain ⟨m, hm'⟩ : ∃ m, m = hi - lo := ⟨_, rfl⟩
          rw [← hm'] at hsl hB'
          obtain ⟨n', hn'⟩ : ∃ n', n' = t + m := ⟨_, rfl⟩
          have HNM : Hid (t + m = n' ∧ n' ≤ sz ∧ fr + n' ≤ zl ∧ t < n') := hidn (by have := HPL.out; have := HAR.out; omega)
          have HX6 : Hid ((zs.drop fr).take n' = (zs.drop fr).take t ++ ((partT zs e).drop lo).take m) := hidn (by
            rw [hn', List.take_add]
            congr 1
            unfold partT
            rw [List.drop_take, List.drop_drop, List.drop_drop, List.take_take, HAR.out.1]
            congr 1
            have := HAR.out
            omega)
          have hnil : a' = none → (105 - lo : Nat) = 0 := fun hn => by have := hB'.2.2.2.1 hn; have := HAR.out; omega
          have HN2 := hidn hnil
          have HBB := hidn hB'
          clear hsh hm' hn' hx' hB' hnil
          go_wp2_with (at_builtin; refine wpList_app6 rfl _ _ rfl w5.heap.size w5 _ t ((zs.drop fr).take t) rfl HO6.out a' m (105 - lo) (((partT zs e).drop lo).take m) rfl HN2.out HBB.out n' ((zs.drop fr).take n') HNM.out.1 HX6 (by have := HNM.out; omega) HBr6.out.size HBr6.out ?_; intro v7 w7 hO7 hb7; obtain ⟨a7, c7, rfl, hB7⟩ := bs_of_own hO7.out (fun x hx => hzb x (List.mem_of_mem_drop (List.mem_of_mem_take hx))); have HB7 := hidn hb7; clear hb7 hB7)
          exact ⟨⟨n', a7, c7, HNM.out.2.1, HNM.out.2.2.1, rfl, hO7, HB7⟩, by have := HNM.out; simp only [slLen]; omega⟩
      · have HND := hidn hnone
        have HQ := hidn hq
        clear hnone hq hpl HG
        go_wp2_with fail
        refine (HND.out _ HBr.out).mono ?_
        rintro r w6 ⟨rfl, hb6⟩
        have HBr6 := hidn (HBr.out.trans (hb6.mono HBr.out.size))
        clear hb6
        go_wp2
        go_ret2
        refine ⟨HB5.out.trans (HBr6.out.mono HB5.out.size), Or.inl ⟨rfl, ?_⟩⟩
        by_cases h5 : 105 * e < zl
        · exact Or.inr (HQ.out h5)
        · left
          have := HLT.out; have := HAR.out; have := HFT.out
          omega
    · obtain rfl : t = sz := by omega
      have hlt' : decide (t < t) = false := by simp
      have HFT := hidn hft
      clear hft
      go_wp2
      go_ret2
      obtain ⟨a7, c7, hv, hB7⟩ := bs_of_own HO.out (fun x hx => hzb x (List.mem_of_mem_drop (List.mem_of_mem_take hx)))
      cases hv
      exact ⟨HB5.out.trans (HBr.out.mono HB5.out.size), Or.inr ⟨HFT.out, a, c, rfl, hB7⟩⟩
end Go.Proofs.YtdbogbiklabmkaaDoor
