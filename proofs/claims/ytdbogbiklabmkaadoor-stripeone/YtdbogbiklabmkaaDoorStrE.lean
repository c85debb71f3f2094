/- Stripes: the parity's slot is read; Mend of what is lost. -/
import Derived.Test.YtdbogbiklabmkaaDoorStrD
namespace Go.Proofs.YtdbogbiklabmkaaDoor
open Go.RowKit Go.Maps
set_option linter.unusedVariables false

theorem wpList_val6 {P : Program} {w w' : World} {ops : Array Oper} {rest : List Oper} {o : Oper} {a : Act} {Q : Exit → Act → World → Prop} (hgd : o.guard = none) (v : Value) (hrun : (execOp a.eval o).run P w = .ok (.value v) w') (h : wpList P ops Q rest (a.put o.dst v) w') : wpList P ops Q (o :: rest) a w := by
  refine wpList_plain hgd fun K hK => ?_
  unfold Oper.wp
  rw [hrun]
  exact hK _ _ h
theorem run_loadVar_bs (w : World) (ad : Addr) (p : List Nat) (hB : Bs w (some ad) 106 p) : (loadVar 65 ad).run Tryd.prog w = .ok (.agg (vb p).toArray) w := by
  have hl : (loadCells ad (vb p).length).run Tryd.prog w = .ok (vb p).toArray w :=
    run_loadCells_list (P := Tryd.prog) w ad (vb p) (fun j v hv => by
      have hj : j < p.length := by have := (List.getElem?_eq_some_iff.1 hv).1; rwa [length_vb] at this
      rw [vb_getD p j hj] at hv
      rw [hB.2.2.2.2 ad rfl j (by rw [← hB.1]; exact hj)]
      exact hv)
  rw [length_vb, hB.1] at hl
  have hagg : (isAgg 65).run Tryd.prog w = .ok true w := by
    unfold isAgg
    rw [Sem.run_bind, run_underlying Tryd.underlying65 w]
    simp
  have hzs := (zero_of_info Tryd.infoSlot).2
  cases hq : Tryd.prog.info? 65 with
  | none => simp [hq] at hzs
  | some i =>
    have hs : i.size = 106 := by simpa [hq] using hzs
    simp [loadVar, Sem.run_bind, hagg, sizeOf, typeInfo, hq, hs, hl]
theorem arr_run {o : Oper} {a : Act} {w : World} {x : Operand} {ad : Option Addr} {c : Nat} (ho : o.op = Op.sliceToArrayPointer 65 x) (hx : a.eval x = .slice ad 106 c) : (execOp a.eval o).run Tryd.prog w = .ok (.value (.pointer ad)) w := by
  unfold execOp
  simp only [ho, hx, Instr.arrayAt, Sem.run_bind, run_underlying Tryd.underlying65 w, Result.andThen_ok, Sem.run_pure]
  simp
theorem loadb_run {o : Oper} {a : Act} {w : World} {x : Operand} {ad : Addr} {p : List Nat} (ho : o.op = Op.load 65 x) (hx : a.eval x = .pointer (some ad)) (hB : Bs w (some ad) 106 p) : (execOp a.eval o).run Tryd.prog w = .ok (.value (.agg (vb p).toArray)) w := by
  unfold execOp
  simp only [ho, hx, Instr.loadAt, Instr.sureAddr, Sem.run_bind, Sem.run_pure, Result.andThen_ok, run_loadVar_bs w ad p hB]

set_option maxHeartbeats 2000000 in
theorem sread_par (w : World) (d g : Nat) (F : Nat → Prop) (N : Nat) (M : List UInt8 → List Ext) (free fuse : Int) (h : DiskOf w d F N M free fuse) (hT : CrcTab w) (sb f i : Nat) (f0 f1 f2 f3 fn : ByteArray) (hA : StripeAt w sb d f0 f1 f2 f3 g) (hf : f < 4) (HFN : Hid (fn = nameF f0 f1 f2 f3 f)) (hsm : fn.size ≤ maxLen) (hf3 : f = 3) (n : Nat) (HN : Hid (n = (M fn.data.toList).length)) (hi : i < n) (im : List Nat) (x : Ext) (HX : Hid ((M fn.data.toList)[i]? = some x)) (HM : Hid (im = x.rd)) (p : List Nat) (hpl : p.length = 106) (hpb : ∀ x ∈ p, x < 256) (HO : Hid (openB im (nums fn) (i : Int) = some (p, g))) :
    Calls Tryd.prog 31 #[.pointer (some ⟨sb, 0, none⟩), .int .i64 f, .int .i64 i] w fun e w' => e = .returned (.tuple #[.agg (vb p).toArray, .bool true]) ∧ Below w.heap.size w w' := by
  have HI := hidn hi
  have HLL := hidn hpl
  have HPB := hidn hpb
  have hne3 : ((f : Int) == 3) = true := by rw [hf3]; rfl
  clear hpl hpb hf3
  obtain ⟨hz, hzs⟩ := zero_of_info Tryd.infoSlot
  obtain ⟨c0, hc0⟩ : ∃ c0, c0 = List.replicate 106 0 := ⟨_, rfl⟩
  rw [← hc0] at hz
  have HC0 := hidn hc0
  have l0 : (vb c0).toArray.size = 106 := by rw [hc0]; rfl
  have HL0 := hidn l0
  have HZS := hidn hzs
  have HSM := hidn hsm
  have HIX := hidn (fun wx => file_index sb f hf wx)
  have HNAME : Hid (∀ wx : World, StripeAt wx sb d f0 f1 f2 f3 g → wx.cell? ⟨sb, 1 + f, none⟩ = some (.string fn)) := hidn (fun wx hx => by rw [HFN.out]; exact hx.name f hf)
  have HA := hidn hA
  have HT := hidn hT
  have HD := hidn h
  have HF := hidn hf
  clear hc0 l0 hzs hsm hA hT h hf
  go_enter Tryd.func31, Tryd.ntmps31
  go_wp2_with fail
  have hbel1 : Below w.heap.size w (w.alloc (.cells (vb c0).toArray 65)).drew := ((Below.refl _ _).alloc (Nat.le_refl _) _).drew
  have hr1 : (w.alloc (.cells (vb c0).toArray 65)).drew.heap[w.heap.size]? = some (.cells (vb c0).toArray 65 (0, 0)) := heap_alloc_new _ _
  obtain ⟨w0, hw0⟩ : ∃ w0, w0 = (w.alloc (.cells (vb c0).toArray 65)).drew := ⟨_, rfl⟩
  rw [← hw0] at hbel1 hr1
  have hA0 := HA.out.below hbel1
  have HC := hidn (And.intro (HNAME.out _ hA0) hA0.disk)
  have HW0 := hidn hw0
  clear hw0
  refine wp_region_noPanic ?_
  refine wp_region_held_drew (S := fun w' => w'.cell? ⟨sb, 1 + f, none⟩ = some (.string fn) ∧ w'.cell? ⟨sb, 0, none⟩ = some (.pointer (some ⟨d, 0, none⟩))) (by kernel_rfl) (HW0.out ▸ HC.out) (fun hHeld => ?_)
  rw [← HW0.out]
  rw [← HW0.out] at hHeld
  refine drawn_take (i := 0) (v := .pointer (some ⟨sb, 0, none⟩)) (some 14) rfl rfl (by kernel_rfl) (by kernel_rfl) (by kernel_rfl) (fun _ _ _ h => h) (Or.inl ⟨by kernel_rfl, fun wq hw => by go_simp⟩) hHeld ?_
  simp only [Act.put, List.setIfInBounds_toArray, List.set_cons_succ, List.set_cons_zero]
  refine drawn_take (i := 1) (v := .pointer (some ⟨sb, 0, none⟩)) (some 15) rfl rfl (by kernel_rfl) (by kernel_rfl) (by kernel_rfl) (fun _ _ _ h => h) (Or.inl ⟨by kernel_rfl, fun wq hw => by go_simp⟩) hHeld ?_
  simp only [Act.put, List.setIfInBounds_toArray, List.set_cons_succ, List.set_cons_zero]
  refine drawn_take (i := 2) (v := .pointer (some ⟨sb, 0, none⟩)) (some 16) rfl rfl (by kernel_rfl) (by kernel_rfl) (by kernel_rfl) (fun _ _ _ h => h) (Or.inl ⟨by kernel_rfl, fun wq hw => by go_simp⟩) hHeld ?_
  simp only [Act.put, List.setIfInBounds_toArray, List.set_cons_succ, List.set_cons_zero]
  refine drawn_take (i := 3) (v := .pointer (some ⟨d, 0, none⟩)) (some 17) rfl rfl (by kernel_rfl) (by kernel_rfl) (by kernel_rfl) (fun _ _ _ h => h) (Or.inl ⟨by kernel_rfl, fun wq hw => load_run (x := .tmp 16) (vx := .pointer (some ⟨sb, 0, none⟩)) (by kernel_rfl) (by kernel_rfl) (load_ptr hw.2)⟩) hHeld ?_
  refine drawn_take (i := 4) (v := .pointer (some ⟨sb, 0, none⟩)) (some 18) rfl rfl (by kernel_rfl) (by kernel_rfl) (by kernel_rfl) (fun _ _ _ h => h) (Or.inl ⟨by kernel_rfl, fun wq hw => by go_simp⟩) hHeld ?_
  refine drawn_take (i := 5) (v := .int .i64 (f : Int)) (some 19) rfl rfl (by kernel_rfl) (by kernel_rfl) (by kernel_rfl) (fun _ _ _ h => h) (Or.inl ⟨by kernel_rfl, fun wq hw => by go_simp⟩) hHeld ?_
  simp only [Act.put, List.setIfInBounds_toArray, List.set_cons_succ, List.set_cons_zero]
  refine drawn_take (i := 6) (v := .pointer (some ⟨sb, 0, none⟩)) (some 20) rfl rfl (by kernel_rfl) (by kernel_rfl) (by kernel_rfl) (fun _ _ _ h => h) (Or.inl ⟨by kernel_rfl, fun wq hw => by go_simp⟩) hHeld ?_
  simp only [Act.put, List.setIfInBounds_toArray, List.set_cons_succ, List.set_cons_zero]
  refine drawn_take (i := 7) (v := .pointer (some ⟨sb, 1, none⟩)) (some 21) rfl rfl (by kernel_rfl) (by kernel_rfl) (by kernel_rfl) (fun _ _ _ h => h) (Or.inl ⟨by kernel_rfl, fun wq hw => by go_simp⟩) hHeld ?_
  simp only [Act.put, List.setIfInBounds_toArray, List.set_cons_succ, List.set_cons_zero]
  refine drawn_take (i := 8) (v := .pointer (some ⟨sb, 1 + f, none⟩)) (some 22) rfl rfl (by kernel_rfl) (by kernel_rfl) (by kernel_rfl) (fun _ _ _ h => h) (Or.inl ⟨by kernel_rfl, fun wq hw => idx_run (x := .tmp 21) (y := .tmp 19) (vx := .pointer (some ⟨sb, 1, none⟩)) (vy := .int .i64 (f : Int)) (by kernel_rfl) (by kernel_rfl) (by kernel_rfl) (HIX.out wq)⟩) hHeld ?_
  simp only [Act.put, List.setIfInBounds_toArray, List.set_cons_succ, List.set_cons_zero]
  refine drawn_take (i := 9) (v := .string fn) (some 23) rfl rfl (by kernel_rfl) (by kernel_rfl) (by kernel_rfl) (fun _ _ _ h => h) (Or.inl ⟨by kernel_rfl, fun wq hw => load_run (x := .tmp 22) (vx := .pointer (some ⟨sb, 1 + f, none⟩)) (by kernel_rfl) (by kernel_rfl) (load_str hw.1)⟩) hHeld ?_
  refine drawn_take (i := 10) (v := .int .i64 (i : Int)) (some 24) rfl rfl (by kernel_rfl) (by kernel_rfl) (by kernel_rfl) (fun _ _ _ h => h) (Or.inl ⟨by kernel_rfl, fun wq hw => by go_simp⟩) hHeld ?_
  simp only [Act.put, List.setIfInBounds_toArray, List.set_cons_succ, List.set_cons_zero]
  refine wpAnyH_ready (rs := [11]) (by kernel_rfl) (by simp) ?_
  refine rdy_call (i := 11) rfl rfl (some 25) rfl 12 #[.pointer (some ⟨d, 0, none⟩), .string fn, .int .i64 (i : Int)] (read_call_run (x := 17) (y := 23) (z := 24) (by kernel_rfl) (by kernel_rfl) (by kernel_rfl) (by kernel_rfl)) (fun v w' => ∃ b, v = .tuple #[.slice (some ⟨b, 0, none⟩) 128 128, .int .i64 0] ∧ w0.heap.size ≤ b ∧ Bs w' (some ⟨b, 0, none⟩) 128 im ∧ Below w0.heap.size w0 w') ((diskRead_some _ d F N M free fuse (HD.out.below hbel1) fn HSM.out i n (i * 385) HN HI.out rfl im x HX HM).mono fun e w' hh => by obtain ⟨b, h1, h2, h3, h4⟩ := hh; exact ⟨_, h1, b, rfl, h2, h3, h4⟩) (fun v w5 hR => ?_) rdy_nil
  obtain ⟨b5, rfl, _, hB5, hbl5⟩ := hR
  have hA5 := hA0.below hbl5
  refine ⟨⟨HNAME.out _ hA5, hA5.disk⟩, fun hHeld => ?_⟩
  simp only [Act.put, List.setIfInBounds_toArray, List.set_cons_succ, List.set_cons_zero]
  refine drawn_take (i := 12) (v := .tuple #[.slice (some ⟨b5, 0, none⟩) 128 128, .int .i64 0]) (some 13) rfl rfl (by kernel_rfl) (by kernel_rfl) (by kernel_rfl) (fun _ _ _ h => h) (Or.inl ⟨by kernel_rfl, fun wq hw => by go_simp⟩) hHeld ?_
  simp only [Act.put, List.setIfInBounds_toArray, List.set_cons_succ, List.set_cons_zero]
  refine drawn_take (i := 13) (v := .slice (some ⟨b5, 0, none⟩) 128 128) (some 26) rfl rfl (by kernel_rfl) (by kernel_rfl) (by kernel_rfl) (fun _ _ _ h => h) (Or.inl ⟨by kernel_rfl, fun wq hw => by go_simp⟩) hHeld ?_
  refine drawn_take (i := 14) (v := .int .i64 0) (some 27) rfl rfl (by kernel_rfl) (by kernel_rfl) (by kernel_rfl) (fun _ _ _ h => h) (Or.inl ⟨by kernel_rfl, fun wq hw => by go_simp⟩) hHeld ?_
  simp only [Act.put, List.setIfInBounds_toArray, List.set_cons_succ, List.set_cons_zero]
  refine drawn_take (i := 15) (v := .slice (some ⟨b5, 0, none⟩) 128 128) (some 8) rfl rfl (by kernel_rfl) (by kernel_rfl) (by kernel_rfl) (fun _ _ _ h => h) (Or.inl ⟨by kernel_rfl, fun wq hw => by go_simp⟩) hHeld ?_
  refine drawn_take (i := 16) (v := .int .i64 0) (some 9) rfl rfl (by kernel_rfl) (by kernel_rfl) (by kernel_rfl) (fun _ _ _ h => h) (Or.inl ⟨by kernel_rfl, fun wq hw => by go_simp⟩) hHeld ?_
  simp only [Act.put, List.setIfInBounds_toArray, List.set_cons_succ, List.set_cons_zero]
  refine wpAnyH_done (by kernel_rfl) ?_ _
  refine NoPanic.normal ?_
  have hbw5 : Below w.heap.size w w5 := hbel1.trans (hbl5.mono hbel1.size)
  have HR5 := hidn ((hbl5.block _ ((Array.getElem?_eq_some_iff.1 hr1).1)).trans hr1)
  have hlt5 : w.heap.size < w5.heap.size := (Array.getElem?_eq_some_iff.1 HR5.out).1
  have HLT5 := hidn hlt5
  have HA5 := hidn hA5
  have HBW5 := hidn hbw5
  have hcn5 := HNAME.out _ hA5
  have hix := HIX.out
  clear hHeld hbl5 hA5 hbw5 hA0 hr1 HC HW0 hlt5 hbel1
  have HB5 := hidn hB5
  clear hB5
  go_wp2_with fail
  refine (open_yes fn (i : Int) b5 0 128 im _ HB5.out (Nat.le_refl _) (HT.out.below HBW5.out) HSM.out p g 106 HLL.out HPB.out HO).mono ?_
  rintro e w7 ⟨a7, c7, rfl, hB7, hb7⟩
  have HR8 := hidn ((hb7.block _ HLT5.out).trans HR5.out)
  have HB8 := hidn (HBW5.out.trans (hb7.mono HBW5.out.size))
  have hg7 := (HA5.out.below hb7).gen
  cases a7 with
  | none => have := hB7.2.2.2.1 rfl; omega
  | some ad =>
  have HBB7 := hidn hB7
  clear hb7 hcn5 hB7
  have HSZ : Hid ((Tryd.prog.info? 65).map (·.size) = some (vb p).toArray.size) := hidn (by rw [HZS.out]; simp [length_vb, HLL.out])
  have HOLD : Hid ((vb c0).toArray.size = (vb p).toArray.size) := hidn (by rw [HL0.out]; simp [length_vb, HLL.out])
  repeat (first
    | (with_reducible refine wpList_val6 (w' := w7) (by rfl) (.pointer (some ad)) (arr_run (x := .tmp 58) (c := c7) (by rfl) (by kernel_rfl)) ?_)
    | (with_reducible refine wpList_val6 (w' := w7) (by rfl) (.agg (vb p).toArray) (loadb_run (x := .tmp 59) (by rfl) (by kernel_rfl) HBB7.out) ?_)
    | (with_reducible refine wpList_store_row (by rfl) 65 (.tmp 6) (.tmp 60) (by rfl) w.heap.size (vb p).toArray (by kernel_rfl) (by kernel_rfl) 65 (vb c0).toArray HR8.out HSZ.out HOLD.out image_all ?_)
    | go_values | go_skip | go_guarded | go_step | go_upon | (simp only []))
  exact bodyPost_ret (v := .tuple #[.agg (vb p).toArray, .bool true]) (results_row_tmp rfl _ _ w.heap.size 65 _ (0, 0) (by kernel_rfl) (by kernel_rfl) (setRow_heap _ _ _ _ _ _ HR8.out) HSZ.out) rfl ⟨rfl, below_setRow HB8.out (Nat.le_refl _) _⟩

end Go.Proofs.YtdbogbiklabmkaaDoor
