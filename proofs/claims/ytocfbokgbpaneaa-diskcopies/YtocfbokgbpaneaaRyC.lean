/- The document's disk: copies of images, Read. -/
import Derived.Test.YtocfbokgbpaneaaRyB
namespace Go.Proofs.Ytocfbokgbpaneaa
open Go.RowKit Go.Maps
set_option linter.unusedVariables false

theorem mk0_run {o : Oper} {a : Act} {w : World} (ho : o.op = Op.buildSlice 29 0 #[]) : (execOp a.eval o).run Try.prog w = .ok (.value (.slice (some ⟨w.heap.size, 0, none⟩) 0 0)) (w.alloc (.cells #[] 5)) := by
  have h : (Instr.buildSlice 29 0 #[]).run Try.prog w = .ok (.slice (some ⟨w.heap.size, 0, none⟩) 0 0) (w.alloc (.cells #[] 5)) := by kernel_rfl
  simp [execOp, ho, h, Result.andThen]

theorem app_run3 {o : Oper} {a : Act} {w w' : World} {t u : TypeId} {x y : Operand} {vx vy v : Value} (ho : o.op = .call { callee := .builtin .append, args := #[x, y], argTypes := #[t, u] }) (hx : a.eval x = vx) (hy : a.eval y = vy) (hr : (Builtin.append_ #[t, u] o.type #[vx, vy]).run Try.prog w = .ok v w') : (execOp a.eval o).run Try.prog w = .ok (.value v) w' := by
  unfold execOp
  simp only [ho, resolve, invoke, builtin, Sem.run_bind, Sem.run_pure, Result.andThen_ok, List.map_toArray, List.map_cons, List.map_nil, hx, hy, hr]

theorem call2_runY {o : Oper} {a : Act} {w : World} {f : FuncId} {x y : Nat} {vx vy : Value} {ts : Array TypeId} (ho : o.op = Op.call { callee := Callee.value (Operand.func f), args := #[.tmp x, .tmp y], argTypes := ts }) (hen : ∀ args w, (callFunc f args).run Try.prog w = .ok (.enter f args) w) (hx : a.eval (.tmp x) = vx) (hy : a.eval (.tmp y) = vy) : (execOp a.eval o).run Try.prog w = .ok (.enter f #[vx, vy]) w := by
  simp [go_sem, execOp, ho, resolve, invoke, hen]
  exact ⟨by simpa [Act.eval] using hx, by simpa [Act.eval] using hy⟩

theorem grown_alloc (w : World) (o : Obj) : w.grownBy (w.alloc o) none := ⟨rfl, rfl, rfl, by simp, fun i hi _ => Below.heap_alloc _ _ _ hi⟩

theorem own_grown {w w' : World} {base e size n : Nat} {v : Value} {xs : List Value} {row : Option Nat} (h : w.ownsRow base e size v n xs) (hg : w.grownBy w' row) (hne : v.ownBlock ≠ row ∨ v.ownBlock = none) : w'.ownsRow base e size v n xs :=
  own_other h (fun g hv => hg.block g (own_lt h g hv) (fun e => by
    rcases hne with hne | hne
    · exact hne (by rw [hv, e])
    · rw [hne] at hv; cases hv))

theorem im_grown {w w' : World} {q : Nat × Nat} {zs : List Nat} {row : Option Nat} (h : Im w q zs) (hg : w.grownBy w' row) (hne : some q.1 = row → False) : Im w' q zs :=
  own_grown h hg (.inl (fun e => hne e))

theorem byInfoY : ∃ i0 z, Try.prog.info? 5 = some i0 ∧ i0.zero = some z ∧ i0.size = 1 ∧ i0.bytes = 1 ∧ z.cells.size = 1 := by
  have h : (Try.prog.info? 5).map (fun i => (i.zero, i.size, i.bytes)) = some (some (.int .u8 0), 1, 1) := by kernel_rfl
  obtain ⟨i0, hi, h1, h2, h3⟩ := info_parts h
  exact ⟨i0, _, hi, h1, h2, h3, rfl⟩

theorem own_empty {W : World} {b e size : Nat} (h : W.heap[b]? = some (.cells #[] e (0, 0))) : W.ownsRow 0 e size (.slice (some ⟨b, 0, none⟩) 0 0) 0 [] :=
  ⟨by simp, .inr ⟨b, 0, #[], rfl, Nat.zero_le _, h, by omega, by simp, by simp, by simp⟩⟩

theorem vb_one (zs : List Nat) : ∀ u ∈ vb zs, u.oneCell' = true := by
  intro u hu
  unfold vb at hu
  obtain ⟨x, _, rfl⟩ := List.mem_map.1 hu
  rfl

/-- append([]byte{}, b...) of 128 bytes. -/
theorem cpy (W : World) (b : Nat) (hb0 : W.heap[b]? = some (.cells #[] 5 (0, 0))) (a : Addr) (c0 : Nat) (zs : List Nat) (hl : zs.length = 128) (hc : ∀ j u, (vb zs)[j]? = some u → W.cell? (a.add j) = some u) :
    ∃ (q : Nat × Nat) (W' : World), (Builtin.append_ #[29, 29] 29 #[.slice (some ⟨b, 0, none⟩) 0 0, .slice (some a) 128 c0]).run Try.prog W = .ok (im q) W' ∧ Im W' q zs ∧ W.heap.size ≤ q.1 ∧ q.1 < W'.heap.size ∧ W.grownBy W' (some b) := by
  obtain ⟨i0, z0, hi, hz0, hz1, hz2, hzc⟩ := byInfoY
  obtain ⟨g, c, W', hrun, hown, hgr, hpl⟩ := appN (P := Try.prog) W 29 29 5 i0 z0 1 1 Try.underlying29 hi hz0 hz1 hz2 hzc (by decide) (.slice (some ⟨b, 0, none⟩) 0 0) 0 [] 0 (own_empty hb0) (Nat.zero_le _) a 128 c0 (by omega) (vb zs) (by rw [length_vb, hl]) hc (vb_one zs) (by unfold maxLen; omega) (by omega)
  refine ⟨(g, c), W', hrun, ?_, ?_, own_lt hown g rfl, hgr⟩
  · simpa [Im] using hown
  · rcases hpl with h | h
    · exfalso
      obtain rfl : b = g := by simpa [Value.ownBlock] using h
      obtain ⟨hl2, h2⟩ := hown
      rcases h2 with ⟨h2, _⟩ | ⟨g', cap, cur, hv, _, hh, hle, _, hcs, _⟩
      · cases h2
      · obtain ⟨rfl, _, rfl⟩ : b = g' ∧ 0 + 128 = 0 + 128 ∧ c = cap := by simpa using hv
        have hlt := (Array.getElem?_eq_some_iff.1 hb0).1
        have hrn := run_append_grow (P := Try.prog) W 29 29 5 i0 z0 Try.underlying29 hi hz0 ⟨b, 0, none⟩ 0 0 [] (by simp) (fun j v hj => by simp at hj) a 128 c0 (vb zs) (by rw [length_vb, hl, hz1]) hc (by omega) (by omega) (growslice_fits (by omega) (by rw [hz2]; omega))
        have e := hrun.symm.trans hrn
        injection e with e1 e2
        simp at e1
    · exact h

/-- The cells of an image, wherever the world has gone. -/
theorem Im.src {w w' : World} {n0 : Nat} {q : Nat × Nat} {zs : List Nat} (h : Im w q zs) (hb : Below n0 w w') (hn : q.1 < n0) : ∀ j u, (vb zs)[j]? = some u → w'.cell? ((⟨q.1, 0, none⟩ : Addr).add j) = some u := by
  intro j u hj
  have hc := h.cells (g := q.1) rfl j u hj
  rw [add_none] at hc ⊢
  exact (hb.cell (p := ⟨q.1, 0 + j, none⟩) hn).trans hc

theorem extY_at {R : List Yf} {s : ByteArray} {k : Nat} {f : Yf} (hp : placeY R s = some k) (hf : R[k]? = some f) : extY R s = f.l := by
  unfold extY
  rw [hp]
  simp [hf]

set_option maxHeartbeats 1000000 in
theorem readY_no (w : World) (y : Nat) (F : Nat → Prop) (fa : Option Addr) (fc : Nat) (R : List Yf) (room fuse : Int) (h : RyOf w y F fa fc R room fuse) (hF : ∀ k, F k → k < w.heap.size) (s : ByteArray) (hR : R.length ≤ 1000000) (i : Int) (n : Nat) (HN : Hid (n = (extY R s).length)) (hi : i < 0 ∨ (n : Int) ≤ i) :
    Calls Try.prog 38 #[.pointer (some ⟨y, 0, none⟩), .string s, .int .i64 i] w fun e w' => e = .returned (.tuple #[.slice none 0 0, .int .i64 30]) ∧ Below w.heap.size w w' := by
  by_cases h0 : i < 0
  · have e1 : decide (i < 0) = true := by simpa using h0
    clear hi h0
    go_enter Try.func38, Try.ntmps38
    go_wp2
    go_ret2
    exact ⟨rfl, Below.refl _ _⟩
  · have e1 : decide (i < 0) = false := by simpa using h0
    have e2 : decide ((n : Int) ≤ i) = true := by simp; omega
    have HE := hidn (extentsY_any w y F fa fc R room fuse h hF s hR n HN)
    clear hi h0
    go_enter Try.func38, Try.ntmps38
    go_wp2_with fail
    refine HE.out.mono ?_
    rintro e w1 ⟨rfl, hb1⟩
    go_wp2
    go_ret2
    exact ⟨rfl, hb1⟩

set_option maxRecDepth 100000 in
set_option maxHeartbeats 4000000 in
theorem readY_yes (w : World) (y : Nat) (F : Nat → Prop) (fa : Option Addr) (fc : Nat) (R : List Yf) (room fuse : Int) (h : RyOf w y F fa fc R room fuse) (hF : ∀ k, F k → k < w.heap.size) (s : ByteArray) (hR : R.length ≤ 1000000) (i k : Nat) (f : Yf) (c : Yc) (hp : placeY R s = some k) (hf : R[k]? = some f) (hc : f.l[i]? = some c) (hl : f.l.length ≤ 1000000) :
    Calls Try.prog 38 #[.pointer (some ⟨y, 0, none⟩), .string s, .int .i64 (i : Int)] w fun e w' => ∃ q, e = .returned (.tuple #[im q, .int .i64 0]) ∧ Im w' q c.x.rd ∧ w.heap.size ≤ q.1 ∧ Below w.heap.size w w' := by
  have hmem := List.mem_of_getElem? hf
  have hcm := List.mem_of_getElem? hc
  obtain ⟨fl, hfl⟩ : ∃ fl, fl = f.l.length := ⟨_, rfl⟩
  have HE := hidn (extentsY_any w y F fa fc R room fuse h hF s hR fl (hidn (by rw [extY_at hp hf, hfl])))
  have hil : i < fl := by rw [hfl]; exact (List.getElem?_eq_some_iff.1 hc).1
  have HPI : Hid (placeI R s = (k : Int)) := hidn (by unfold placeI; rw [hp])
  obtain ⟨g, hfa, hFg, hc0, hc1⟩ := h.at hf
  subst hfa
  obtain ⟨d0, d1, d2, d3, d4⟩ := h.ext hmem hc
  obtain ⟨x0, x1, x2, x3⟩ := h.ims f hmem c hcm
  obtain ⟨f0, f1, f2, f3⟩ := h.fi f hmem c hcm
  have hok := (h.ok f hmem).2.2 c hcm
  have hzl : c.x.rd.length = 128 := by
    unfold Ext.rd
    split
    · exact hok.2.2.1
    · exact hok.1.1
  have c1 : w.cell? ⟨y, 1, none⟩ = some (.slice (some ⟨g, 0, none⟩) R.length fc) := by rw [cell_of_row _ _ _ _ _ _ h.disk]; rfl
  obtain ⟨N, hN⟩ : ∃ N, N = R.length := ⟨_, rfl⟩
  have hkN : k < N := by rw [hN]; exact (List.getElem?_eq_some_iff.1 hf).1
  rw [← hN] at c1
  unfold Yf.row at hc1
  obtain ⟨fg, hfg⟩ : ∃ fg, fg = f.g := ⟨_, rfl⟩
  obtain ⟨fcc, hfcc⟩ : ∃ fcc, fcc = f.c := ⟨_, rfl⟩
  rw [← hfl, ← hfg, ← hfcc] at hc1
  rw [← hfg] at d0
  obtain ⟨q0, hq0⟩ : ∃ q0, q0 = c.q0.1 := ⟨_, rfl⟩
  obtain ⟨qc, hqc⟩ : ∃ qc, qc = c.q0.2 := ⟨_, rfl⟩
  have d0' : w.cell? ⟨fg, i * 5, none⟩ = some (.slice (some ⟨q0, 0, none⟩) 128 qc) := by rw [hq0, hqc]; exact d0
  obtain ⟨zs, hzs⟩ : ∃ zs, zs = c.x.rd := ⟨_, rfl⟩
  rw [← hzs] at x0 hzl ⊢
  have ly := hF y h.fy
  have lg := hF g hFg
  have lf : fg < w.heap.size := by rw [hfg]; exact hF _ (h.fr f hmem)
  have lq : q0 < w.heap.size := by rw [hq0]; exact hF _ f0
  have HSrc0 : Hid (∀ W, Below w.heap.size w W → ∀ j u, (vb zs)[j]? = some u → W.cell? ((⟨q0, 0, none⟩ : Addr).add j) = some u) := hidn (fun W hb j u hj => by rw [hq0]; exact Im.src x0 hb (by rw [← hq0]; exact lq) j u hj)
  have HZL := hidn hzl
  have H0 := hidn h
  have HF0 := hidn hF
  have HRl : Hid (R.length ≤ 1000000) := hidn hR
  have hNb : N ≤ 1000000 := by rw [hN]; exact hR
  have hfb : fl ≤ 1000000 := by rw [hfl]; exact hl
  have hi1 : decide ((i : Int) < 0) = false := by simp
  have hi2 : decide ((fl : Int) ≤ (i : Int)) = false := by simp; omega
  have hi3 : (i : Int) < (fl : Int) := by omega
  have hk3 : (k : Int) < (N : Int) := by omega
  clear hp hf hc hcm hmem d0 d1 d2 d3 d4 x0 x1 x2 x3 f0 f1 f2 f3 hok hzl hfl hN hfg hfcc hq0 hqc hzs hFg hc0 h hF hR hl
  go_enter Try.func38, Try.ntmps38
  go_wp2_with fail
  refine HE.out.mono ?_
  clear HE
  rintro e w1 ⟨rfl, hb1⟩
  have HB0 := hidn hb1
  have H := hidn (H0.out.below HF0.out hb1)
  have HSrc1 : Hid (∀ W, Below w.heap.size w1 W → ∀ j u, (vb zs)[j]? = some u → W.cell? ((⟨q0, 0, none⟩ : Addr).add j) = some u) := hidn (fun W hb => HSrc0.out W (hb1.trans hb))
  have c1 := (hb1.cell (p := ⟨y, 1, none⟩) ly).trans c1
  have c2 := (hb1.cell (p := ⟨g, k * 2 + 1, none⟩) lg).trans hc1
  have c3 := (hb1.cell (p := ⟨fg, i * 5, none⟩) lf).trans d0'
  obtain ⟨n0, hn0⟩ : ∃ n0, n0 = w1.heap.size := ⟨_, rfl⟩
  have HNE := hidn hn0
  have HN0 : Hid (w.heap.size ≤ n0) := hidn (by rw [hn0]; exact hb1.size)
  have ly : y < n0 := Nat.lt_of_lt_of_le ly HN0.out
  have lg : g < n0 := Nat.lt_of_lt_of_le lg HN0.out
  have lf : fg < n0 := Nat.lt_of_lt_of_le lf HN0.out
  have HFn : Hid (∀ k, F k → k < n0) := hidn (fun k hk => Nat.lt_of_lt_of_le (HF0.out k hk) HN0.out)
  have HSrc : Hid (∀ W, Below n0 w1 W → ∀ j u, (vb zs)[j]? = some u → W.cell? ((⟨q0, 0, none⟩ : Addr).add j) = some u) := hidn (fun W hb => HSrc1.out W (hb.mono HN0.out))
  have hR := HRl.out
  clear hb1 HF0 H0 HSrc0 HSrc1 hc1 d0' hn0
  go_wp2_with fail
  refine wp_region_noPanic ?_
  refine wp_region_held_drew (S := fun w' => Below n0 w1 w') (by kernel_rfl) ((Below.refl n0 w1).drew) (fun hHeld => ?_)
  obtain ⟨Wd, hWd⟩ : ∃ Wd, Wd = w1.drew := ⟨_, rfl⟩
  have hle0 : n0 ≤ Wd.heap.size := by rw [hWd]; exact Nat.le_of_eq HNE.out
  rw [← hWd] at hHeld ⊢
  clear hWd
  refine drawn_take (i := 1) (v := .pointer (some ⟨y, 0, none⟩)) (some 18) rfl rfl (by kernel_rfl) (by kernel_rfl) (by kernel_rfl) (fun _ _ _ h => h) (Or.inl ⟨by kernel_rfl, fun wq hw => by go_simp⟩) hHeld ?_
  simp only [Act.put, List.setIfInBounds_toArray, List.set_cons_succ, List.set_cons_zero]
  refine drawn_take (i := 2) (v := .pointer (some ⟨y, 0, none⟩)) (some 19) rfl rfl (by kernel_rfl) (by kernel_rfl) (by kernel_rfl) (fun _ _ _ h => h) (Or.inl ⟨by kernel_rfl, fun wq hw => by go_simp⟩) hHeld ?_
  simp only [Act.put, List.setIfInBounds_toArray, List.set_cons_succ, List.set_cons_zero]
  refine drawn_take (i := 3) (v := .pointer (some ⟨y, 1, none⟩)) (some 20) rfl rfl (by kernel_rfl) (by kernel_rfl) (by kernel_rfl) (fun _ _ _ h => h) (Or.inl ⟨by kernel_rfl, fun wq hw => by go_simp⟩) hHeld ?_
  simp only [Act.put, List.setIfInBounds_toArray, List.set_cons_succ, List.set_cons_zero]
  refine drawn_take (i := 4) (v := .slice (some ⟨g, 0, none⟩) N fc) (some 21) rfl rfl (by kernel_rfl) (by kernel_rfl) (by kernel_rfl) (fun _ _ _ h => h) (Or.inl ⟨by kernel_rfl, fun wq hw => by have q := (hw.cell (p := ⟨y, 1, none⟩) ly).trans c1; go_simp⟩) hHeld ?_
  simp only [Act.put, List.setIfInBounds_toArray, List.set_cons_succ, List.set_cons_zero]
  refine drawn_take (i := 5) (v := .pointer (some ⟨y, 0, none⟩)) (some 22) rfl rfl (by kernel_rfl) (by kernel_rfl) (by kernel_rfl) (fun _ _ _ h => h) (Or.inl ⟨by kernel_rfl, fun wq hw => by go_simp⟩) hHeld ?_
  simp only [Act.put, List.setIfInBounds_toArray, List.set_cons_succ, List.set_cons_zero]
  refine drawn_take (i := 6) (v := .string s) (some 23) rfl rfl (by kernel_rfl) (by kernel_rfl) (by kernel_rfl) (fun _ _ _ h => h) (Or.inl ⟨by kernel_rfl, fun wq hw => by go_simp⟩) hHeld ?_
  simp only [Act.put, List.setIfInBounds_toArray, List.set_cons_succ, List.set_cons_zero]
  refine drawn_take (i := 11) (v := .int .i64 (i : Int)) (some 28) rfl rfl (by kernel_rfl) (by kernel_rfl) (by kernel_rfl) (fun _ _ _ h => h) (Or.inl ⟨by kernel_rfl, fun wq hw => by go_simp⟩) hHeld ?_
  simp only [Act.put, List.setIfInBounds_toArray, List.set_cons_succ, List.set_cons_zero]
  refine wpAnyH_ready (rs := [0, 7]) (by kernel_rfl) (by simp) ?_
  refine rdy_val (i := 0) rfl rfl (some 17) rfl (.slice (some ⟨Wd.heap.size, 0, none⟩) 0 0) (Wd.alloc (.cells #[] 5)) (mk0_run rfl) (hHeld.alloc (hle0) _) (fun hHeld => ?_) ?_
  · simp only [Act.put, List.setIfInBounds_toArray, List.set_cons_succ, List.set_cons_zero]
    have he1 := heap_alloc_new Wd (.cells #[] 5)
    have hg1 : Wd.grownBy (Wd.alloc (.cells #[] 5)) none := grown_alloc Wd _
    obtain ⟨b1, hb1⟩ : ∃ b, b = Wd.heap.size := ⟨_, rfl⟩
    obtain ⟨W1, hW1⟩ : ∃ W', W' = Wd.alloc (.cells #[] 5) := ⟨_, rfl⟩
    rw [← hb1] at he1
    rw [← hW1] at hHeld he1 hg1
    rw [← hb1, ← hW1]
    have hn1 : n0 ≤ b1 := by rw [hb1]; exact hle0
    have hs1 : Wd.heap.size ≤ W1.heap.size := hg1.size
    clear hW1
    refine wpAnyH_ready (rs := [7]) (by kernel_rfl) (by simp) ?_
    have HP2 := place_any W1 y F (some ⟨g, 0, none⟩) fc R room fuse (H.out.other (fun k hk => hHeld.block k (HFn.out k hk))) (fun k hk => Nat.lt_of_lt_of_le (HFn.out k hk) (Nat.le_trans (hle0) hs1)) s hR
    rw [HPI.out] at HP2
    refine rdy_call (i := 7) rfl rfl (some 24) rfl 45 #[.pointer (some ⟨y, 0, none⟩), .string s] (call2_runY (x := 22) (y := 23) rfl (fun _ _ => rfl) (by kernel_rfl) (by kernel_rfl)) (fun r w9 => r = .int .i64 (k : Int) ∧ Below W1.heap.size W1 w9) (HP2.mono (by rintro e w9 ⟨rfl, hb9⟩; exact ⟨_, rfl, rfl, hb9⟩)) (fun r w9 hR9 => ?_) rdy_nil
    obtain ⟨rfl, hb9⟩ := hR9
    refine ⟨hHeld.trans (hb9.mono (Nat.le_trans (hle0) hs1)), fun hHeld => ?_⟩
    simp only [Act.put, List.setIfInBounds_toArray, List.set_cons_succ, List.set_cons_zero]
    have hs2 : W1.heap.size ≤ w9.heap.size := hb9.size
    have he1_2 := (hb9.block b1 (Array.getElem?_eq_some_iff.1 he1).1).trans he1
    refine drawn_take (i := 8) (v := .pointer (some ⟨g, k * 2, none⟩)) (some 25) rfl rfl (by kernel_rfl) (by kernel_rfl) (by kernel_rfl) (fun _ _ _ h => h) (Or.inl ⟨by kernel_rfl, fun wq hw => by go_simp⟩) hHeld ?_
    simp only [Act.put, List.setIfInBounds_toArray, List.set_cons_succ, List.set_cons_zero]
    refine drawn_take (i := 9) (v := .pointer (some ⟨g, k * 2 + 1, none⟩)) (some 26) rfl rfl (by kernel_rfl) (by kernel_rfl) (by kernel_rfl) (fun _ _ _ h => h) (Or.inl ⟨by kernel_rfl, fun wq hw => by go_simp⟩) hHeld ?_
    simp only [Act.put, List.setIfInBounds_toArray, List.set_cons_succ, List.set_cons_zero]
    refine drawn_take (i := 10) (v := .slice (some ⟨fg, 0, none⟩) fl fcc) (some 27) rfl rfl (by kernel_rfl) (by kernel_rfl) (by kernel_rfl) (fun _ _ _ h => h) (Or.inl ⟨by kernel_rfl, fun wq hw => by have q := (hw.cell (p := ⟨g, k * 2 + 1, none⟩) lg).trans c2; go_simp⟩) hHeld ?_
    simp only [Act.put, List.setIfInBounds_toArray, List.set_cons_succ, List.set_cons_zero]
    refine drawn_take (i := 12) (v := .pointer (some ⟨fg, i * 5, none⟩)) (some 29) rfl rfl (by kernel_rfl) (by kernel_rfl) (by kernel_rfl) (fun _ _ _ h => h) (Or.inl ⟨by kernel_rfl, fun wq hw => by go_simp⟩) hHeld ?_
    simp only [Act.put, List.setIfInBounds_toArray, List.set_cons_succ, List.set_cons_zero]
    refine drawn_take (i := 13) (v := .pointer (some ⟨fg, i * 5, none⟩)) (some 30) rfl rfl (by kernel_rfl) (by kernel_rfl) (by kernel_rfl) (fun _ _ _ h => h) (Or.inl ⟨by kernel_rfl, fun wq hw => by go_simp⟩) hHeld ?_
    simp only [Act.put, List.setIfInBounds_toArray, List.set_cons_succ, List.set_cons_zero]
    refine drawn_take (i := 14) (v := .slice (some ⟨q0, 0, none⟩) 128 qc) (some 31) rfl rfl (by kernel_rfl) (by kernel_rfl) (by kernel_rfl) (fun _ _ _ h => h) (Or.inl ⟨by kernel_rfl, fun wq hw => by have q := (hw.cell (p := ⟨fg, i * 5, none⟩) lf).trans c3; go_simp⟩) hHeld ?_
    simp only [Act.put, List.setIfInBounds_toArray, List.set_cons_succ, List.set_cons_zero]
    refine wpAnyH_ready (rs := [15]) (by kernel_rfl) (by simp) ?_
    obtain ⟨q3, W3, hr3, hi3, hq3, hqs3, hg3⟩ := cpy w9 b1 he1_2 ⟨q0, 0, none⟩ qc zs (HZL.out) (fun j u hj => HSrc.out w9 hHeld j u hj)
    refine rdy_val (i := 15) rfl rfl (some 32) rfl (im q3) W3 (app_run3 (x := .tmp 17) (y := .tmp 31) rfl (by kernel_rfl) (by kernel_rfl) hr3) (hHeld.grown hg3 (Nat.le_trans (Nat.le_trans (hle0) hs1) hs2) (fun k hk => by cases hk; assumption)) (fun hHeld => ?_) rdy_nil
    simp only [Act.put, List.setIfInBounds_toArray, List.set_cons_succ, List.set_cons_zero]
    clear hr3
    have hs3 : w9.heap.size ≤ W3.heap.size := hg3.size
    have hqn3 : n0 ≤ q3.1 := Nat.le_trans (Nat.le_trans (Nat.le_trans (hle0) hs1) hs2) hq3
    refine drawn_take (i := 16) (v := im q3) (some 6) rfl rfl (by kernel_rfl) (by kernel_rfl) (by kernel_rfl) (fun _ _ _ h => h) (Or.inl ⟨by kernel_rfl, fun wq hw => by go_simp⟩) hHeld ?_
    simp only [Act.put, List.setIfInBounds_toArray, List.set_cons_succ, List.set_cons_zero]
    refine drawn_take (i := 17) (v := .int .i64 0) (some 7) rfl rfl (by kernel_rfl) (by kernel_rfl) (by kernel_rfl) (fun _ _ _ h => h) (Or.inl ⟨by kernel_rfl, fun wq hw => by go_simp⟩) hHeld ?_
    simp only [Act.put, List.setIfInBounds_toArray, List.set_cons_succ, List.set_cons_zero]
    refine wpAnyH_done (by kernel_rfl) ?_ _
    refine NoPanic.normal ?_
    have hKeep := hHeld
    clear hHeld
    go_wp2_with fail
    go_ret2
    exact ⟨q3, rfl, hi3, Nat.le_trans HN0.out hqn3, HB0.out.trans (hKeep.mono HN0.out)⟩
  have HP1 := place_any Wd y F (some ⟨g, 0, none⟩) fc R room fuse (H.out.other (fun k hk => hHeld.block k (HFn.out k hk))) (fun k hk => Nat.lt_of_lt_of_le (HFn.out k hk) (hle0)) s hR
  rw [HPI.out] at HP1
  refine rdy_call (i := 7) rfl rfl (some 24) rfl 45 #[.pointer (some ⟨y, 0, none⟩), .string s] (call2_runY (x := 22) (y := 23) rfl (fun _ _ => rfl) (by kernel_rfl) (by kernel_rfl)) (fun r w9 => r = .int .i64 (k : Int) ∧ Below Wd.heap.size Wd w9) (HP1.mono (by rintro e w9 ⟨rfl, hb9⟩; exact ⟨_, rfl, rfl, hb9⟩)) (fun r w9 hR9 => ?_) rdy_nil
  obtain ⟨rfl, hb9⟩ := hR9
  refine ⟨hHeld.trans (hb9.mono (hle0)), fun hHeld => ?_⟩
  simp only [Act.put, List.setIfInBounds_toArray, List.set_cons_succ, List.set_cons_zero]
  have hs1 : Wd.heap.size ≤ w9.heap.size := hb9.size
  refine drawn_take (i := 8) (v := .pointer (some ⟨g, k * 2, none⟩)) (some 25) rfl rfl (by kernel_rfl) (by kernel_rfl) (by kernel_rfl) (fun _ _ _ h => h) (Or.inl ⟨by kernel_rfl, fun wq hw => by go_simp⟩) hHeld ?_
  simp only [Act.put, List.setIfInBounds_toArray, List.set_cons_succ, List.set_cons_zero]
  refine drawn_take (i := 9) (v := .pointer (some ⟨g, k * 2 + 1, none⟩)) (some 26) rfl rfl (by kernel_rfl) (by kernel_rfl) (by kernel_rfl) (fun _ _ _ h => h) (Or.inl ⟨by kernel_rfl, fun wq hw => by go_simp⟩) hHeld ?_
  simp only [Act.put, List.setIfInBounds_toArray, List.set_cons_succ, List.set_cons_zero]
  refine drawn_take (i := 10) (v := .slice (some ⟨fg, 0, none⟩) fl fcc) (some 27) rfl rfl (by kernel_rfl) (by kernel_rfl) (by kernel_rfl) (fun _ _ _ h => h) (Or.inl ⟨by kernel_rfl, fun wq hw => by have q := (hw.cell (p := ⟨g, k * 2 + 1, none⟩) lg).trans c2; go_simp⟩) hHeld ?_
  simp only [Act.put, List.setIfInBounds_toArray, List.set_cons_succ, List.set_cons_zero]
  refine drawn_take (i := 12) (v := .pointer (some ⟨fg, i * 5, none⟩)) (some 29) rfl rfl (by kernel_rfl) (by kernel_rfl) (by kernel_rfl) (fun _ _ _ h => h) (Or.inl ⟨by kernel_rfl, fun wq hw => by go_simp⟩) hHeld ?_
  simp only [Act.put, List.setIfInBounds_toArray, List.set_cons_succ, List.set_cons_zero]
  refine drawn_take (i := 13) (v := .pointer (some ⟨fg, i * 5, none⟩)) (some 30) rfl rfl (by kernel_rfl) (by kernel_rfl) (by kernel_rfl) (fun _ _ _ h => h) (Or.inl ⟨by kernel_rfl, fun wq hw => by go_simp⟩) hHeld ?_
  simp only [Act.put, List.setIfInBounds_toArray, List.set_cons_succ, List.set_cons_zero]
  refine drawn_take (i := 14) (v := .slice (some ⟨q0, 0, none⟩) 128 qc) (some 31) rfl rfl (by kernel_rfl) (by kernel_rfl) (by kernel_rfl) (fun _ _ _ h => h) (Or.inl ⟨by kernel_rfl, fun wq hw => by have q := (hw.cell (p := ⟨fg, i * 5, none⟩) lf).trans c3; go_simp⟩) hHeld ?_
  simp only [Act.put, List.setIfInBounds_toArray, List.set_cons_succ, List.set_cons_zero]
  refine wpAnyH_ready (rs := [0]) (by kernel_rfl) (by simp) ?_
  refine rdy_val (i := 0) rfl rfl (some 17) rfl (.slice (some ⟨w9.heap.size, 0, none⟩) 0 0) (w9.alloc (.cells #[] 5)) (mk0_run rfl) (hHeld.alloc (Nat.le_trans (hle0) hs1) _) (fun hHeld => ?_) rdy_nil
  simp only [Act.put, List.setIfInBounds_toArray, List.set_cons_succ, List.set_cons_zero]
  have he2 := heap_alloc_new w9 (.cells #[] 5)
  have hg2 : w9.grownBy (w9.alloc (.cells #[] 5)) none := grown_alloc w9 _
  obtain ⟨b2, hb2⟩ : ∃ b, b = w9.heap.size := ⟨_, rfl⟩
  obtain ⟨W2, hW2⟩ : ∃ W', W' = w9.alloc (.cells #[] 5) := ⟨_, rfl⟩
  rw [← hb2] at he2
  rw [← hW2] at hHeld he2 hg2
  rw [← hb2, ← hW2]
  have hn2 : n0 ≤ b2 := by rw [hb2]; exact Nat.le_trans (hle0) hs1
  have hs2 : w9.heap.size ≤ W2.heap.size := hg2.size
  clear hW2
  refine wpAnyH_ready (rs := [15]) (by kernel_rfl) (by simp) ?_
  obtain ⟨q3, W3, hr3, hi3, hq3, hqs3, hg3⟩ := cpy W2 b2 he2 ⟨q0, 0, none⟩ qc zs (HZL.out) (fun j u hj => HSrc.out W2 hHeld j u hj)
  refine rdy_val (i := 15) rfl rfl (some 32) rfl (im q3) W3 (app_run3 (x := .tmp 17) (y := .tmp 31) rfl (by kernel_rfl) (by kernel_rfl) hr3) (hHeld.grown hg3 (Nat.le_trans (Nat.le_trans (hle0) hs1) hs2) (fun k hk => by cases hk; assumption)) (fun hHeld => ?_) rdy_nil
  simp only [Act.put, List.setIfInBounds_toArray, List.set_cons_succ, List.set_cons_zero]
  clear hr3
  have hs3 : W2.heap.size ≤ W3.heap.size := hg3.size
  have hqn3 : n0 ≤ q3.1 := Nat.le_trans (Nat.le_trans (Nat.le_trans (hle0) hs1) hs2) hq3
  refine drawn_take (i := 16) (v := im q3) (some 6) rfl rfl (by kernel_rfl) (by kernel_rfl) (by kernel_rfl) (fun _ _ _ h => h) (Or.inl ⟨by kernel_rfl, fun wq hw => by go_simp⟩) hHeld ?_
  simp only [Act.put, List.setIfInBounds_toArray, List.set_cons_succ, List.set_cons_zero]
  refine drawn_take (i := 17) (v := .int .i64 0) (some 7) rfl rfl (by kernel_rfl) (by kernel_rfl) (by kernel_rfl) (fun _ _ _ h => h) (Or.inl ⟨by kernel_rfl, fun wq hw => by go_simp⟩) hHeld ?_
  simp only [Act.put, List.setIfInBounds_toArray, List.set_cons_succ, List.set_cons_zero]
  refine wpAnyH_done (by kernel_rfl) ?_ _
  refine NoPanic.normal ?_
  have hKeep := hHeld
  clear hHeld
  go_wp2_with fail
  go_ret2
  exact ⟨q3, rfl, hi3, Nat.le_trans HN0.out hqn3, HB0.out.trans (hKeep.mono HN0.out)⟩
end Go.Proofs.Ytocfbokgbpaneaa
