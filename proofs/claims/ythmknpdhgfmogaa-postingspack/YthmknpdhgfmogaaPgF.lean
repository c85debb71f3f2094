/- postings.Pack. -/
import Derived.Test.YthmknpdhgfmogaaPgE
import Derived.Test.YthmknpdhgfmogaaPgR
import Derived.Test.YthmknpdhgfmogaaAppA
namespace Go.Proofs.Ythmknpdhgfmogaa
open Go.RowKit Go.Shelf
set_option linter.unusedVariables false
attribute [local go_sem] Oper.semAt_some

/-- What Pack leaves. -/
def PackP (w : World) (zs : List Int) (e : Ending) (w' : World) : Prop :=
  Below w.heap.size w w' ∧ ((canP zs = true ∧ ∃ v, e = .returned (.tuple #[v, .int .i64 0]) ∧ w'.ownsRow w.heap.size 5 1 v (packB (dn zs)).length (vb (packB (dn zs)))) ∨ (canP zs = false ∧ e = .returned (.tuple #[.slice none 0 0, .int .i64 1])))

set_option maxHeartbeats 1000000 in
theorem pack_no (a : Option Addr) (len cap : Nat) (zs : List Int) (w : World) (h : Ils w a len zs) (hc : canP zs = false) :
    Calls Try.prog 12 #[.slice a len cap] w (PackP w zs) := by
  have HC := hidn (canPack_any a len cap zs w h)
  rw [hc] at HC
  have HN := hidn hc
  clear h hc
  go_enter Try.func12, Try.ntmps12
  go_wp2_with fail
  refine HC.out.mono ?_
  rintro e w1 ⟨rfl, rfl⟩
  go_wp2_with fail
  go_ret2
  exact ⟨Below.refl _ _, .inr ⟨HN.out, rfl⟩⟩

theorem alloc_keep {w : World} {k : Nat} {o : Obj} (h : w.heap[k]? = some o) (o' : Obj) : (w.alloc o').heap[k]? = some o := (Below.heap_alloc _ _ _ (Array.getElem?_eq_some_iff.1 h).1).trans h

theorem boxes5 {w w1 : World} {o1 o2 o3 o4 o5 : Obj} (h : w1 = ((((w.alloc o1).alloc o2).alloc o3).alloc o4).alloc o5) :
    Below w.heap.size w w1 ∧ w1.heap.size = w.heap.size + 5 ∧ w1.heap[w.heap.size]? = some o1 ∧ w1.heap[w.heap.size + 1]? = some o2 ∧ w1.heap[w.heap.size + 1 + 1]? = some o3 ∧ w1.heap[w.heap.size + 1 + 1 + 1]? = some o4 ∧ w1.heap[w.heap.size + 1 + 1 + 1 + 1]? = some o5 := by
  subst h
  refine ⟨?_, by simp, ?_, ?_, ?_, ?_, ?_⟩
  · exact ((((Below.refl _ w).alloc (Nat.le_refl _) _).alloc (by simp) _).alloc (by simp; omega) _).alloc (by simp; omega) _ |>.alloc (by simp; omega) _
  · have x := heap_alloc_new w o1
    exact (alloc_keep (alloc_keep (alloc_keep (alloc_keep x o2) o3) o4) o5)
  · have x := heap_alloc_new (World.alloc w o1) o2
    simp only [World.size_alloc] at x
    exact (alloc_keep (alloc_keep (alloc_keep x o3) o4) o5)
  · have x := heap_alloc_new (World.alloc (World.alloc w o1) o2) o3
    simp only [World.size_alloc] at x
    exact (alloc_keep (alloc_keep x o4) o5)
  · have x := heap_alloc_new (World.alloc (World.alloc (World.alloc w o1) o2) o3) o4
    simp only [World.size_alloc] at x
    exact (alloc_keep x o5)
  · have x := heap_alloc_new (World.alloc (World.alloc (World.alloc (World.alloc w o1) o2) o3) o4) o5
    simp only [World.size_alloc] at x
    exact x

theorem wpListIn_app_runA {n : Nat} {P : Program} {w w' : World} {ops : Array Oper} {rest : List Oper} {o : Oper} {a : Act} {Q : Exit → Act → World → Prop} (hgd : o.guard = none) (s x : Operand) (t ty : TypeId)
    (ho : o.op = .call { callee := .builtin .append, args := #[s, x], argTypes := #[t, t] }) (hty : o.type = ty) (v vx v' : Value) (hs : a.eval s = v) (hx : a.eval x = vx) (hr : (Builtin.append_ #[t, t] ty #[v, vx]).run P w = .ok v' w')
    (h : wpListIn Fence.wide n P ops Q rest (a.put o.dst v') w') : wpListIn Fence.wide n P ops Q (o :: rest) a w :=
  wpListIn_plain hgd fun _ hK => by
    subst hty
    refine ⟨fun _ _ => trivial, ?_⟩
    show Oper.uponIn _ _ _ _ _ _ _ ((Oper.semAt none a.eval o).run P w)
    rw [Oper.semAt_none]
    unfold execOp
    simp only [ho, resolve, invoke, builtin, Sem.run_bind, Sem.run_pure, Result.andThen_ok, List.map_toArray, List.map_cons, List.map_nil, hs, hx, hr]
    exact hK _ _ h

/-- What lies in Pack's boxes after the blocks pre. -/
def PkI (w : World) (b4 b5 b6 b1 b2 : Nat) (av : Value) (N : Nat) {B : Nat} {w1 : World} (pre : List (Prt B w1)) (W : World) : Prop :=
  ∃ vh vs, PkX w b4 b5 b6 b1 b2 av (pkAll N (pre.map fun x => x.1.zs)).1 (pkAll N (pre.map fun x => x.1.zs)).2.1 (pkAll N (pre.map fun x => x.1.zs)).2.2 W vh vs vh vs

theorem prt_ok {B : Nat} {w1 : World} (pre : List (Prt B w1)) : ∀ z ∈ pre.map (fun x => x.1.zs), RiseN z ∧ 0 < z.length ∧ z.length ≤ 8 := by
  intro z hz
  rw [List.mem_map] at hz
  obtain ⟨x, _, rfl⟩ := hz
  obtain ⟨x, h1, h2, h3, h4⟩ := x
  have h5 : x.zs.length = x.len := by rw [← up_len]; exact h1.1.1
  exact ⟨h4, by show 0 < x.zs.length; omega, by show x.zs.length ≤ 8; omega⟩

set_option maxRecDepth 100000 in
set_option maxHeartbeats 8000000 in
theorem pack_yes (a : Option Addr) (len cap : Nat) (xs : List Nat) (w : World) (h : Ils w a len (up xs)) (hr : RiseN xs) (hcan : canP (up xs) = true) (hcap : len ≤ cap) (hlm : len ≤ 1000) :
    Calls Try.prog 12 #[.slice a len cap] w fun e w' => Below w.heap.size w w' ∧ ∃ v, e = .returned (.tuple #[v, .int .i64 0]) ∧ w'.ownsRow w.heap.size 5 1 v (packB xs).length (vb (packB xs)) := by
  have HC := hidn (canPack_any a len cap (up xs) w h)
  rw [hcan] at HC
  have hxl : xs.length = len := by rw [← up_len]; exact h.1
  have HPS := hidn (putShort_any w.heap.size (.slice none 0 0) [] len w (World.ownsRow_nil _ _ _ _) (by omega) (Nat.zero_le _) (Nat.le_refl _))
  have hIB : IlB w w.heap.size a len xs := ⟨h, fun h0 b off sp e => by
    subst e
    obtain ⟨b2, off2, e2, hc⟩ := h.at (up_get (xs := xs) (i := 0) (by omega))
    cases e2
    exact block_lt_of_cell hc⟩
  clear hcan h
  refine (callsIn_wide (n := 9)).1 ?_
  refine callsIn_of_wp_marks Try.func12 rfl trivial ?_ rfl
  simp only [Try.ntmps12, List.size_toArray, List.length_cons, List.length_nil, Nat.reduceAdd, Nat.reduceSub, Array.replicate_succ, Array.replicate_zero, List.push_toArray, List.append_toArray, List.nil_append, List.cons_append]
  gi_wp2_with (refine ⟨trivial, ?_⟩; gi_at_call 33; refine (callsIn_wide.2 HC.out).mono ?_; rintro e w0 ⟨rfl, rfl⟩)
  gi_wp2_with (refine ⟨trivial, ?_⟩; gi_at_call 34; refine (callsIn_wide.2 HPS.out).mono ?_; rintro e W1 ⟨v0, rfl, hb0⟩; obtain ⟨va, vc, e0⟩ := own_slice hb0.own; rw [List.nil_append] at e0 hb0; obtain ⟨N0, hN0⟩ : ∃ N0, N0 = (shortB len).length := ⟨_, rfl⟩; rw [← hN0] at e0; subst e0; have HN0 := hidn hN0; have HB0 := hidn hb0; clear hN0 hb0)
  gi_wp2_with (refine ⟨trivial, ?_⟩; gi_at_call 35; refine (chunk_in _ _ _ _ _).mono ?_; rintro e w2 ⟨rfl, rfl⟩)
  obtain ⟨Ws, hWs⟩ : ∃ Ws, Ws = ((((W1.alloc (.cells #[.slice va N0 vc] 23)).alloc (.cells #[.slice none 0 0] 23)).alloc (.cells #[.int .i64 0] 3)).alloc (.cells #[.slice a len cap] 22)).alloc (.cells #[.int .i64 8] 3) := ⟨_, rfl⟩
  obtain ⟨bw, hsz, q4, q5, q6, q1, q2⟩ := boxes5 hWs
  rw [← hWs]
  obtain ⟨b4, hb4⟩ : ∃ b4, b4 = W1.heap.size := ⟨_, rfl⟩
  rw [← hb4] at q4 q5 q6 q1 q2 ⊢
  obtain ⟨b5, hb5⟩ : ∃ b5, b5 = b4 + 1 := ⟨_, rfl⟩
  rw [← hb5] at q5 q6 q1 q2 ⊢
  obtain ⟨b6, hb6⟩ : ∃ b6, b6 = b5 + 1 := ⟨_, rfl⟩
  rw [← hb6] at q6 q1 q2 ⊢
  obtain ⟨b1, hb1⟩ : ∃ b1, b1 = b6 + 1 := ⟨_, rfl⟩
  rw [← hb1] at q1 q2 ⊢
  obtain ⟨b2, hb2⟩ : ∃ b2, b2 = b1 + 1 := ⟨_, rfl⟩
  rw [← hb2] at q2 ⊢
  have hw04 : w0.heap.size ≤ b4 := by rw [hb4]; exact HB0.out.siz
  have hw0s : w0.heap.size ≤ Ws.heap.size := by omega
  have hX0 : PkX w0 b4 b5 b6 b1 b2 (.slice a len cap) (shortB len) [] 0 Ws (.slice va N0 vc) (.slice none 0 0) (.slice va N0 vc) (.slice none 0 0) :=
    ⟨q4, q5, q6, q1, q2, own_skip HB0.out.own bw, World.ownsRow_nil _ _ _ _, fun k _ e => (by cases e), HB0.out.bel.trans (bw.mono HB0.out.siz), by omega, by omega, by omega, by omega⟩
  have c1 := hX0.x1.cell
  have c2 := hX0.x2.cell
  have l1 : b1 < Ws.heap.size := by omega
  have l2 : b2 < Ws.heap.size := by omega
  obtain ⟨bb, off, ha⟩ : ∃ bb off, 0 < len → a = some ⟨bb, off, none⟩ := by
    by_cases h0 : 0 < len
    · obtain ⟨bb, off, e, _⟩ := hIB.at h0
      exact ⟨bb, off, fun _ => e⟩
    · exact ⟨0, 0, fun h => absurd h h0⟩
  have hpl : (ptsOf bb off xs).length = nblk xs := by simp [ptsOf]
  have hnb : nblk xs ≤ 126 := by unfold nblk; omega
  have hw5 : w0.heap.size ≤ b5 := by omega
  have hw6 : w0.heap.size ≤ b6 := by omega
  have HXL := hidn hxl
  clear hWs hb4 hb5 hb6 hb1 hb2 hsz q4 q5 q6 q1 q2 HB0 HN0 bw hxl
  refine wpIn_rangeFunc_ownG rfl (by decide) (gf := 54) (lb := #[.pointer (some ⟨b1, 0, none⟩), .pointer (some ⟨b2, 0, none⟩)]) rfl trivial (enters_of Try.func54 (by kernel_rfl) rfl)
    (chunk_stops 8 (by decide) b1 b2 w0 Ws w0.heap.size a bb off len cap ha xs hIB hr hcap (by omega) c1 c2) KpW.trans (kpW_b l1 l2) (Below.refl _ _) (fun _ => rfl)
    (PkI w0 b4 b5 b6 b1 b2 (.slice a len cap) len) (fun _ _ _ => False)
    (fun pre W W' row hi hgr hrow => ⟨hi.choose, hi.choose_spec.choose, hi.choose_spec.choose_spec.own hgr (fun r e => ⟨Nat.le_trans hw0s (hrow r e).1, (hrow r e).2⟩)⟩)
    (fun c pre W W' row hx _ _ => hx)
    ⟨_, _, hX0⟩
    (fun x => { tmps := #[.slice a len cap, undef, .slice none 0 0, .int .i64 0, .pointer (some ⟨b4, 0, none⟩), .pointer (some ⟨b5, 0, none⟩), .pointer (some ⟨b6, 0, none⟩), .slice x.1.a x.1.len x.1.len, undef, .slice a len cap, .bool true, .bool false, .slice a len cap, .int .i64 (len : Int), .slice va N0 vc, .slice a len cap, .func (.func 54) #[] #[.pointer (some ⟨b1, 0, none⟩), .pointer (some ⟨b2, 0, none⟩)], .slice x.1.a x.1.len x.1.len, undef, undef, undef, undef, undef, undef, undef, undef, undef, undef, undef, undef, undef, undef, undef, undef, undef, undef, undef, undef, undef, undef, undef, undef], defers := [] }) ?assign ?body ?done ?stop
  case assign =>
    intro lb x W K hK
    simp only [Prt.args]
    gi_wp2
    exact hK
  case body =>
    rintro lb pre x W ⟨vh, vs, hX⟩ hlt'
    rw [hpl] at hlt'
    obtain ⟨⟨xa, xl, xz⟩, hxB, hx0, hx8, hxr⟩ := x
    simp only at hxB hx0 hx8 hxr
    obtain ⟨h1, h2, h3, h4⟩ := pkAll_len len (by omega) pre.length (pre.map fun x => x.1.zs) (by simp) (prt_ok pre)
    have hstep : pkAll len ((pre ++ [(⟨⟨xa, xl, xz⟩, hxB, hx0, hx8, hxr⟩ : Prt w0.heap.size w0)]).map fun x => x.1.zs) = pkF (pkAll len (pre.map fun x => x.1.zs)) xz := by rw [List.map_append, List.map_singleton, pkAll_snoc]
    obtain ⟨st, hst⟩ : ∃ st, st = pkAll len (pre.map fun x => x.1.zs) := ⟨_, rfl⟩
    rw [← hst] at hX h1 h2 h3 h4 hstep
    obtain ⟨h, b, p⟩ := st
    simp only at hX h1 h2 h3 h4
    have HST := hidn hstep
    obtain ⟨ha4, hc4, e4⟩ := own_slice hX.oh
    obtain ⟨sa5, sc5, e5⟩ := own_slice hX.os
    subst e4 e5
    obtain ⟨L4, hL4⟩ : ∃ L4, L4 = h.length := ⟨_, rfl⟩
    obtain ⟨L5, hL5⟩ : ∃ L5, L5 = b.length := ⟨_, rfl⟩
    have hbl := body_len xz hxr
    have hxzl : xz.length = xl := by rw [← up_len]; exact hxB.1.1
    obtain ⟨xb, xo, exa, hxlt, hxc⟩ := (show IlB w0 w0.heap.size xa xl xz from hxB).at hx0
    subst exa
    obtain ⟨f0, hf0⟩ : ∃ f0, f0 = nD xz 0 := ⟨_, rfl⟩
    rw [← hf0, Nat.add_zero] at hxc
    have hf0m : f0 ≤ 2147483647 := by rw [hf0]; exact hxr.1 0 (by omega)
    have HPB := hidn (putBody_any w0.heap.size (.slice sa5 b.length sc5) b (some ⟨xb, xo, none⟩) xl xl xz W hX.os (hxB.bel hX.bl) hxr (by omega) (by omega) hX.bl.size)
    have HX := hidn hX
    have c5 := hX.x5.cell
    rw [← hL5] at HPB c5
    have HF0 := hidn hf0
    have HL4 := hidn hL4
    have HL5 := hidn hL5
    clear hst hstep hX hL4 hL5 hf0
    gi_wp2_with (refine ⟨trivial, ?_⟩; gi_at_call 36; refine (CallsIn.inRound lb (callsIn_wide.2 HPB.out)).mono ?_; rintro e W2 ⟨v5, rfl, k5⟩; obtain ⟨sa7, sc7, e7⟩ := own_slice k5.own; subst e7; obtain ⟨L7, hL7⟩ : ∃ L7, L7 = (b ++ body xz).length := ⟨_, rfl⟩; have HX2 := hidn (HX.out.call5 (by rw [← HL5.out]; exact k5)); have HRK2 := hidn ((Rk.refl W).bld (by rw [← HL5.out]; have q := HX.out.os; rw [← HL5.out] at q; exact q) k5); rw [← hL7] at HX2 ⊢; have HL7 := hidn hL7; have c52 := HX2.out.x5.cell; have f52 := HX2.out.x5.frozen; clear c5 k5 hL7)
    obtain ⟨W3, hW3⟩ : ∃ W3, W3 = W2.setCell ⟨b5, 0, none⟩ (.slice sa7 L7 sc7) := ⟨_, rfl⟩
    rw [← hW3]
    have HX3 := hidn (HX2.out.set5 hw5 (.slice sa7 L7 sc7))
    have HRK3 := hidn (HRK2.out.set HX2.out.x5 (.slice sa7 L7 sc7))
    rw [← hW3] at HX3 HRK3
    have n3 : IntKind.i64.wrap ((f0 : Int) - p) = (f0 : Int) - p := by rw [IntKind.wrap_i64]; omega
    have hdx : Below W3.heap.size W3 W3.drew := (Below.refl _ W3).drew
    have HX3d := hidn (HX3.out.below hdx)
    have c4 := HX3d.out.x4.cell
    rw [← HL4.out] at c4
    have HPS3 := hidn (putShortZ_any w0.heap.size (.slice ha4 h.length hc4) h ((f0 : Int) - p) W3.drew HX3d.out.oh (by omega) (by omega) HX3d.out.bl.size)
    rw [← HL4.out] at HPS3
    have HRD : Hid (∀ w', Below w0.heap.size w0 w' → w'.cell? ⟨xb, xo, none⟩ = some (.int .i64 (f0 : Int))) := hidn (fun w' hb' => (hb'.cell (p := ⟨xb, xo, none⟩) hxlt).trans hxc)
    clear hW3 c52 f52
    refine regionIn_held (S := fun w' => Below w0.heap.size w0 w' ∧ w'.cell? ⟨b6, 0, none⟩ = some (.int .i64 p)) (by kernel_rfl) (by kernel_rfl) ⟨HX3d.out.bl, HX3d.out.x6.cell⟩ (fun hHeld => ?_)
    refine drawn_take (i := 1) (v := .slice (some ⟨xb, xo, none⟩) xl xl) (some 24) rfl rfl (by kernel_rfl) (by kernel_rfl) (by kernel_rfl) (fun _ _ _ h => h) (Or.inl ⟨by kernel_rfl, fun wq hw => by go_simp⟩) hHeld ?_
    simp only [Act.put, List.setIfInBounds_toArray, List.set_cons_succ, List.set_cons_zero]
    refine drawn_take (i := 2) (v := .pointer (some ⟨xb, xo, none⟩)) (some 25) rfl rfl (by kernel_rfl) (by kernel_rfl) (by kernel_rfl) (fun _ _ _ h => h) (Or.inl ⟨by kernel_rfl, fun wq hw => by go_simp⟩) hHeld ?_
    simp only [Act.put, List.setIfInBounds_toArray, List.set_cons_succ, List.set_cons_zero]
    refine drawn_take (i := 3) (v := .int .i64 (f0 : Int)) (some 26) rfl rfl (by kernel_rfl) (by kernel_rfl) (by kernel_rfl) (fun _ _ _ h => h) (Or.inl ⟨by kernel_rfl, fun wq hw => by have q9 := HRD.out _ hw.1; go_simp⟩) hHeld ?_
    simp only [Act.put, List.setIfInBounds_toArray, List.set_cons_succ, List.set_cons_zero]
    refine drawn_take (i := 4) (v := .int .i64 p) (some 27) rfl rfl (by kernel_rfl) (by kernel_rfl) (by kernel_rfl) (fun _ _ _ h => h) (Or.inl ⟨by kernel_rfl, fun wq hw => by have q9 := hw.2; go_simp⟩) hHeld ?_
    simp only [Act.put, List.setIfInBounds_toArray, List.set_cons_succ, List.set_cons_zero]
    refine drawn_take (i := 5) (v := .int .i64 ((f0 : Int) - p)) (some 28) rfl rfl (by kernel_rfl) (by kernel_rfl) (by kernel_rfl) (fun _ _ _ h => h) (Or.inl ⟨by kernel_rfl, fun wq hw => by go_simp⟩) hHeld ?_
    simp only [Act.put, List.setIfInBounds_toArray, List.set_cons_succ, List.set_cons_zero]
    refine wpAnyH_ready (rs := [0]) (by kernel_rfl) (by simp) ?_
    refine rdy_val (i := 0) rfl rfl (some 23) rfl (.slice ha4 L4 hc4) (W3.drew) (by go_simp) (hHeld) (fun hHeld => ?_) rdy_nil
    simp only [Act.put, List.setIfInBounds_toArray, List.set_cons_succ, List.set_cons_zero]
    refine wpAnyH_ready (rs := [6]) (by kernel_rfl) (by simp) ?_
    refine rdy_call (i := 6) rfl rfl (some 29) rfl 34 #[.slice ha4 L4 hc4, .int .i64 ((f0 : Int) - p)] (call2_run (x := 23) (y := 28) rfl (fun _ _ => rfl) (by kernel_rfl) (by kernel_rfl)) (fun r w9 => Bld W3.drew w9 w0.heap.size (Value.slice ha4 L4 hc4).ownBlock r (h ++ shortZ ((f0 : Int) - p))) (HPS3.out.mono (by rintro e w9 ⟨r, rfl, hb⟩; exact ⟨r, rfl, hb⟩)) (fun r w9 hR => ?_) rdy_nil
    have HX4 := hidn (HX3d.out.call4 (by rw [← HL4.out]; exact hR))
    have HRK4 := hidn ((HRK3.out.below hdx).bld (by have q := HX3d.out.oh; rw [← HL4.out] at q; rw [← HL4.out]; exact q) hR)
    obtain ⟨ga, gc, e8⟩ := own_slice hR.own
    subst e8
    obtain ⟨L8, hL8⟩ : ∃ L8, L8 = (h ++ shortZ ((f0 : Int) - p)).length := ⟨_, rfl⟩
    rw [← hL8] at HX4 ⊢
    have HL8 := hidn hL8
    clear hL8 hR
    refine ⟨⟨HX4.out.bl, HX4.out.x6.cell⟩, fun hHeld => ?_⟩
    simp only [Act.put, List.setIfInBounds_toArray, List.set_cons_succ, List.set_cons_zero]
    have c43 := HX4.out.x4.cell
    have f43 := HX4.out.x4.frozen
    have HX5 := hidn (HX4.out.set4 hw04 (.slice ga L8 gc))
    have HRK5 := hidn (HRK4.out.set HX4.out.x4 (.slice ga L8 gc))
    refine wpAnyH_ready (rs := [7]) (by kernel_rfl) (by simp) ?_
    refine rdy_unit (i := 7) rfl rfl none rfl (w9.setCell ⟨b4, 0, none⟩ (.slice ga L8 gc)) (by go_simp) (⟨HX5.out.bl, HX5.out.x6.cell⟩) (fun hHeld => ?_) rdy_nil
    simp only [Act.put]
    refine wpAnyH_done (by kernel_rfl) ?_ _
    refine onlyN_normal ?_
    clear hHeld c4 c43 f43 n3 HPB HPS3
    obtain ⟨W5, hW5⟩ : ∃ W5, W5 = w9.setCell ⟨b4, 0, none⟩ (.slice ga L8 gc) := ⟨_, rfl⟩
    rw [← hW5] at HX5 HRK5 ⊢
    clear hW5
    have c54 := HX5.out.x4.cell
    have c55 := HX5.out.x5.cell
    obtain ⟨bl, hbl2⟩ : ∃ bl, bl = (body xz).length := ⟨_, rfl⟩
    have hL75 : (L7 : Int) - (L5 : Int) = (bl : Int) := by have q1 := HL7.out; have q2 := HL5.out; rw [List.length_append] at q1; omega
    have h8l : (h ++ shortZ ((f0 : Int) - p)).length ≤ 10000000 := by
      rw [List.length_append]
      have := shortZ_len ((f0 : Int) - p) (by omega)
      omega
    have HPS5 := hidn (putShort_any w0.heap.size (.slice ga (h ++ shortZ ((f0 : Int) - p)).length gc) (h ++ shortZ ((f0 : Int) - p)) bl W5 (by have q := HX5.out.oh; rw [HL8.out] at q; exact q) (by omega) h8l HX5.out.bl.size)
    rw [← HL8.out] at HPS5
    have HBL := hidn hbl2
    have hblm : bl ≤ 1000 := by omega
    clear hbl2 hbl
    gi_wp2
    refine ⟨trivial, ?_⟩
    refine (CallsIn.inRound lb (callsIn_wide.2 HPS5.out)).mono ?_
    rintro e W6 ⟨v6, rfl, k6⟩
    obtain ⟨ga6, gc6, e6⟩ := own_slice k6.own
    subst e6
    obtain ⟨L6, hL6⟩ : ∃ L6, L6 = (h ++ shortZ ((f0 : Int) - p) ++ shortB bl).length := ⟨_, rfl⟩
    have HX6 := hidn (HX5.out.call4 k6)
    have HRK6 := hidn (HRK5.out.bld (by have q := HX5.out.oh; rw [HL8.out] at q; rw [HL8.out]; exact q) k6)
    rw [← hL6] at HX6 ⊢
    have HL6 := hidn hL6
    have c64 := HX6.out.x4.cell
    have f64 := HX6.out.x4.frozen
    have HX7 := hidn (HX6.out.set4 hw04 (.slice ga6 L6 gc6))
    have HRK7 := hidn (HRK6.out.set HX6.out.x4 (.slice ga6 L6 gc6))
    have c7x := HRD.out _ HX7.out.bl
    have c76 := HX7.out.x6.cell
    have f76 := HX7.out.x6.frozen
    clear c54 c55 k6 hL6
    gi_wp2
    have HX8 := HX7.out.set6 hw6 (f0 : Int)
    have e1 : pkF (h, b, p) xz = (h ++ shortZ ((f0 : Int) - p) ++ shortB bl, b ++ body xz, (f0 : Int)) := by unfold pkF; simp only [HF0.out, HBL.out]
    have e2 := HST.out
    rw [e1] at e2
    refine ⟨(HRK7.out.set HX7.out.x6 (.int .i64 (f0 : Int))).from _, HX.out.kp HX8, ?_⟩
    refine ⟨.slice ga6 L6 gc6, .slice sa7 L7 sc7, ?_⟩
    rw [e2]
    exact HX8
  case done =>
    rintro D ys W hD hys ⟨vh, vs, hX⟩ hKd
    have hzs : (ys.map fun x => x.1.zs) = (List.range (nblk xs)).map (blk xs) := by
      have e1 : (ys.map fun x => x.1.zs) = (ys.map Subtype.val).map Pt.zs := by rw [List.map_map]; rfl
      rw [e1, hys]
      unfold ptsOf
      rw [List.map_map]
      rfl
    rw [hzs, ← HXL.out, pkAll_blocks xs hr _ (Nat.le_refl _)] at hX
    simp only at hX
    have hhl := hdTo_len hr (by rw [HXL.out]; omega) (nblk xs) (Nat.le_refl _)
    have hbl := bdTo_len hr (nblk xs)
    obtain ⟨hd, hhd⟩ : ∃ hd, hd = hdTo xs (nblk xs) := ⟨_, rfl⟩
    obtain ⟨bd, hbd⟩ : ∃ bd, bd = bdTo xs (nblk xs) := ⟨_, rfl⟩
    have hpk : packB xs = hd ++ bd := by rw [hhd, hbd]; rfl
    rw [← hhd] at hX hhl
    rw [← hbd] at hX hbl
    obtain ⟨ha4, hc4, e4⟩ := own_slice hX.oh
    obtain ⟨sa5, sc5, e5⟩ := own_slice hX.os
    subst e4 e5
    obtain ⟨L4, hL4⟩ : ∃ L4, L4 = hd.length := ⟨_, rfl⟩
    obtain ⟨L5, hL5⟩ : ∃ L5, L5 = bd.length := ⟨_, rfl⟩
    obtain ⟨i0, hi, hz0, hz1, hz2⟩ := info_parts Try.info5
    obtain ⟨v9, W9, hrun, hown, hgr⟩ := appAny (P := Try.prog) W w0.heap.size 23 23 5 i0 (.int .u8 0) 1 1 Try.underlying23 hi hz0 hz1 hz2 rfl (by decide) (.slice ha4 hd.length hc4) hd.length (vb hd) hX.oh hX.bl.size sa5 bd.length sc5 (vb bd) (by simp [vb]) (fun e => by
      subst e
      rcases hX.os.2 with ⟨_, e⟩ | ⟨g, _, _, e, _⟩
      · exact e
      · cases e) (fun x hx j u hj => by
      subst hx
      obtain ⟨xg, xo2, xs2⟩ := x
      have e : xo2 = 0 ∧ xs2 = none := by
        rcases hX.os.2 with ⟨e, _⟩ | ⟨g, _, _, e, _⟩
        · cases e
        · cases e; exact ⟨rfl, rfl⟩
      obtain ⟨rfl, rfl⟩ := e
      exact hX.os.cells (g := xg) rfl j u hj) (vb_cell bd) (by unfold maxLen; omega) (by omega)
    have hKd9 : W9.heap[D]? = some (.deferred (some [])) := (hgr.block D (Array.getElem?_eq_some_iff.1 hKd).1 (fun e => by
      obtain ⟨c, hc⟩ := own_isCells hX.oh e.symm
      rw [hKd] at hc
      cases hc)).trans hKd
    have hb9 : Below w0.heap.size w0 W9 := hX.bl.grown hgr hX.bl.size (fun k hk => (hX.oh.lt k hk).1)
    have HF : Hid (W9.ownsRow w0.heap.size 5 1 v9 (packB xs).length (vb (packB xs))) := hidn (by rw [hpk, vb_app, List.length_append]; exact hown)
    have c4 := hX.x4.cell
    have c5 := hX.x5.cell
    rw [← hL4] at c4 hrun
    rw [← hL5] at c5 hrun
    have HRUN := hidn hrun
    have HB9 := hidn hb9
    have HD := hidn hD
    clear hhd hbd hL4 hL5 hrun hown hgr hb9 hX hys hzs hpk hhl hbl hD
    gi_wp2_with (gi_at_builtin; refine wpListIn_app_runA rfl _ _ 23 23 rfl rfl _ _ _ rfl rfl HRUN.out ?_; clear HRUN)
    refine ⟨by simp, .inl ⟨_, _, rfl, run_takeDeferred hKd9, ?_⟩⟩
    have HF2 := ownsRow_putObj HF.out (.deferred none) hKd9 rfl
    have HB2 : Below w0.heap.size w0 (W9.putObj D (.deferred none)) := HB9.out.trans (belowK_b (w := w0) (Nat.le_refl _) W9 D _ _ (Nat.le_trans hw0s HD.out) hKd9 rfl rfl)
    exact ⟨.tuple #[v9, .int .i64 0], by simp [results, Try.results12, go_sem], HB2, v9, rfl, HF2⟩
  case stop =>
    rintro D c pre W _ _ hx _
    exact hx.elim
end Go.Proofs.Ythmknpdhgfmogaa
