/- DiskRots: the law's walk. -/
import Derived.Test.YtoonkkeefppflaaSpotEq
import Derived.Test.YtoonkkeefppflaaDiskPad
import Derived.Test.YtoonkkeefppflaaDiskAwake
import Derived.Test.YtoonkkeefppflaaDiskRot
import Derived.OpenShut
namespace Go.Proofs.Ytoonkkeefppflaa
open Go.RowKit Go.Maps
set_option linter.unusedVariables false
theorem DiskOf.other {w w' : World} {d N : Nat} {F : Nat → Prop} {M : List UInt8 → List Ext} {free fuse : Int} (h : DiskOf w d F N M free fuse) (hb : ∀ k, F k → w'.heap[k]? = w.heap[k]?) : DiskOf w' d F N M free fuse := by
  obtain ⟨bm, D, G, C, h1, h2, h3, h4, h5, h6, h7⟩ := h
  refine ⟨bm, D, G, C, (hb d h2).trans h1, h2, h3, ?_, h5, fun s hs => ?_, h7⟩
  · obtain ⟨es, clock, hbk, Ft, hs, hD⟩ := h4
    exact ⟨es, clock, (hb bm h3.1).trans hbk, Ft, hs, hD⟩
  · obtain ⟨a1, a2, a3⟩ := h6 s hs
    refine ⟨a1, ?_, a3⟩
    obtain ⟨hl, hr⟩ := a2
    refine ⟨hl, ?_⟩
    rcases hr with hr | ⟨g, cap, cur, hv, hg, hh, r⟩
    · exact .inl hr
    · refine .inr ⟨g, cap, cur, hv, hg, ?_, r⟩
      cases hv
      exact (hb _ (h3.2 s hs)).trans hh
theorem rots_or (m : Nat) (h : m < 256) : bits .or .u8 (m : Int) 1 = ((m ||| 1 : Nat) : Int) := bits_or_u .u8 rfl m 1 h (by decide)
theorem rots_xor_ne (x y : Nat) (h : y ≠ 0) : x ^^^ y ≠ x := by
  intro e
  have h1 : x ^^^ (x ^^^ y) = x ^^^ x := by rw [e]
  rw [← Nat.xor_assoc, Nat.xor_self, Nat.zero_xor] at h1
  exact h h1
/-- The names of a disk of one file. -/
theorem names_one {M : List UInt8 → List Ext} {s : List UInt8} (h : ∀ t, M t ≠ [] ↔ t = s) {ts : List (List UInt8)} (hn : Names M ts) : ts = [s] := by
  obtain ⟨h1, _, h3, _⟩ := hn
  have hm : ∀ t, t ∈ ts ↔ t = s := fun t => (h3 t).trans (h t)
  match ts, h1, hm with
  | [], _, hm => exact absurd ((hm s).2 rfl) (by simp)
  | [x], _, hm => rw [(hm x).1 (by simp)]
  | x :: y :: r, h1, hm =>
    have e1 := (hm x).1 (by simp)
    have e2 := (hm y).1 (by simp)
    rw [e1, e2] at h1
    simp at h1
theorem sum_one {M : List UInt8 → List Ext} {s : List UInt8} (h : ∀ t, t ≠ s → M t = []) (n : Nat) (hn : (M s).length ≤ n) : ∀ ts : List (List UInt8), ts.Nodup → (ts.map fun s => (M s).length).sum ≤ n := by
  have hz : ∀ ts : List (List UInt8), s ∉ ts → (ts.map fun s => (M s).length).sum = 0 := by
    intro ts
    induction ts with
    | nil => intro _; rfl
    | cons t r ih =>
      intro hs
      simp at hs
      rw [List.map_cons, List.sum_cons, ih hs.2, h t (fun e => hs.1 e.symm)]
      rfl
  intro ts
  induction ts with
  | nil => intro _; exact Nat.zero_le _
  | cons t r ih =>
    intro hnd
    rw [List.nodup_cons] at hnd
    rw [List.map_cons, List.sum_cons]
    by_cases ht : t = s
    · subst ht
      rw [hz r hnd.1]
      omega
    · rw [h t ht]
      have := ih hnd.2
      simpa using this
theorem upd_one (s : List UInt8) (l : List Ext) (hl : l ≠ []) : ∀ t, upd (fun _ => []) s l t ≠ [] ↔ t = s := by
  intro t
  unfold upd
  by_cases h : t = s
  · simp [h, hl]
  · simp [h]
section
variable {P : Program} {md : Region.Mode} {ops : Array Oper} {Q : Exit → Act → World → Prop} {S : World → Prop} {fuel : Nat} {listed : Array Bool} {a : Act} {w : World} {i : Nat} {o : Oper} {rs : List Nat}
theorem rdy_valw (ho : ops[i]? = some o) (hw : Region.wanted o (yielded ops a.tmps) = true) (dst : Option Nat) (hd : o.dst = dst) (v : Value) (w' : World) (hrun : (execOp a.eval o).run P w = .ok (.value v) w') (hS : S w')
    (h : S w' → wpAnyH P md ops Q S fuel (listed.setIfInBounds i true) (a.put dst v) w') (hs : AllReadyH P md ops Q S fuel listed a w rs) : AllReadyH P md ops Q S fuel listed a w (i :: rs) := by
  subst hd
  refine AllReadyH.cons ho (fun K hK => ?_) hs
  rw [if_pos hw]
  unfold Oper.wp
  rw [hrun]
  exact hK _ _ hS h
theorem rdy_callw (ho : ops[i]? = some o) (hw : Region.wanted o (yielded ops a.tmps) = true) (dst : Option Nat) (hd : o.dst = dst) (f : FuncId) (args : Array Value) (hrun : (execOp a.eval o).run P w = .ok (.enter f args) w) (R : Value → World → Prop)
    (hc : Calls P f args w fun e w' => ∃ v, e = .returned v ∧ R v w')
    (h : ∀ v w', R v w' → S w' ∧ (S w' → wpAnyH P md ops Q S fuel (listed.setIfInBounds i true) (a.put dst v) w')) (hs : AllReadyH P md ops Q S fuel listed a w rs) : AllReadyH P md ops Q S fuel listed a w (i :: rs) := by
  subst hd
  refine AllReadyH.cons ho (fun K hK => ?_) hs
  rw [if_pos hw]
  unfold Oper.wp
  rw [hrun, Oper.upon_enter]
  refine hc.mono fun e w' hh => ?_
  obtain ⟨v, rfl, hR⟩ := hh
  exact hK _ _ (h v w' hR).1 (h v w' hR).2
end
theorem dr_Eq {o : Oper} {a : Act} {w : World} {ts : Array TypeId} {x0 x1 : Nat} {v0 v1 : Value} (ho : o.op = Op.call { callee := Callee.value (Operand.func 18), args := #[.tmp x0, .tmp x1], argTypes := ts }) (hx0 : a.eval (.tmp x0) = v0) (hx1 : a.eval (.tmp x1) = v1) : (execOp a.eval o).run Try.prog w = .ok (.enter 18 #[v0, v1]) w := by
  simp [go_sem, execOp, ho, resolve, invoke]
  exact ⟨by simpa [Act.eval] using hx0, by simpa [Act.eval] using hx1⟩
def nmF : ByteArray := ⟨#[102]⟩
set_option maxHeartbeats 2000000 in
set_option maxRecDepth 100000 in
theorem diskRots_walk (a : Option Addr) (len cap : Nat) (zs : List Nat) (at0 : Int) (mk : Nat) (hmk : mk < 256) (w : World) (hB : Bs w a len zs) :
    Calls Try.prog 4 #[.slice a len cap, .int .i64 at0, .int .u8 mk] w fun e w' => e = .returned (.bool true) ∧ Below w.heap.size w w' := by
  have hpn := fun (wx : World) (p : Option Addr) => run_eql_pointer_nil (P := Try.prog) wx 24 p (by kernel_rfl)
  have hmk128 := mk128
  obtain ⟨k, hk, hk128⟩ : ∃ k : Nat, wrap64 ((IntKind.u64.wrap at0).tmod 128) = (k : Int) ∧ k < 128 := by
    have hU : 0 ≤ IntKind.u64.wrap at0 := by rw [IntKind.wrap_u64]; omega
    have h1 : (IntKind.u64.wrap at0).tmod 128 = IntKind.u64.wrap at0 % 128 := Int.tmod_eq_emod_of_nonneg hU
    have h2 := Int.emod_nonneg (IntKind.u64.wrap at0) (show (128 : Int) ≠ 0 by omega)
    have h3 := Int.emod_lt_of_pos (IntKind.u64.wrap at0) (show (0 : Int) < 128 by omega)
    rw [h1]
    generalize IntKind.u64.wrap at0 % 128 = r at *
    refine ⟨r.toNat, ?_, by omega⟩
    unfold wrap64
    omega
  obtain ⟨m, hm⟩ : ∃ m, m = mk ||| 1 := ⟨_, rfl⟩
  have hor : bits .or .u8 (mk : Int) 1 = (m : Int) := by rw [hm]; exact rots_or mk hmk
  have hm256 : m < 256 := by rw [hm]; exact Nat.or_lt_two_pow (n := 8) hmk (by decide)
  have hm0 : m ≠ 0 := by
    rw [hm]
    intro h
    have := congrArg (fun x => x.testBit 0) h
    simp at this
  have HM0 := hidn (And.intro hm256 hm0)
  clear hm hm256 hm0
  obtain ⟨ps, hps⟩ : ∃ ps, ps = padTo zs := ⟨_, rfl⟩
  go_enter Try.func4, Try.ntmps4
  go_wp2_with fail
  refine (new_any _ 2 (by omega)).mono ?_
  rintro e w1 ⟨rfl, hD1, hb1, hs1⟩
  obtain ⟨F0, hF0⟩ : ∃ F0 : Nat → Prop, F0 = fun k => w.heap.size ≤ k ∧ k < w.heap.size + 2 := ⟨_, rfl⟩
  rw [← hF0] at hD1
  have hbA : Below w1.heap.size w1 (w1.alloc (.cells zero128 5)) := (Below.refl _ _).alloc (Nat.le_refl _) _
  have hgA := heap_alloc_new w1 (.cells zero128 5)
  have BA := hb1.trans (hbA.mono hb1.size)
  obtain ⟨w2, mm, hcp, hb2, hg2⟩ := copy128 _ w1.heap.size a len cap zs hgA (hB.below BA)
  rw [← hps] at hg2
  have hpl : ps.length = 128 := by rw [hps]; exact padTo_length zs
  have hpb : ∀ x ∈ ps, x < 256 := by rw [hps]; exact padTo_lt hB.2.2.1
  have hbs := row_bs hg2 hpl (by decide) hpb
  have hBF : BsF F0 w2 (some ⟨w1.heap.size, 0, none⟩) 128 ps := ⟨hbs, fun x hx _ hF => by
    cases hx
    rw [hF0] at hF
    have h2 : w1.heap.size < w.heap.size + 2 := hF.2
    omega⟩
  have b2 := hb2 w1.heap.size (Nat.le_refl _)
  have HD2 := hidn ((hD1.below hbA).other (fun k hk => b2.block k (by rw [hF0] at hk; have := hk.2; omega)))
  have B2 := BA.trans (b2.mono hb1.size)
  have hge0 : ∀ k, F0 k → w.heap.size ≤ k := by intro k hk; rw [hF0] at hk; exact hk.1
  have hlt0 : ∀ k, F0 k → k < w2.heap.size := by
    intro k hk; rw [hF0] at hk
    have h1 := b2.size
    rw [World.size_alloc] at h1
    have := hk.2
    omega
  have HBF := hidn hBF
  have HGE := hidn hge0
  have HLT := hidn hlt0
  have HB2 := hidn B2
  have HBS := hidn hbs
  clear hs1 hF0 hD1 hbA hgA BA hg2 hbs hBF b2 hb2 B2 hge0 hlt0
  have HPL := hidn hpl
  have HPB := hidn hpb
  clear hps hpl hpb hB hb1
  go_wp2_with fail
  generalize w1.heap.size = g at *
  clear hmk128 hcp
  refine (write_new _ _ F0 0 (fun _ => []) 2 (-1) HD2.out nmF (by decide) 0 0 (hidn rfl) rfl g 0 128 ps HBF.out (by omega) (by omega) (by omega) (by omega) (by decide) (by omega) (by omega)).mono ?_
  rintro e w3 ⟨rfl, F3, hD3, hG3⟩
  obtain ⟨x3, hx3⟩ : ∃ x3 : Ext, x3 = zeroE.wrote ps := ⟨_, rfl⟩
  obtain ⟨M3, hM3⟩ : ∃ M3, M3 = upd (fun _ => []) nmF.data.toList [x3] := ⟨_, rfl⟩
  have HD3 : Hid (DiskOf w3 (w.heap.size + 1) F3 1 M3 1 (-1)) := hidn (by rw [hM3, hx3]; exact hD3)
  have HM3 : Hid (M3 nmF.data.toList = [x3]) := hidn (by rw [hM3, upd_same])
  have HE3 : Hid (∀ t, t ≠ nmF.data.toList → M3 t = []) := hidn (fun t ht => by rw [hM3, upd_other _ _ _ _ ht])
  have HX3 := hidn hx3
  have HBF3 := hidn (HBF.out.gr hG3)
  have HLT3 := hidn (hG3.lt HLT.out)
  have HGE3 := hidn (hG3.ge HB2.out.size HGE.out)
  have HB3 := hidn (HB2.out.trans (hG3.1.below HB2.out.size HGE.out))
  clear hD3 hG3 hM3 HD2 HBF HGE HLT HB2 hx3 HBS
  go_wp2_with fail
  refine (sync_disk _ _ F3 1 M3 1 (-1) HD3.out nmF (by decide) (by rw [HM3.out]; simp) (by omega) (by omega) (by omega)).mono ?_
  rintro e w4 ⟨rfl, hD4, hG4⟩
  obtain ⟨x4, hx4⟩ : ∃ x4 : Ext, x4 = ⟨ps, ps, ps, false⟩ := ⟨_, rfl⟩
  obtain ⟨M4, hM4⟩ : ∃ M4, M4 = upd M3 nmF.data.toList [x4] := ⟨_, rfl⟩
  have HD4 : Hid (DiskOf w4 (w.heap.size + 1) F3 1 M4 1 (-1)) := hidn (by
    rw [HM3.out, HX3.out] at hD4
    rw [hM4, hx4]
    exact hD4)
  have HM4 : Hid (M4 nmF.data.toList = [x4]) := hidn (by rw [hM4, upd_same])
  have HE4 : Hid (∀ t, t ≠ nmF.data.toList → M4 t = []) := hidn (fun t ht => by rw [hM4, upd_other _ _ _ _ ht]; exact HE3.out t ht)
  have HX4 := hidn hx4
  have HBF4 := hidn (HBF3.out.gr hG4)
  have HB4 := hidn (HB3.out.trans (hG4.1.below HB3.out.size HGE3.out))
  clear hD4 hG4 hM4 HD3 HM3 HBF3 HB3 HE3 HX3 hx4
  go_wp2_with fail
  refine (rot_some _ _ F3 1 M4 1 (-1) HD4.out nmF (by decide) 0 1 0 (hidn (by rw [HM4.out]; rfl)) (by omega) rfl k m hk128 HM0.out.1 x4 (hidn (by rw [HM4.out]; rfl))).mono ?_
  rintro e w5 ⟨rfl, hD5, hG5⟩
  obtain ⟨x5, hx5⟩ : ∃ x5 : Ext, x5 = x4.rot k m := ⟨_, rfl⟩
  obtain ⟨M5, hM5⟩ : ∃ M5, M5 = upd M4 nmF.data.toList [x5] := ⟨_, rfl⟩
  have HD5 : Hid (DiskOf w5 (w.heap.size + 1) F3 1 M5 1 (-1)) := hidn (by
    rw [HM4.out] at hD5
    rw [hM5, hx5]
    exact hD5)
  have HM5 : Hid (M5 nmF.data.toList = [x5]) := hidn (by rw [hM5, upd_same])
  have HE5 : Hid (∀ t, t ≠ nmF.data.toList → M5 t = []) := hidn (fun t ht => by rw [hM5, upd_other _ _ _ _ ht]; exact HE4.out t ht)
  have HX5 := hidn hx5
  have HBF5 := hidn (HBF4.out.gr hG5)
  have HB5 := hidn (HB4.out.trans (hG5.1.below HB4.out.size HGE3.out))
  clear hD5 hG5 hM5 HD4 HM4 HBF4 HB4 HE4 hx5
  obtain ⟨pk, hpk⟩ : ∃ pk, pk = ps.getD k 0 := ⟨_, rfl⟩
  have HPK : Hid (ps[k]? = some pk ∧ pk < 256) := hidn (by
    have h1 := HPL.out
    have h2 : k < ps.length := by omega
    have h3 : ps[k]? = some pk := by rw [hpk, List.getD_eq_getElem?_getD, List.getElem?_eq_getElem h2]; rfl
    exact ⟨h3, HPB.out pk (List.mem_of_getElem? h3)⟩)
  obtain ⟨im, him⟩ : ∃ im, im = ps.set k (pk ^^^ m) := ⟨_, rfl⟩
  have HIM : Hid (im = x5.rd) := hidn (by rw [HX5.out, HX4.out, him, hpk]; rfl)
  have HI2 := hidn him
  clear hpk him
  go_wp2_with fail
  refine (diskRead_some _ _ F3 1 M5 1 (-1) HD5.out nmF (by decide) 0 1 0 (hidn (by rw [HM5.out]; rfl)) (by omega) rfl im x5 (hidn (by rw [HM5.out]; rfl)) HIM).mono ?_
  rintro e w6 ⟨b6, rfl, hb6g, hB6, hb6⟩
  have HD6 := hidn (HD5.out.below hb6)
  have HB6 := hidn (HB5.out.trans (hb6.mono HB5.out.size))
  have HBR := hidn hB6
  have HBF6 := hidn (HBF5.out.1.below hb6)
  clear hB6 hb6 HD5 hb6g
  go_wp2_with fail
  refine (damaged_disk _ _ F3 1 M5 1 (-1) HD6.out (by omega) (sum_one HE5.out 1000000 (by rw [HM5.out]; show 1 ≤ _; omega))).mono ?_
  rintro e w7 ⟨v7, rfl, ⟨ts, hnm, hrow⟩, b7⟩
  have hbad5 : Hid (x5.bad = true) := hidn (by
    have hne : ps.set k (pk ^^^ m) ≠ ps := by
      intro e
      have h1 : (ps.set k (pk ^^^ m))[k]? = some (pk ^^^ m) := by
        rw [List.getElem?_set_self (by have := HPL.out; omega)]
      rw [e, HPK.out.1, Option.some.injEq] at h1
      exact rots_xor_ne pk m HM0.out.2 h1.symm
    have e1 : x5.dur = ps.set k (pk ^^^ m) := by
      rw [HX5.out, HX4.out]
      show ps.set k (ps.getD k 0 ^^^ m) = _
      rw [List.getD_eq_getElem?_getD, HPK.out.1]
      rfl
    have e2 : x5.syn = ps := by rw [HX5.out, HX4.out]; rfl
    have e3 : x5.wri = ps := by rw [HX5.out, HX4.out]; rfl
    unfold Ext.bad
    rw [e1, e2, e3, decide_eq_false hne]
    rfl)
  obtain rfl := names_one (s := nmF.data.toList) (fun t => by
    constructor
    · intro h
      by_cases he : t = nmF.data.toList
      · exact he
      · exact absurd (HE5.out t he) h
    · rintro rfl
      rw [HM5.out]; simp) hnm
  have hsp : spotsOf M5 [nmF.data.toList] = [(nmF.data.toList, 0)] := by
    show spotsIn M5 nmF.data.toList (M5 nmF.data.toList).length ++ [] = _
    unfold spotsIn
    rw [HM5.out]
    show (badAt [x5] (0 + 1)).map _ ++ [] = _
    rw [badAt_succ [x5] 0 x5 rfl, hbad5.out]
    rfl
  rw [hsp] at hrow
  obtain ⟨g7, c7, rfl⟩ : ∃ g7 c7, v7 = .slice (some ⟨g7, 0, none⟩) 1 c7 := by
    rcases hrow.2 with ⟨h1, h2⟩ | ⟨g, cap, cur, h1, _⟩
    · cases h2
    · exact ⟨g, cap, h1⟩
  have q0 : w7.cell? ⟨g7, 0, none⟩ = some (.string nmF) := by
    have := hrow.cells (g := g7) rfl 0 (.string nmF) rfl
    simpa [add_none] using this
  have q1 : w7.cell? ⟨g7, 1, none⟩ = some (.int .i64 0) := by
    have := hrow.cells (g := g7) rfl 1 (.int .i64 0) rfl
    simpa [add_none] using this
  have HD7 := hidn (HD6.out.below b7)
  have HB7 := hidn (HB6.out.trans (b7.mono HB6.out.size))
  have HBR7 := hidn (HBR.out.below b7)
  have HBF7 := hidn (HBF6.out.below b7)
  have HQ := hidn (And.intro q0 q1)
  clear b7 hrow hsp hnm HD6 HB6 HBR HBF6 q0 q1
  have r1 : w7.cell? ⟨b6, k, none⟩ = some (.int .u8 ((pk ^^^ m : Nat) : Int)) := by
    have := HBR7.out.2.2.2.2 ⟨b6, 0, none⟩ rfl k hk128
    rw [add_none, Nat.zero_add] at this
    rw [this, HI2.out, List.getD_eq_getElem?_getD, List.getElem?_set_self (by have := HPL.out; omega)]
    rfl
  have r2 : w7.cell? ⟨g, k, none⟩ = some (.int .u8 (pk : Int)) := by
    have := HBF7.out.2.2.2.2 ⟨g, 0, none⟩ rfl k hk128
    rw [add_none, Nat.zero_add] at this
    rw [this, List.getD_eq_getElem?_getD, HPK.out.1]
    rfl
  have hx8 : bits .xor .u8 (pk : Int) (m : Int) = ((pk ^^^ m : Nat) : Int) := xor8 pk m HPK.out.2 HM0.out.1
  have hki : (k : Int) < 128 := by omega
  go_wp2_with fail
  /-MARK-/
  have HR : Hid (w7.drew.cell? ⟨b6, k, none⟩ = some (.int .u8 ((pk ^^^ m : Nat) : Int)) ∧ w7.drew.cell? ⟨g, k, none⟩ = some (.int .u8 (pk : Int))) := hidn ⟨r1, r2⟩
  have HQd : Hid (w7.drew.cell? ⟨g7, 0, none⟩ = some (.string nmF) ∧ w7.drew.cell? ⟨g7, 1, none⟩ = some (.int .i64 0)) := HQ
  have HDd : Hid (DiskOf w7.drew (w.heap.size + 1) F3 1 M5 1 (-1)) := hidn (HD7.out.below (Below.refl _ _).drew)
  have HBd := hidn HB7.out.drew
  clear r1 r2 HQ HD7 HB7 HBR7 HBF7
  refine wp_region_noPanic ?_
  refine wp_region_held_drew (S := fun w' => w'.cell? ⟨b6, k, none⟩ = some (.int .u8 ((pk ^^^ m : Nat) : Int)) ∧ w'.cell? ⟨g, k, none⟩ = some (.int .u8 (pk : Int))) (by kernel_rfl) HR.out (fun hHeld => ?_)
  generalize w7.drew = wd at *
  refine drawn_take (i := 0) (v := .slice (some ⟨b6, 0, none⟩) 128 128) (some 56) rfl rfl (by kernel_rfl) (by kernel_rfl) (by kernel_rfl) (fun _ _ _ h => h) (Or.inl ⟨by kernel_rfl, fun wq hw => by go_simp⟩) hHeld ?_
  simp only [Act.put, List.setIfInBounds_toArray, List.set_cons_succ, List.set_cons_zero]
  refine drawn_take (i := 1) (v := .int .i64 128) (some 57) rfl rfl (by kernel_rfl) (by kernel_rfl) (by kernel_rfl) (fun _ _ _ h => h) (Or.inl ⟨by kernel_rfl, fun wq hw => by go_simp⟩) hHeld ?_
  simp only [Act.put, List.setIfInBounds_toArray, List.set_cons_succ, List.set_cons_zero]
  refine drawn_take (i := 2) (v := .bool false) (some 58) rfl rfl (by kernel_rfl) (by kernel_rfl) (by kernel_rfl) (fun _ _ _ h => h) (Or.inl ⟨by kernel_rfl, fun wq hw => by go_simp⟩) hHeld ?_
  simp only [Act.put, List.setIfInBounds_toArray, List.set_cons_succ, List.set_cons_zero]
  refine drawn_take (i := 3) (v := .bool false) (some 59) rfl rfl (by kernel_rfl) (by kernel_rfl) (by kernel_rfl) (fun _ _ _ h => h) (Or.inl ⟨by kernel_rfl, fun wq hw => by go_simp⟩) hHeld ?_
  simp only [Act.put, List.setIfInBounds_toArray, List.set_cons_succ, List.set_cons_zero]
  refine drawn_take (i := 4) (v := .slice (some ⟨b6, 0, none⟩) 128 128) (some 60) rfl rfl (by kernel_rfl) (by kernel_rfl) (by kernel_rfl) (fun _ _ _ h => h) (Or.inl ⟨by kernel_rfl, fun wq hw => by go_simp⟩) hHeld ?_
  simp only [Act.put, List.setIfInBounds_toArray, List.set_cons_succ, List.set_cons_zero]
  refine drawn_take (i := 5) (v := .int .i64 (k : Int)) (some 61) rfl rfl (by kernel_rfl) (by kernel_rfl) (by kernel_rfl) (fun _ _ _ h => h) (Or.inl ⟨by kernel_rfl, fun wq hw => by go_simp⟩) hHeld ?_
  simp only [Act.put, List.setIfInBounds_toArray, List.set_cons_succ, List.set_cons_zero]
  refine drawn_take (i := 6) (v := .pointer (some ⟨b6, k, none⟩)) (some 62) rfl rfl (by kernel_rfl) (by kernel_rfl) (by kernel_rfl) (fun _ _ _ h => h) (Or.inl ⟨by kernel_rfl, fun wq hw => by go_simp⟩) hHeld ?_
  simp only [Act.put, List.setIfInBounds_toArray, List.set_cons_succ, List.set_cons_zero]
  refine drawn_take (i := 7) (v := .int .u8 ((pk ^^^ m : Nat) : Int)) (some 63) rfl rfl (by kernel_rfl) (by kernel_rfl) (by kernel_rfl) (fun _ _ _ h => h) (Or.inl ⟨by kernel_rfl, fun wq hw => by have q := hw.1; go_simp⟩) hHeld ?_
  simp only [Act.put, List.setIfInBounds_toArray, List.set_cons_succ, List.set_cons_zero]
  refine drawn_take (i := 8) (v := .slice (some ⟨g, 0, none⟩) 128 128) (some 64) rfl rfl (by kernel_rfl) (by kernel_rfl) (by kernel_rfl) (fun _ _ _ h => h) (Or.inl ⟨by kernel_rfl, fun wq hw => by go_simp⟩) hHeld ?_
  simp only [Act.put, List.setIfInBounds_toArray, List.set_cons_succ, List.set_cons_zero]
  refine drawn_take (i := 9) (v := .int .i64 (k : Int)) (some 65) rfl rfl (by kernel_rfl) (by kernel_rfl) (by kernel_rfl) (fun _ _ _ h => h) (Or.inl ⟨by kernel_rfl, fun wq hw => by go_simp⟩) hHeld ?_
  simp only [Act.put, List.setIfInBounds_toArray, List.set_cons_succ, List.set_cons_zero]
  refine drawn_take (i := 10) (v := .pointer (some ⟨g, k, none⟩)) (some 66) rfl rfl (by kernel_rfl) (by kernel_rfl) (by kernel_rfl) (fun _ _ _ h => h) (Or.inl ⟨by kernel_rfl, fun wq hw => by go_simp⟩) hHeld ?_
  simp only [Act.put, List.setIfInBounds_toArray, List.set_cons_succ, List.set_cons_zero]
  refine drawn_take (i := 11) (v := .int .u8 (pk : Int)) (some 67) rfl rfl (by kernel_rfl) (by kernel_rfl) (by kernel_rfl) (fun _ _ _ h => h) (Or.inl ⟨by kernel_rfl, fun wq hw => by have q := hw.2; go_simp⟩) hHeld ?_
  simp only [Act.put, List.setIfInBounds_toArray, List.set_cons_succ, List.set_cons_zero]
  refine drawn_take (i := 12) (v := .int .u8 (m : Int)) (some 68) rfl rfl (by kernel_rfl) (by kernel_rfl) (by kernel_rfl) (fun _ _ _ h => h) (Or.inl ⟨by kernel_rfl, fun wq hw => by go_simp⟩) hHeld ?_
  simp only [Act.put, List.setIfInBounds_toArray, List.set_cons_succ, List.set_cons_zero]
  refine drawn_take (i := 13) (v := .int .u8 ((pk ^^^ m : Nat) : Int)) (some 69) rfl rfl (by kernel_rfl) (by kernel_rfl) (by kernel_rfl) (fun _ _ _ h => h) (Or.inl ⟨by kernel_rfl, fun wq hw => by go_simp⟩) hHeld ?_
  simp only [Act.put, List.setIfInBounds_toArray, List.set_cons_succ, List.set_cons_zero]
  refine drawn_take (i := 14) (v := .bool false) (some 70) rfl rfl (by kernel_rfl) (by kernel_rfl) (by kernel_rfl) (fun _ _ _ h => h) (Or.inl ⟨by kernel_rfl, fun wq hw => by go_simp⟩) hHeld ?_
  simp only [Act.put, List.setIfInBounds_toArray, List.set_cons_succ, List.set_cons_zero]
  refine drawn_take (i := 15) (v := .bool false) (some 71) rfl rfl (by kernel_rfl) (by kernel_rfl) (by kernel_rfl) (fun _ _ _ h => h) (Or.inl ⟨by kernel_rfl, fun wq hw => by go_simp⟩) hHeld ?_
  simp only [Act.put, List.setIfInBounds_toArray, List.set_cons_succ, List.set_cons_zero]
  refine drawn_take (i := 16) (v := .bool false) (some 72) rfl rfl (by kernel_rfl) (by kernel_rfl) (by kernel_rfl) (fun _ _ _ h => h) (Or.inl ⟨by kernel_rfl, fun wq hw => by go_simp⟩) hHeld ?_
  simp only [Act.put, List.setIfInBounds_toArray, List.set_cons_succ, List.set_cons_zero]
  refine drawn_take (i := 17) (v := .slice (some ⟨g7, 0, none⟩) 1 c7) (some 73) rfl rfl (by kernel_rfl) (by kernel_rfl) (by kernel_rfl) (fun _ _ _ h => h) (Or.inl ⟨by kernel_rfl, fun wq hw => by go_simp⟩) hHeld ?_
  simp only [Act.put, List.setIfInBounds_toArray, List.set_cons_succ, List.set_cons_zero]
  refine drawn_take (i := 18) (v := .agg #[.string nmF, .int .i64 0]) (some 74) rfl rfl (by kernel_rfl) (by kernel_rfl) (by kernel_rfl) (fun _ _ _ h => h) (Or.inl ⟨by kernel_rfl, fun wq hw => by have q := builtSpot nmF 0; go_simp; rfl⟩) hHeld ?_
  simp only [Act.put, List.setIfInBounds_toArray, List.set_cons_succ, List.set_cons_zero]
  refine wpAnyH_ready (rs := [19]) (by kernel_rfl) (by simp) ?_
  have bA : Below wd.heap.size wd (wd.alloc (.cells #[.string nmF, .int .i64 0] 51)) := (Below.refl _ _).alloc (Nat.le_refl _) _
  have hblk : ∀ {x : Addr} {v : Value}, wd.cell? x = some v → (wd.alloc (.cells #[.string nmF, .int .i64 0] 51)).cell? x = some v := fun {x v} h => (bA.cell (block_lt_of_cell h)).trans h
  refine rdy_valw (i := 19) rfl (by kernel_rfl) (some 75) rfl (.slice (some ⟨wd.heap.size, 0, none⟩) 1 1) (wd.alloc (.cells #[.string nmF, .int .i64 0] 51)) (by go_simp) ⟨hblk hHeld.1, hblk hHeld.2⟩ (fun hHeld => ?_) rdy_nil
  simp only [Act.put, List.setIfInBounds_toArray, List.set_cons_succ, List.set_cons_zero]
  refine wpAnyH_ready (rs := [20]) (by kernel_rfl) (by simp) ?_
  have hnew := heap_alloc_new wd (.cells #[.string nmF, .int .i64 0] 51)
  refine rdy_callw (i := 20) rfl (by kernel_rfl) (some 76) rfl 18 #[.slice (some ⟨g7, 0, none⟩) 1 c7, .slice (some ⟨wd.heap.size, 0, none⟩) 1 1] (dr_Eq (ts := #[41, 41]) (x0 := 73) (x1 := 75) (by kernel_rfl) (by kernel_rfl) (by kernel_rfl)) (fun r w' => r = .bool true ∧ Below (wd.alloc (.cells #[.string nmF, .int .i64 0] 51)).heap.size (wd.alloc (.cells #[.string nmF, .int .i64 0] 51)) w') ((spotEq_one _ g7 wd.heap.size c7 1 nmF 0 (hblk HQd.out.1) (hblk HQd.out.2) (cell_of_row _ _ _ _ _ _ hnew) (cell_of_row _ _ _ _ _ _ hnew)).mono fun e w' h => ⟨_, h.1, rfl, h.2⟩) (fun r w8 hR => ?_) rdy_nil
  obtain ⟨rfl, b8⟩ := hR
  have HB8 := hidn ((HBd.out.trans (bA.mono HBd.out.size)).trans (b8.mono (by have := HBd.out.size; rw [World.size_alloc]; omega)))
  have HD8 := hidn ((HDd.out.below bA).below b8)
  refine ⟨⟨(b8.cell (block_lt_of_cell hHeld.1)).trans hHeld.1, (b8.cell (block_lt_of_cell hHeld.2)).trans hHeld.2⟩, fun hHeld => ?_⟩
  simp only [Act.put, List.setIfInBounds_toArray, List.set_cons_succ, List.set_cons_zero]
  refine drawn_take (i := 21) (v := .bool false) (some 77) rfl rfl (by kernel_rfl) (by kernel_rfl) (by kernel_rfl) (fun _ _ _ h => h) (Or.inl ⟨by kernel_rfl, fun wq hw => by go_simp⟩) hHeld ?_
  simp only [Act.put, List.setIfInBounds_toArray, List.set_cons_succ, List.set_cons_zero]
  refine drawn_take (i := 22) (v := .bool false) (some 78) rfl rfl (by kernel_rfl) (by kernel_rfl) (by kernel_rfl) (fun _ _ _ h => h) (Or.inl ⟨by kernel_rfl, fun wq hw => by go_simp⟩) hHeld ?_
  simp only [Act.put, List.setIfInBounds_toArray, List.set_cons_succ, List.set_cons_zero]
  refine wpAnyH_done (by kernel_rfl) ?_ _
  refine NoPanic.normal ?_
  clear hHeld hnew bA b8 hblk
  go_wp2_with fail
  refine (rot_some _ _ F3 1 M5 1 (-1) HD8.out nmF (by decide) 0 1 0 (hidn (by rw [HM5.out]; rfl)) (by omega) rfl k m hk128 HM0.out.1 x5 (hidn (by rw [HM5.out]; rfl))).mono ?_
  rintro e w9 ⟨rfl, hD9, hG9⟩
  obtain ⟨M9, hM9⟩ : ∃ M9, M9 = upd M5 nmF.data.toList [x4] := ⟨_, rfl⟩
  have hx54 : x5.rot k m = x4 := by
    have h1 : k < ps.length := by have := HPL.out; omega
    have h2 : ps.getD k 0 = pk := by rw [List.getD_eq_getElem?_getD, HPK.out.1]; rfl
    have h3 : ps = ps.set k pk := by
      apply List.ext_getElem?
      intro i
      by_cases hi : i = k
      · rw [hi, List.getElem?_set_self h1, HPK.out.1]
      · rw [List.getElem?_set_ne (fun e => hi e.symm)]
    rw [HX5.out, HX4.out]
    show (⟨(ps.set k (ps.getD k 0 ^^^ m)).set k ((ps.set k (ps.getD k 0 ^^^ m)).getD k 0 ^^^ m), ps, ps, false⟩ : Ext) = ⟨ps, ps, ps, false⟩
    rw [List.set_set, h2, List.getD_eq_getElem?_getD, List.getElem?_set_self h1]
    show (⟨ps.set k (pk ^^^ m ^^^ m), ps, ps, false⟩ : Ext) = _
    rw [Nat.xor_assoc, Nat.xor_self, Nat.xor_zero, ← h3]
  have HD9 : Hid (DiskOf w9 (w.heap.size + 1) F3 1 M9 1 (-1)) := hidn (by
    rw [HM5.out] at hD9
    rw [hM9, ← hx54]
    exact hD9)
  have HM9 : Hid (M9 nmF.data.toList = [x4]) := hidn (by rw [hM9, upd_same])
  have HE9 : Hid (∀ t, t ≠ nmF.data.toList → M9 t = []) := hidn (fun t ht => by rw [hM9, upd_other _ _ _ _ ht]; exact HE5.out t ht)
  have HB9 := hidn (HB8.out.trans (hG9.1.below HB8.out.size HGE3.out))
  clear hD9 hG9 hM9 HD8 HB8 hx54
  go_wp2_with fail
  refine (damaged_disk _ _ F3 1 M9 1 (-1) HD9.out (by omega) (sum_one HE9.out 1000000 (by rw [HM9.out]; show 1 ≤ _; omega))).mono ?_
  rintro e wz ⟨v7, rfl, ⟨ts, hnm, hrow⟩, bz⟩
  obtain rfl := names_one (s := nmF.data.toList) (fun t => by
    constructor
    · intro h
      by_cases he : t = nmF.data.toList
      · exact he
      · exact absurd (HE9.out t he) h
    · rintro rfl
      rw [HM9.out]; simp) hnm
  have hsp : spotsOf M9 [nmF.data.toList] = [] := by
    show spotsIn M9 nmF.data.toList (M9 nmF.data.toList).length ++ [] = _
    unfold spotsIn
    rw [HM9.out]
    show (badAt [x4] (0 + 1)).map _ ++ [] = _
    have hb4 : x4.bad = false := by
      rw [HX4.out]
      unfold Ext.bad
      rw [decide_eq_true rfl]
      rfl
    rw [badAt_succ [x4] 0 x4 rfl, hb4]
    rfl
  rw [hsp] at hrow
  obtain ⟨sa, sc, rfl⟩ : ∃ sa sc, v7 = .slice sa 0 sc := by
    rcases hrow.2 with ⟨h1, h2⟩ | ⟨g, cap, cur, h1, _⟩
    · exact ⟨none, 0, h1⟩
    · exact ⟨_, cap, h1⟩
  have HBZ := hidn (HB9.out.trans (bz.mono HB9.out.size))
  clear hrow hsp hnm bz
  go_wp2_with fail
  go_ret
  exact ⟨rfl, HBZ.out⟩
theorem diskRots_card (a : Option Addr) (len cap : Nat) (zs : List Nat) (at0 mk : Int) (h2 : (Lit.int .u8 mk).wf = true) (w : World) (hB : Bs w a len zs) :
    Calls Try.prog 4 #[.slice a len cap, .int .i64 at0, .int .u8 mk] w fun e w' => e = .returned (.bool true) ∧ Below w.heap.size w w' := by
  obtain ⟨h3, h4⟩ := bounds_u8 h2
  obtain ⟨n, rfl⟩ : ∃ n : Nat, mk = (n : Int) := ⟨mk.toNat, by omega⟩
  exact diskRots_walk a len cap zs at0 n (by omega) w hB
end Go.Proofs.Ytoonkkeefppflaa
