/- DiskStays: the law's walk. -/
import Derived.Test.YtjfdhfcjjikliaaDiskFK
import Derived.Test.YtjfdhfcjjikliaaDiskAny
import Derived.Test.YtjfdhfcjjikliaaStepsDef
import Derived.Test.YtjfdhfcjjikliaaDiskCrashD
import Derived.Test.YtjfdhfcjjikliaaDiskRead
import Derived.Test.YtjfdhfcjjikliaaDiskSyncD
namespace Go.Proofs.Ytjfdhfcjjikliaa
open Go.RowKit Go.Maps
set_option linter.unusedVariables false
theorem DiskOf.other {w w' : World} {d N : Nat} {F : Nat → Prop} {M : List UInt8 → List Ext} {free fuse : Int} (h : DiskOf w d F N M free fuse) (hb : ∀ k, F k → w'.heap[k]? = w.heap[k]?) : DiskOf w' d F N M free fuse := by
  obtain ⟨bm, D, G, C, h1, h2, h3, h4, h5, h6, h7⟩ := h
  refine ⟨bm, D, G, C, (hb d h2).trans h1, h2, h3, ?_, h5, fun s hs => ?_, h7⟩
  · obtain ⟨es, clock, hbk, Ft, hs, hD⟩ := h4
    exact ⟨es, clock, (hb bm h3.1).trans hbk, Ft, hs, hD⟩
  · obtain ⟨a1, a2, a3⟩ := h6 s hs
    refine ⟨a1, ?_, a3⟩
    obtain ⟨hl, hr⟩ := a2
    refine ⟨hl, ?_⟩
    rcases hr with hr | ⟨g, cap, cur, hv, hg, hh, r⟩
    · exact .inl hr
    · refine .inr ⟨g, cap, cur, hv, hg, ?_, r⟩
      cases hv
      exact (hb _ (h3.2 s hs)).trans hh
set_option maxHeartbeats 1000000 in
theorem bytesEqual_same (w : World) (a b : Option Addr) (n ca cb : Nat) (zs : List Nat) (ha : Bs w a n zs) (hb : Bs w b n zs) :
    Calls Try.prog 10 #[.slice a n ca, .slice b n cb] w fun e w' => e = .returned (.bool true) ∧ Below w.heap.size w w' := by
  have h1 := ha.str (cap := ca)
  have h2 := hb.str (cap := cb)
  have HA := hidn ha
  have HB := hidn hb
  clear ha hb
  generalize strB zs = st at *
  go_enter Try.func10, Try.ntmps10
  go_wp2
  go_ret
  exact ⟨rfl, Below.refl _ _⟩
theorem ds_Full {o : Oper} {a : Act} {w : World} {ts : Array TypeId} {x0 : Nat} {v0 : Value} (ho : o.op = Op.call { callee := Callee.value (Operand.func 7), args := #[.tmp x0], argTypes := ts }) (hx0 : a.eval (.tmp x0) = v0) : (execOp a.eval o).run Try.prog w = .ok (.enter 7 #[v0]) w := by
  simp [go_sem, execOp, ho, resolve, invoke]
  simpa [Act.eval] using hx0
theorem ds_Write {o : Oper} {a : Act} {w : World} {ts : Array TypeId} {x0 x1 x2 x3 : Nat} {v0 v1 v2 v3 : Value} (ho : o.op = Op.call { callee := Callee.value (Operand.func 5), args := #[.tmp x0, .tmp x1, .tmp x2, .tmp x3], argTypes := ts }) (hx0 : a.eval (.tmp x0) = v0) (hx1 : a.eval (.tmp x1) = v1) (hx2 : a.eval (.tmp x2) = v2) (hx3 : a.eval (.tmp x3) = v3) : (execOp a.eval o).run Try.prog w = .ok (.enter 5 #[v0, v1, v2, v3]) w := by
  simp [go_sem, execOp, ho, resolve, invoke]
  exact ⟨by simpa [Act.eval] using hx0, by simpa [Act.eval] using hx1, by simpa [Act.eval] using hx2, by simpa [Act.eval] using hx3⟩
theorem ds_Eq {o : Oper} {a : Act} {w : World} {ts : Array TypeId} {x0 x1 : Nat} {v0 v1 : Value} (ho : o.op = Op.call { callee := Callee.value (Operand.func 10), args := #[.tmp x0, .tmp x1], argTypes := ts }) (hx0 : a.eval (.tmp x0) = v0) (hx1 : a.eval (.tmp x1) = v1) : (execOp a.eval o).run Try.prog w = .ok (.enter 10 #[v0, v1]) w := by
  simp [go_sem, execOp, ho, resolve, invoke]
  exact ⟨by simpa [Act.eval] using hx0, by simpa [Act.eval] using hx1⟩
theorem mkL (W : World) (L : Nat) (hL : L ≤ 1000) : (Instr.makeSlice 22 (.int .i64 (L : Int)) (.int .i64 (L : Int))).run Try.prog W = .ok (.slice (some ⟨W.heap.size, 0, none⟩) L L) (W.alloc (.cells (vb (List.replicate L 0)).toArray 5)) := by
  obtain ⟨i0, hi, hz0, hz1, hz2⟩ := info_parts Try.info5
  have h := run_make (P := Try.prog) W 22 5 i0 (.int .u8 0) Try.underlying22 hi hz0 .i64 .i64 (L : Int) (L : Int) (by omega) (by omega) (by rw [hz2]; omega) (by omega)
  rw [hz1, Nat.mul_one, Int.toNat_natCast] at h
  have e : madeCells (Value.int .u8 0).cells L = (vb (List.replicate L 0)).toArray := by
    have h1 := toList_madeCells_one (.int .u8 0) L
    have h2 : vb (List.replicate L 0) = List.replicate L (.int .u8 0) := by simp [vb]
    rw [h2, ← h1]
    show _ = (madeCells #[Value.int .u8 0] L).toList.toArray
    rw [Array.toArray_toList]
    rfl
  rw [e] at h
  exact h
theorem bs_take {w : World} {b : Nat} {zs : List Nat} (h : Bs w (some ⟨b, 0, none⟩) 128 zs) (n : Nat) (hn : n ≤ 128) : Bs w (some ⟨b, 0, none⟩) n (zs.take n) := by
  obtain ⟨h1, h2, h3, h4, h5⟩ := h
  refine ⟨by rw [List.length_take, h1]; omega, by unfold maxLen; omega, fun x hx => h3 x (List.mem_of_mem_take hx), (fun h => by cases h), fun x hx j hj => ?_⟩
  rw [h5 x hx j (by omega), List.getD_eq_getElem?_getD, List.getD_eq_getElem?_getD, List.getElem?_take, if_pos hj]
theorem bs_drop {w : World} {b : Nat} {zs : List Nat} (h : Bs w (some ⟨b, 0, none⟩) 128 zs) (n : Nat) (hn : n ≤ 128) (AY : Addr) (hA : AY = if 128 = n then ⟨b, 0, none⟩ else ⟨b, n, none⟩) : Bs w (some AY) (128 - n) (zs.drop n) := by
  obtain ⟨h1, h2, h3, h4, h5⟩ := h
  refine ⟨by rw [List.length_drop, h1], by unfold maxLen; omega, fun x hx => h3 x (List.mem_of_mem_drop hx), (fun h => by cases h), fun x hx j hj => ?_⟩
  cases hx
  rw [if_neg (by omega)] at hA
  rw [hA, add_none, List.getD_eq_getElem?_getD, List.getElem?_drop]
  have := h5 _ rfl (n + j) (by omega)
  rw [add_none, Nat.zero_add, List.getD_eq_getElem?_getD] at this
  exact this
section
variable {P : Program} {md : Region.Mode} {ops : Array Oper} {Q : Exit → Act → World → Prop} {S : World → Prop} {fuel : Nat} {listed : Array Bool} {a : Act} {w : World} {i : Nat} {o : Oper} {rs : List Nat}
theorem rdy_valw (ho : ops[i]? = some o) (hw : Region.wanted o (yielded ops a.tmps) = true) (dst : Option Nat) (hd : o.dst = dst) (v : Value) (w' : World) (hrun : (execOp a.eval o).run P w = .ok (.value v) w') (hS : S w')
    (h : S w' → wpAnyH P md ops Q S fuel (listed.setIfInBounds i true) (a.put dst v) w') (hs : AllReadyH P md ops Q S fuel listed a w rs) : AllReadyH P md ops Q S fuel listed a w (i :: rs) := by
  subst hd
  refine AllReadyH.cons ho (fun K hK => ?_) hs
  rw [if_pos hw]
  unfold Oper.wp
  rw [hrun]
  exact hK _ _ hS h
theorem rdy_callw (ho : ops[i]? = some o) (hw : Region.wanted o (yielded ops a.tmps) = true) (dst : Option Nat) (hd : o.dst = dst) (f : FuncId) (args : Array Value) (hrun : (execOp a.eval o).run P w = .ok (.enter f args) w) (R : Value → World → Prop)
    (hc : Calls P f args w fun e w' => ∃ v, e = .returned v ∧ R v w')
    (h : ∀ v w', R v w' → S w' ∧ (S w' → wpAnyH P md ops Q S fuel (listed.setIfInBounds i true) (a.put dst v) w')) (hs : AllReadyH P md ops Q S fuel listed a w rs) : AllReadyH P md ops Q S fuel listed a w (i :: rs) := by
  subst hd
  refine AllReadyH.cons ho (fun K hK => ?_) hs
  rw [if_pos hw]
  unfold Oper.wp
  rw [hrun, Oper.upon_enter]
  refine hc.mono fun e w' hh => ?_
  obtain ⟨v, rfl, hR⟩ := hh
  exact hK _ _ (h v w' hR).1 (h v w' hR).2
end
def nmX : ByteArray := ⟨#[120]⟩
def nmY : ByteArray := ⟨#[121]⟩
theorem nmXY : nmY.data.toList ≠ nmX.data.toList := by decide
/-- A disk with two files that stay, and what else was written. -/
def StaysI (base d : Nat) (X Y : List Ext) (g1 g2 : Nat) (ps os : List Nat) (j : Nat) (w : World) : Prop :=
  ∃ (F : Nat → Prop) (N : Nat) (M : List UInt8 → List Ext) (free : Int), DiskOf w d F N M free (-1) ∧ (∀ k, F k → base ≤ k) ∧ (∀ k, F k → k < w.heap.size) ∧ M nmX.data.toList = X ∧ M nmY.data.toList = Y ∧ N ≤ 2 + min j 20 ∧ 0 ≤ free ∧ free ≤ 10 ∧ (∀ s, (M s).length ≤ 2 + min j 20) ∧
    BsF F w (some ⟨g1, 0, none⟩) 128 ps ∧ BsF F w (some ⟨g2, 0, none⟩) 128 os
theorem StaysI.below {base d g1 g2 j : Nat} {X Y : List Ext} {ps os : List Nat} {w w' : World} (h : StaysI base d X Y g1 g2 ps os j w) (hb : Below w.heap.size w w') : StaysI base d X Y g1 g2 ps os j w' := by
  obtain ⟨F, N, M, free, h1, h2, h3, h4, h5, h6, h7, h8, h9, h10, h11⟩ := h
  exact ⟨F, N, M, free, h1.below hb, h2, fun k hk => Nat.lt_of_lt_of_le (h3 k hk) hb.size, h4, h5, h6, h7, h8, h9, h10.below hb, h11.below hb⟩
theorem StaysI.skip {base d g1 g2 j : Nat} {X Y : List Ext} {ps os : List Nat} {w : World} (h : StaysI base d X Y g1 g2 ps os j w) : StaysI base d X Y g1 g2 ps os (j + 1) w := by
  obtain ⟨F, N, M, free, h1, h2, h3, h4, h5, h6, h7, h8, h9, h10, h11⟩ := h
  exact ⟨F, N, M, free, h1, h2, h3, h4, h5, by omega, h7, h8, fun s => Nat.le_trans (h9 s) (by omega), h10, h11⟩
theorem stays_wr {base d g1 g2 j N : Nat} {X Y : List Ext} {ps os zs : List Nat} {F : Nat → Prop} {M : List UInt8 → List Ext} {free : Int} {w w' : World} {s : List UInt8} (hj : j < 20) (hsx : s ≠ nmX.data.toList) (hsy : s ≠ nmY.data.toList)
    (hbase : base ≤ w.heap.size) (h2 : ∀ k, F k → base ≤ k) (h3 : ∀ k, F k → k < w.heap.size) (h4 : M nmX.data.toList = X) (h5 : M nmY.data.toList = Y) (h6 : N ≤ 2 + min j 20) (h8 : free ≤ 10) (h9 : ∀ s, (M s).length ≤ 2 + min j 20)
    (h10 : BsF F w (some ⟨g1, 0, none⟩) 128 ps) (h11 : BsF F w (some ⟨g2, 0, none⟩) 128 os) (hW : WrAny w d F N M free s zs w') : StaysI base d X Y g1 g2 ps os (j + 1) w' := by
  obtain ⟨F', N', M', free', hD, hG, hN, hf0, hf1, hM⟩ := hW
  have hlen : ∀ t, (M' t).length ≤ 2 + min (j + 1) 20 := by
    intro t
    have := h9 t
    rcases hM with rfl | ⟨i, x, _, rfl⟩ | rfl
    · omega
    · unfold upd
      by_cases ht : t = s
      · rw [if_pos ht, List.length_set, ← ht]; omega
      · rw [if_neg ht]; omega
    · unfold upd
      by_cases ht : t = s
      · rw [if_pos ht, List.length_append, ← ht]; simp; omega
      · rw [if_neg ht]; omega
  have hkeep : ∀ t, t ≠ s → M' t = M t := by
    intro t ht
    rcases hM with rfl | ⟨i, x, _, rfl⟩ | rfl
    · rfl
    · exact upd_other _ _ _ _ ht
    · exact upd_other _ _ _ _ ht
  exact ⟨F', N', M', free', hD, hG.ge hbase h2, hG.lt h3, (hkeep _ (fun e => hsx e.symm)).trans h4, (hkeep _ (fun e => hsy e.symm)).trans h5, by omega, hf0, by omega, hlen, h10.gr hG, h11.gr hG⟩
set_option maxHeartbeats 4000000 in
set_option maxRecDepth 100000 in
theorem diskStays_walk (aa ba ka : Option Addr) (al ac bl bc kl kc : Nat) (zas zbs zks : List Nat) (ma : Option Addr) (ml mc : Nat) (sts : List Stp) (w : World) (hA : Bs w aa al zas) (hBb : Bs w ba bl zbs) (hK : Bs w ka kl zks) (hM : Sts w ma ml sts) :
    Calls Try.prog 3 #[.slice aa al ac, .slice ba bl bc, .slice ka kl kc, .slice ma ml mc] w fun e w' => e = .returned (.bool true) ∧ Below w.heap.size w w' := by
  have hpn := fun (wx : World) (p : Option Addr) => run_eql_pointer_nil (P := Try.prog) wx 24 p (by kernel_rfl)
  have hmk128 := mk128
  obtain ⟨ps, hps⟩ : ∃ ps, ps = padTo zas := ⟨_, rfl⟩
  obtain ⟨os, hos⟩ : ∃ os, os = padTo zbs := ⟨_, rfl⟩
  have hpl : ps.length = 128 ∧ ∀ x ∈ ps, x < 256 := by rw [hps]; exact ⟨padTo_length zas, padTo_lt hA.2.2.1⟩
  have hol : os.length = 128 ∧ ∀ x ∈ os, x < 256 := by rw [hos]; exact ⟨padTo_length zbs, padTo_lt hBb.2.2.1⟩
  go_enter Try.func3, Try.ntmps3
  go_wp2_with fail
  refine (new_any _ 10 (by omega)).mono ?_
  rintro e w1 ⟨rfl, hD1, hb1, hs1⟩
  obtain ⟨F0, hF0⟩ : ∃ F0 : Nat → Prop, F0 = fun k => w.heap.size ≤ k ∧ k < w.heap.size + 2 := ⟨_, rfl⟩
  rw [← hF0] at hD1
  have hbA : Below w1.heap.size w1 (w1.alloc (.cells zero128 5)) := (Below.refl _ _).alloc (Nat.le_refl _) _
  have BA := hb1.trans (hbA.mono hb1.size)
  obtain ⟨w2, m1, hcp, hb2, hg2⟩ := copy128 _ w1.heap.size aa al ac zas (heap_alloc_new w1 _) (hA.below BA)
  rw [← hps] at hg2
  have b2 := hb2 w1.heap.size (Nat.le_refl _)
  have B2 := BA.trans (b2.mono hb1.size)
  have hD2 := (hD1.below hbA).other (fun k hk => b2.block k (by rw [hF0] at hk; have := hk.2; omega))
  have hs2 : w1.heap.size < w2.heap.size := (Array.getElem?_eq_some_iff.1 hg2).1
  have hbC : Below w2.heap.size w2 (w2.alloc (.cells zero128 5)) := (Below.refl _ _).alloc (Nat.le_refl _) _
  have BC := B2.trans (hbC.mono B2.size)
  obtain ⟨w3, m2, hcp2, hb3, hg3⟩ := copy128 _ w2.heap.size ba bl bc zbs (heap_alloc_new w2 _) (hBb.below BC)
  rw [← hos] at hg3
  have b3 := hb3 w2.heap.size (Nat.le_refl _)
  have B3 := BC.trans (b3.mono B2.size)
  have hD3 := (hD2.below hbC).other (fun k hk => b3.block k (by rw [hF0] at hk; have := hk.2; omega))
  have hs3 : w2.heap.size < w3.heap.size := (Array.getElem?_eq_some_iff.1 hg3).1
  have hg2' : w3.heap[w1.heap.size]? = some (.cells (vb ps).toArray 5 (0, 0)) := (b3.block _ hs2).trans ((hbC.block _ hs2).trans hg2)
  have hBP : BsF F0 w3 (some ⟨w1.heap.size, 0, none⟩) 128 ps := ⟨row_bs hg2' hpl.1 (by decide) hpl.2, fun x hx _ hF => by
    cases hx
    rw [hF0] at hF
    have h2 : w1.heap.size < w.heap.size + 2 := hF.2
    omega⟩
  have hBO : BsF F0 w3 (some ⟨w2.heap.size, 0, none⟩) 128 os := ⟨row_bs hg3 hol.1 (by decide) hol.2, fun x hx _ hF => by
    cases hx
    rw [hF0] at hF
    have h2 : w2.heap.size < w.heap.size + 2 := hF.2
    omega⟩
  have hge0 : ∀ k, F0 k → w.heap.size ≤ k := by intro k hk; rw [hF0] at hk; exact hk.1
  have hlt0 : ∀ k, F0 k → k < w3.heap.size := by
    intro k hk; rw [hF0] at hk
    have := hk.2
    omega
  have HBP := hidn hBP
  have HBO := hidn hBO
  have HD := hidn hD3
  have HGE := hidn hge0
  have HLT := hidn hlt0
  have HB := hidn B3
  have HPL := hidn hpl
  have HOL := hidn hol
  clear hs1 hF0 hD1 hbA BA hg2 b2 hb2 B2 hD2 hs2 hbC BC hb3 hg3 b3 B3 hD3 hs3 hg2' hBP hBO hge0 hlt0 hpl hol hps hos hA hBb hb1
  go_wp2_with fail
  generalize w1.heap.size = g1 at *
  generalize w2.heap.size = g2 at *
  clear hmk128 hcp hcp2
  refine (write_new _ _ F0 0 (fun _ => []) 10 (-1) HD.out nmX (by decide) 0 0 (hidn rfl) rfl g1 0 128 ps HBP.out (by omega) (by omega) (by omega) (by omega) (by decide) (by omega) (by omega)).mono ?_
  rintro e w4 ⟨rfl, F4, hD4, hG4⟩
  obtain ⟨M4, hM4⟩ : ∃ M4, M4 = upd (fun _ => []) nmX.data.toList ([] ++ [zeroE.wrote ps]) := ⟨_, rfl⟩
  have HD4 : Hid (DiskOf w4 (w.heap.size + 1) F4 1 M4 9 (-1)) := hidn (by rw [hM4]; exact hD4)
  have HM4 : Hid (M4 nmX.data.toList = [zeroE.wrote ps]) := hidn (by rw [hM4, upd_same]; rfl)
  have HE4 : Hid (∀ t, t ≠ nmX.data.toList → M4 t = []) := hidn (fun t ht => by rw [hM4, upd_other _ _ _ _ ht])
  have HBP4 := hidn (HBP.out.gr hG4)
  have HBO4 := hidn (HBO.out.gr hG4)
  have HLT4 := hidn (hG4.lt HLT.out)
  have HGE4 := hidn (hG4.ge HB.out.size HGE.out)
  have HB4 := hidn (HB.out.trans (hG4.1.below HB.out.size HGE.out))
  clear hD4 hG4 hM4 HD HBP HBO HLT HGE HB
  go_wp2_with fail
  refine (sync_disk _ _ F4 1 M4 9 (-1) HD4.out nmX (by decide) (by rw [HM4.out]; simp) (by omega) (by omega) (by omega)).mono ?_
  rintro e w5 ⟨rfl, hD5, hG5⟩
  obtain ⟨M5, hM5⟩ : ∃ M5, M5 = upd M4 nmX.data.toList ((M4 nmX.data.toList).map Ext.synced) := ⟨_, rfl⟩
  have HD5 : Hid (DiskOf w5 (w.heap.size + 1) F4 1 M5 9 (-1)) := hidn (by rw [hM5]; exact hD5)
  obtain ⟨x5, hx5⟩ : ∃ x5 : Ext, x5 = ⟨ps, ps, ps, false⟩ := ⟨_, rfl⟩
  have HM5 : Hid (M5 nmX.data.toList = [x5]) := hidn (by rw [hM5, upd_same, HM4.out, hx5]; rfl)
  have HE5 : Hid (∀ t, t ≠ nmX.data.toList → M5 t = []) := hidn (fun t ht => by rw [hM5, upd_other _ _ _ _ ht]; exact HE4.out t ht)
  have HX5 := hidn hx5
  have HBP5 := hidn (HBP4.out.gr hG5)
  have HBO5 := hidn (HBO4.out.gr hG5)
  have HLT5 := hidn (hG5.lt HLT4.out)
  have HB5 := hidn (HB4.out.trans (hG5.1.below HB4.out.size HGE4.out))
  clear hD5 hG5 hM5 HD4 HM4 HE4 HBP4 HBO4 HLT4 HB4 hx5
  go_wp2_with fail
  refine (write_new _ _ F4 1 M5 9 (-1) HD5.out nmY (by decide) 0 0 (hidn (by rw [HE5.out _ nmXY]; rfl)) rfl g2 0 128 os HBO5.out (by omega) (by omega) (by omega) (by omega) (by decide) (by omega) (by omega)).mono ?_
  rintro e w6 ⟨rfl, F6, hD6, hG6⟩
  obtain ⟨y6, hy6⟩ : ∃ y6 : Ext, y6 = zeroE.wrote os := ⟨_, rfl⟩
  have HI6 : Hid (StaysI w.heap.size (w.heap.size + 1) [x5] [y6] g1 g2 ps os 0 w6) := hidn (by
    have h0 : M5 nmY.data.toList = [] := HE5.out _ nmXY
    rw [h0, ← hy6] at hD6
    refine ⟨F6, 2, _, 8, hD6, hG6.ge HB5.out.size HGE4.out, hG6.lt HLT5.out, ?_, ?_, by omega, by omega, by omega, ?_, HBP5.out.gr hG6, HBO5.out.gr hG6⟩
    · rw [upd_other _ _ _ _ (fun e => nmXY e.symm)]; exact HM5.out
    · rw [upd_same]; rfl
    · intro t
      by_cases ht : t = nmY.data.toList
      · rw [ht, upd_same]; simp
      · rw [upd_other _ _ _ _ ht]
        by_cases hx : t = nmX.data.toList
        · rw [hx, HM5.out]; simp
        · rw [HE5.out t hx]; simp)
  have HY6 := hidn hy6
  have HB6 := hidn (HB5.out.trans (hG6.1.below HB5.out.size HGE4.out))
  clear hD6 hG6 HD5 HM5 HE5 HBP5 HBO5 HLT5 HB5 HGE4 hy6
  have HMs := hidn hM
  have hml := hM.2.1
  unfold maxLen at hml
  have HLn := hidn hM.1
  clear hM
  go_wp2_with fail
  go_loopw [54] (fun iv wr => ∃ j : Nat, j ≤ ml ∧ iv = .int .i64 (j : Int) ∧ Hid (StaysI w.heap.size (w.heap.size + 1) [x5] [y6] g1 g2 ps os j wr) ∧ Below w.heap.size w wr) (fun iv _ => ml - (intOf iv).toNat)
  case atStart => exact ⟨0, Nat.zero_le _, rfl, HI6, HB6.out⟩
  case round =>
    obtain ⟨j, hj, rfl, hI, hb⟩ := hrel
    by_cases hlt : j < ml
    · have hlt2 : (j : Int) < (ml : Int) := by omega
      obtain ⟨s, hs⟩ : ∃ s, sts[j]? = some s := ⟨_, List.getElem?_eq_getElem (by rw [HLn.out]; exact hlt)⟩
      obtain ⟨mb, mo, rfl, c0, c1, c2, c3, c4, c5, c6, c7⟩ := (HMs.out.below hb).at hs
      obtain ⟨hsn, hsB⟩ := HMs.out.2.2.2.1 s (List.mem_of_getElem? hs)
      have HSB := hidn (hsB.below hb)
      clear hs hsB
      obtain ⟨op, si, at2, n3, nm, sa, sl, sc, zs, mk, ka2, kl2, kc2⟩ := s
      simp only at c0 c1 c2 c3 c4 c5 c6 c7 hsn HSB
      /-MARK-/
      have hbS : Below wr.heap.size wr (wr.alloc (.cells #[.int .i64 op, .int .i64 si, .int .i64 at2, .int .i64 n3, .string nm, .slice sa sl sc, .int .u8 mk, .slice ka2 kl2 kc2] 32)) := (Below.refl _ _).alloc (Nat.le_refl _) _
      have HIS := hidn (hI.out.below hbS)
      have HBS := hidn (hb.trans (hbS.mono hb.size))
      have HSS := hidn (HSB.out.below hbS)
      have hrowS := heap_alloc_new wr (.cells #[.int .i64 op, .int .i64 si, .int .i64 at2, .int .i64 n3, .string nm, .slice sa sl sc, .int .u8 mk, .slice ka2 kl2 kc2] 32)
      have HRS := hidn hrowS
      have HbS0 := hidn hbS
      have HI0 := hI
      clear hI hb HSB hbS hrowS
      go_wp2_with fail
      case roundEnd => exact ⟨⟨j + 1, by omega, by go_num, hidn HIS.out.skip, HBS.out⟩, by simp [intOf]; omega⟩
      case roundEnd => exact ⟨⟨j + 1, by omega, by go_num, hidn HIS.out.skip, HBS.out⟩, by simp [intOf]; omega⟩
      case roundEnd => exact ⟨⟨j + 1, by omega, by go_num, hidn HIS.out.skip, HBS.out⟩, by simp [intOf]; omega⟩
      case roundEnd => exact ⟨⟨j + 1, by omega, by go_num, hidn HIS.out.skip, HBS.out⟩, by simp [intOf]; omega⟩
      · rename_i h20 hnx hny hcond
        have HNX : Hid (j < 20 ∧ nm.data.toList ≠ nmX.data.toList ∧ nm.data.toList ≠ nmY.data.toList) := hidn (by
          have e : nm.toList = nm.data.toList := by cases nm; exact ByteArray.toList_mk _
          rw [e] at hnx hny
          exact ⟨by omega, hnx, hny⟩)
        clear hcond hnx hny h20 c0 c1 c2 c3 c4 c5 c6 c7
        generalize hwS : wr.alloc (.cells #[.int .i64 op, .int .i64 si, .int .i64 at2, .int .i64 n3, .string nm, .slice sa sl sc, .int .u8 mk, .slice ka2 kl2 kc2] 32) = wS at *
        have HRd : Hid (wS.drew.heap[wr.heap.size]? = some (.cells #[.int .i64 op, .int .i64 si, .int .i64 at2, .int .i64 n3, .string nm, .slice sa sl sc, .int .u8 mk, .slice ka2 kl2 kc2] 32 (0, 0))) := HRS
        have HBd := hidn HBS.out.drew
        have HSd := hidn (HSS.out.below (Below.refl _ _).drew)
        have HD0 : Hid (Below wr.heap.size wr wS.drew) := hidn HbS0.out.drew
        clear HIS HBS HSS HRS hwS HbS0
        refine wp_region_noPanic ?_
        refine wp_region_held_drew (S := fun w' => w'.heap[wr.heap.size]? = some (.cells #[.int .i64 op, .int .i64 si, .int .i64 at2, .int .i64 n3, .string nm, .slice sa sl sc, .int .u8 mk, .slice ka2 kl2 kc2] 32 (0, 0))) (by kernel_rfl) HRd.out (fun hHeld => ?_)
        generalize wS.drew = wd at *
        refine drawn_take (i := 0) (v := .pointer (some ⟨w.heap.size + 1, 0, none⟩)) (some 79) rfl rfl (by kernel_rfl) (by kernel_rfl) (by kernel_rfl) (fun _ _ _ h => h) (Or.inl ⟨by kernel_rfl, fun wq hw => by go_simp⟩) hHeld ?_
        simp only [Act.put, List.setIfInBounds_toArray, List.set_cons_succ, List.set_cons_zero]
        refine drawn_take (i := 1) (v := .pointer (some ⟨wr.heap.size, 4, none⟩)) (some 80) rfl rfl (by kernel_rfl) (by kernel_rfl) (by kernel_rfl) (fun _ _ _ h => h) (Or.inl ⟨by kernel_rfl, fun wq hw => by go_simp⟩) hHeld ?_
        simp only [Act.put, List.setIfInBounds_toArray, List.set_cons_succ, List.set_cons_zero]
        refine drawn_take (i := 2) (v := .string nm) (some 81) rfl rfl (by kernel_rfl) (by kernel_rfl) (by kernel_rfl) (fun _ _ _ h => h) (Or.inl ⟨by kernel_rfl, fun wq hw => by have q : wq.cell? ⟨wr.heap.size, 4, none⟩ = some (.string nm) := cell_of_row _ _ _ _ _ _ hw; go_simp⟩) hHeld ?_
        simp only [Act.put, List.setIfInBounds_toArray, List.set_cons_succ, List.set_cons_zero]
        refine drawn_take (i := 3) (v := .pointer (some ⟨wr.heap.size, 1, none⟩)) (some 82) rfl rfl (by kernel_rfl) (by kernel_rfl) (by kernel_rfl) (fun _ _ _ h => h) (Or.inl ⟨by kernel_rfl, fun wq hw => by go_simp⟩) hHeld ?_
        simp only [Act.put, List.setIfInBounds_toArray, List.set_cons_succ, List.set_cons_zero]
        refine drawn_take (i := 4) (v := .int .i64 si) (some 83) rfl rfl (by kernel_rfl) (by kernel_rfl) (by kernel_rfl) (fun _ _ _ h => h) (Or.inl ⟨by kernel_rfl, fun wq hw => by have q : wq.cell? ⟨wr.heap.size, 1, none⟩ = some (.int .i64 si) := cell_of_row _ _ _ _ _ _ hw; go_simp⟩) hHeld ?_
        simp only [Act.put, List.setIfInBounds_toArray, List.set_cons_succ, List.set_cons_zero]
        refine drawn_take (i := 5) (v := .agg #[.int .i64 op, .int .i64 si, .int .i64 at2, .int .i64 n3, .string nm, .slice sa sl sc, .int .u8 mk, .slice ka2 kl2 kc2]) (some 84) rfl rfl (by kernel_rfl) (by kernel_rfl) (by kernel_rfl) (fun _ _ _ h => h) (Or.inl ⟨by kernel_rfl, fun wq hw => by have q0 : wq.cell? ⟨wr.heap.size, 0, none⟩ = some (.int .i64 op) := cell_of_row _ _ _ _ _ _ hw; have q1 : wq.cell? ⟨wr.heap.size, 1, none⟩ = some (.int .i64 si) := cell_of_row _ _ _ _ _ _ hw; have q2 : wq.cell? ⟨wr.heap.size, 2, none⟩ = some (.int .i64 at2) := cell_of_row _ _ _ _ _ _ hw; have q3 : wq.cell? ⟨wr.heap.size, 3, none⟩ = some (.int .i64 n3) := cell_of_row _ _ _ _ _ _ hw; have q4 : wq.cell? ⟨wr.heap.size, 4, none⟩ = some (.string nm) := cell_of_row _ _ _ _ _ _ hw; have q5 : wq.cell? ⟨wr.heap.size, 5, none⟩ = some (.slice sa sl sc) := cell_of_row _ _ _ _ _ _ hw; have q6 : wq.cell? ⟨wr.heap.size, 6, none⟩ = some (.int .u8 mk) := cell_of_row _ _ _ _ _ _ hw; have q7 : wq.cell? ⟨wr.heap.size, 7, none⟩ = some (.slice ka2 kl2 kc2) := cell_of_row _ _ _ _ _ _ hw; go_simp⟩) hHeld ?_
        simp only [Act.put, List.setIfInBounds_toArray, List.set_cons_succ, List.set_cons_zero]
        refine wpAnyH_ready (rs := [6]) (by kernel_rfl) (by simp) ?_
        refine rdy_call (i := 6) rfl rfl (some 85) rfl 7 #[.agg #[.int .i64 op, .int .i64 si, .int .i64 at2, .int .i64 n3, .string nm, .slice sa sl sc, .int .u8 mk, .slice ka2 kl2 kc2]] (ds_Full (ts := #[32]) (x0 := 84) (by kernel_rfl) (by kernel_rfl)) (fun r w' => ∃ b, r = .slice (some ⟨b, 0, none⟩) 128 128 ∧ wd.heap.size ≤ b ∧ b < w'.heap.size ∧ Bs w' (some ⟨b, 0, none⟩) 128 (padTo zs) ∧ Below wd.heap.size wd w') ((full_pad wd _ _ _ _ _ _ _ sa sl sc zs HSd.out).mono fun e w' h => by obtain ⟨b, rfl, h⟩ := h; exact ⟨_, rfl, b, rfl, h⟩) (fun r wf hR => ?_) rdy_nil
        obtain ⟨fb, rfl, hfb, hfl, hBf, bf⟩ := hR
        refine ⟨(bf.block _ (Array.getElem?_eq_some_iff.1 hHeld).1).trans hHeld, fun hHeld => ?_⟩
        simp only [Act.put, List.setIfInBounds_toArray, List.set_cons_succ, List.set_cons_zero]
        obtain ⟨F, N, M, free, k1, k2, k3, k4, k5, k6, k7, k8, k9, k10, k11⟩ := HI0.out
        have hd0 : wr.heap.size ≤ wd.heap.size := HD0.out.size
        have bfw := HD0.out.trans (bf.mono hd0)
        have hBfF : BsF F wf (some ⟨fb, 0, none⟩) 128 (padTo zs) := ⟨hBf, fun x hx _ hF => by
          cases hx
          have h : fb < wr.heap.size := k3 _ hF
          omega⟩
        have HBf := hidn (HBd.out.trans (bf.mono HBd.out.size))
        refine wpAnyH_ready (rs := [7]) (by kernel_rfl) (by simp) ?_
        refine rdy_call (i := 7) rfl rfl (some 86) rfl 5 #[.pointer (some ⟨w.heap.size + 1, 0, none⟩), .string nm, .int .i64 si, .slice (some ⟨fb, 0, none⟩) 128 128] (ds_Write (ts := #[24, 9, 3, 22]) (x0 := 79) (x1 := 81) (x2 := 83) (x3 := 85) (by kernel_rfl) (by kernel_rfl) (by kernel_rfl) (by kernel_rfl) (by kernel_rfl)) (fun r w' => WrAny wf (w.heap.size + 1) F N M free nm.data.toList (padTo zs) w') ((write_any wf (w.heap.size + 1) F N M free (k1.below bfw) nm hsn si fb 128 (padTo zs) hBfF (by have := k9 nm.data.toList; omega) (by omega) k7 (by omega)).mono fun e w' h => by obtain ⟨r, rfl, h⟩ := h; exact ⟨_, rfl, h⟩) (fun r wz hR => ?_) rdy_nil
        have hRS : wz.heap[wr.heap.size]? = some (.cells #[.int .i64 op, .int .i64 si, .int .i64 at2, .int .i64 n3, .string nm, .slice sa sl sc, .int .u8 mk, .slice ka2 kl2 kc2] 32 (0, 0)) ∧ Gr F F wf wz ∨ True := .inr trivial
        have hst := stays_wr (base := w.heap.size) (g1 := g1) (g2 := g2) (X := [x5]) (Y := [y6]) (ps := ps) (os := os) HNX.out.1 HNX.out.2.1 HNX.out.2.2 HBf.out.size k2 (fun k hk => by have := k3 k hk; have := bfw.size; omega) k4 k5 k6 k8 k9 (k10.below bfw) (k11.below bfw) hR
        obtain ⟨F', N', M', free', q1, q2, q3⟩ := hR
        have hkeep : wz.heap[wr.heap.size]? = some (.cells #[.int .i64 op, .int .i64 si, .int .i64 at2, .int .i64 n3, .string nm, .slice sa sl sc, .int .u8 mk, .slice ka2 kl2 kc2] 32 (0, 0)) := (q2.1.block _ (Array.getElem?_eq_some_iff.1 hHeld).1 (fun hF => by have h : wr.heap.size < wr.heap.size := k3 _ hF; omega)).trans hHeld
        have HBz := hidn (HBf.out.trans (q2.1.below HBf.out.size k2))
        have HIz := hidn hst
        refine ⟨hkeep, fun hHeld => ?_⟩
        simp only [Act.put, List.setIfInBounds_toArray, List.set_cons_succ, List.set_cons_zero]
        refine wpAnyH_done (by kernel_rfl) ?_ _
        refine NoPanic.normal ?_
        clear hHeld hkeep hst hRS q1 q2 q3 k1 k2 k3 k4 k5 k6 k7 k8 k9 k10 k11 hBfF hBf bf bfw hd0
        go_wp2_with fail
        exact ⟨⟨j + 1, by omega, by go_num, HIz, HBz.out⟩, by simp [intOf]; omega⟩
    · have hlt2 : ¬ (j : Int) < (ml : Int) := by omega
      have HKl : Hid (kl ≤ maxLen) := hidn hK.2.1
      have HKP : Hid (Kps (wr.alloc (.cells #[.string nmY, .int .i64 0, .int .i64 (kl : Int)] 37)) (some ⟨wr.heap.size, 0, none⟩) 1 [⟨nmY, 0, (kl : Int)⟩]) := hidn (by
        refine ⟨rfl, by decide, (fun h => by cases h), fun k hk => ?_, fun x hx i k hk => ?_⟩
        · rw [List.mem_singleton] at hk
          subst hk
          exact ⟨by show nmY.size ≤ maxLen; decide, by show (Lit.int .i64 0).wf = true; decide, wf_nat (by have := HKl.out; unfold maxLen at this; show kl ≤ _; omega)⟩
        · cases hx
          match i, hk with
          | 0, hk =>
            simp at hk
            subst hk
            have hr := heap_alloc_new wr (.cells #[.string nmY, .int .i64 0, .int .i64 (kl : Int)] 37)
            rw [add_none, add_none, add_none]
            exact ⟨by rw [cell_of_row _ _ _ _ _ _ hr]; rfl, by rw [cell_of_row _ _ _ _ _ _ hr]; rfl, by rw [cell_of_row _ _ _ _ _ _ hr]; rfl⟩)
      have hbA : Below wr.heap.size wr (wr.alloc (.cells #[.string nmY, .int .i64 0, .int .i64 (kl : Int)] 37)) := (Below.refl _ _).alloc (Nat.le_refl _) _
      have HIA := hidn (hI.out.below hbA)
      have HBA := hidn (hb.trans (hbA.mono hb.size))
      obtain ⟨n, hn⟩ : ∃ n, n = min kl 128 := ⟨_, rfl⟩
      have HNN : Hid (n = min kl 128) := hidn hn
      have hn128 : n ≤ 128 := by omega
      have hmin : (if (128 : Int) < (kl : Int) then (128 : Int) else (kl : Int)) = (n : Int) := by split <;> omega
      clear HMs HI6 HB6 hI hb hbA hn hK
      go_wp2_with fail
      obtain ⟨F, N, M, free, k1, k2, k3, k4, k5, k6, k7, k8, k9, k10, k11⟩ := HIA.out
      refine (crash_disk _ _ F N M free (-1) k1 k3 _ 1 1 (kfOf [⟨nmY, 0, (kl : Int)⟩]) (firstKept_any _ _ 1 1 _ HKP.out)).mono ?_
      rintro e wc ⟨rfl, hDc, hGc⟩
      obtain ⟨Mc, hMc⟩ : ∃ Mc : List UInt8 → List Ext, Mc = fun s => fellL (kfOf [⟨nmY, 0, (kl : Int)⟩] s) (M s) := ⟨_, rfl⟩
      rw [← hMc] at hDc
      obtain ⟨yc, hyc⟩ : ∃ yc : List Nat, yc = os.take n ++ List.replicate (128 - n) 0 := ⟨_, rfl⟩
      have HXc : Hid (Mc nmX.data.toList = [x5]) := hidn (by
        rw [hMc]
        show fellL _ (M nmX.data.toList) = _
        rw [k4, HX5.out]
        rfl)
      have HYc : Hid (Mc nmY.data.toList = [⟨yc, List.replicate 128 0, os, false⟩]) := hidn (by
        have e1 : kfOf [⟨nmY, 0, (kl : Int)⟩] nmY.data.toList 0 = (kl : Int) := by
          unfold kfOf kget
          simp
        have e2 : clampK (kl : Int) = n := by
          have h1 := clampK_eq (kl : Int)
          have h2 := HNN.out
          split at h1 <;> split at h1 <;> omega
        rw [hMc]
        show fellL _ (M nmY.data.toList) = _
        rw [k5, HY6.out]
        show [(zeroE.wrote os).fell (kfOf [⟨nmY, 0, (kl : Int)⟩] nmY.data.toList ((0 : Nat) : Int))] = _
        rw [show ((0 : Nat) : Int) = 0 from rfl, e1]
        unfold Ext.fell
        show [if true = true then (zeroE.wrote os).crashed (clampK (kl : Int)) else zeroE.wrote os] = _
        rw [if_pos rfl, e2, hyc]
        show [(⟨os.take n ++ (List.replicate 128 0).drop n, List.replicate 128 0, os, false⟩ : Ext)] = _
        rw [List.drop_replicate])
      have HDc := hidn hDc
      have HBPc := hidn ((k10).gr hGc)
      have HBOc := hidn ((k11).gr hGc)
      have HBc := hidn (HBA.out.trans (hGc.1.below HBA.out.size k2))
      have HYC := hidn hyc
      clear hDc hGc hMc k1 k2 k3 k4 k5 k6 k7 k8 k9 k10 k11 HIA HBA HKP hyc
      go_wp2_with fail
      refine (diskRead_some _ _ F N Mc free (-1) HDc.out nmX (by decide) 0 1 0 (hidn (by rw [HXc.out]; rfl)) (by omega) rfl ps x5 (hidn (by rw [HXc.out]; rfl)) (hidn (by rw [HX5.out]; rfl))).mono ?_
      rintro e wx ⟨bx, rfl, hbxg, hBx, hbx⟩
      have HDx := hidn (HDc.out.below hbx)
      have HBx := hidn (HBc.out.trans (hbx.mono HBc.out.size))
      have HRx := hidn hBx
      have HBPx := hidn (HBPc.out.1.below hbx)
      have HBOx := hidn (HBOc.out.1.below hbx)
      clear hBx hbx hbxg HDc HBc HBPc HBOc
      go_wp2_with fail
      refine (diskRead_some _ _ F N Mc free (-1) HDx.out nmY (by decide) 0 1 0 (hidn (by rw [HYc.out]; rfl)) (by omega) rfl yc ⟨yc, List.replicate 128 0, os, false⟩ (hidn (by rw [HYc.out]; rfl)) (hidn rfl)).mono ?_
      rintro e wy ⟨yb, rfl, hbyg, hBy, hby⟩
      have HBy := hidn (HBx.out.trans (hby.mono HBx.out.size))
      have HRy := hidn hBy
      have HRx2 := hidn (HRx.out.below hby)
      have HBPy := hidn (HBPx.out.below hby)
      have HBOy := hidn (HBOx.out.below hby)
      clear hBy hby hbyg HDx HBx HRx HBPx HBOx
      go_wp2_with fail
      obtain ⟨L, hL⟩ : ∃ L, L = 128 - n := ⟨_, rfl⟩
      have hsub : (128 : Int) - (n : Int) = (L : Int) := by omega
      have hnI : (n : Int) ≤ 128 := by omega
      have HLL := hidn hL
      clear hL hmin
      have hmkL := fun W => mkL W L (by omega)
      obtain ⟨AY, hAY⟩ : ∃ AY : Addr, AY = if 128 = n then ⟨yb, 0, none⟩ else ⟨yb, n, none⟩ := ⟨_, rfl⟩
      have HAY := hidn hAY
      have hAY2 := hAY.symm
      clear hAY
      have HBd := hidn HBy.out.drew
      have HRyd := hidn (HRy.out.below (Below.refl _ _).drew)
      have HRxd := hidn (HRx2.out.below (Below.refl _ _).drew)
      have HBPd := hidn (HBPy.out.below (Below.refl _ _).drew)
      have HBOd := hidn (HBOy.out.below (Below.refl _ _).drew)
      clear HBy HRy HRx2 HBPy HBOy
      refine wp_region_noPanic ?_
      refine wp_region_held_drew (S := fun _ => True) (by kernel_rfl) trivial (fun hHeld => ?_)
      generalize wy.drew = wd at *
      refine drawn_take (i := 0) (v := .int .i64 0) (some 108) rfl rfl (by kernel_rfl) (by kernel_rfl) (by kernel_rfl) (fun _ _ _ h => h) (Or.inl ⟨by kernel_rfl, fun wq hw => by go_simp⟩) hHeld ?_
      simp only [Act.put, List.setIfInBounds_toArray, List.set_cons_succ, List.set_cons_zero]
      refine drawn_take (i := 1) (v := .bool true) (some 109) rfl rfl (by kernel_rfl) (by kernel_rfl) (by kernel_rfl) (fun _ _ _ h => h) (Or.inl ⟨by kernel_rfl, fun wq hw => by go_simp⟩) hHeld ?_
      simp only [Act.put, List.setIfInBounds_toArray, List.set_cons_succ, List.set_cons_zero]
      refine drawn_take (i := 2) (v := .bool true) (some 110) rfl rfl (by kernel_rfl) (by kernel_rfl) (by kernel_rfl) (fun _ _ _ h => h) (Or.inl ⟨by kernel_rfl, fun wq hw => by go_simp⟩) hHeld ?_
      simp only [Act.put, List.setIfInBounds_toArray, List.set_cons_succ, List.set_cons_zero]
      refine drawn_take (i := 3) (v := .int .i64 0) (some 111) rfl rfl (by kernel_rfl) (by kernel_rfl) (by kernel_rfl) (fun _ _ _ h => h) (Or.inl ⟨by kernel_rfl, fun wq hw => by go_simp⟩) hHeld ?_
      simp only [Act.put, List.setIfInBounds_toArray, List.set_cons_succ, List.set_cons_zero]
      refine drawn_take (i := 4) (v := .bool true) (some 112) rfl rfl (by kernel_rfl) (by kernel_rfl) (by kernel_rfl) (fun _ _ _ h => h) (Or.inl ⟨by kernel_rfl, fun wq hw => by go_simp⟩) hHeld ?_
      simp only [Act.put, List.setIfInBounds_toArray, List.set_cons_succ, List.set_cons_zero]
      refine drawn_take (i := 5) (v := .bool true) (some 113) rfl rfl (by kernel_rfl) (by kernel_rfl) (by kernel_rfl) (fun _ _ _ h => h) (Or.inl ⟨by kernel_rfl, fun wq hw => by go_simp⟩) hHeld ?_
      simp only [Act.put, List.setIfInBounds_toArray, List.set_cons_succ, List.set_cons_zero]
      refine drawn_take (i := 6) (v := .bool true) (some 114) rfl rfl (by kernel_rfl) (by kernel_rfl) (by kernel_rfl) (fun _ _ _ h => h) (Or.inl ⟨by kernel_rfl, fun wq hw => by go_simp⟩) hHeld ?_
      simp only [Act.put, List.setIfInBounds_toArray, List.set_cons_succ, List.set_cons_zero]
      refine drawn_take (i := 7) (v := .slice (some ⟨bx, 0, none⟩) 128 128) (some 115) rfl rfl (by kernel_rfl) (by kernel_rfl) (by kernel_rfl) (fun _ _ _ h => h) (Or.inl ⟨by kernel_rfl, fun wq hw => by go_simp⟩) hHeld ?_
      simp only [Act.put, List.setIfInBounds_toArray, List.set_cons_succ, List.set_cons_zero]
      refine drawn_take (i := 8) (v := .slice (some ⟨g1, 0, none⟩) 128 128) (some 116) rfl rfl (by kernel_rfl) (by kernel_rfl) (by kernel_rfl) (fun _ _ _ h => h) (Or.inl ⟨by kernel_rfl, fun wq hw => by go_simp⟩) hHeld ?_
      simp only [Act.put, List.setIfInBounds_toArray, List.set_cons_succ, List.set_cons_zero]
      refine wpAnyH_ready (rs := [9]) (by kernel_rfl) (by simp) ?_
      refine rdy_callw (i := 9) rfl (by kernel_rfl) (some 117) rfl 10 #[.slice (some ⟨bx, 0, none⟩) 128 128, .slice (some ⟨g1, 0, none⟩) 128 128] (ds_Eq (ts := #[22, 22]) (x0 := 115) (x1 := 116) (by kernel_rfl) (by kernel_rfl) (by kernel_rfl)) (fun r w' => r = .bool true ∧ Below (wd).heap.size (wd) w') ((bytesEqual_same wd _ _ 128 128 128 ps HRxd.out HBPd.out).mono fun e w' h => ⟨_, h.1, rfl, h.2⟩) (fun r we1 hR => ?_) rdy_nil
      obtain ⟨rfl, b1⟩ := hR
      have HBe1 := hidn (HBd.out.trans (b1.mono HBd.out.size))
      refine ⟨trivial, fun hHeld => ?_⟩
      simp only [Act.put, List.setIfInBounds_toArray, List.set_cons_succ, List.set_cons_zero]
      refine drawn_take (i := 10) (v := .bool true) (some 118) rfl rfl (by kernel_rfl) (by kernel_rfl) (by kernel_rfl) (fun _ _ _ h => h) (Or.inl ⟨by kernel_rfl, fun wq hw => by go_simp⟩) hHeld ?_
      simp only [Act.put, List.setIfInBounds_toArray, List.set_cons_succ, List.set_cons_zero]
      refine drawn_take (i := 11) (v := .bool true) (some 119) rfl rfl (by kernel_rfl) (by kernel_rfl) (by kernel_rfl) (fun _ _ _ h => h) (Or.inl ⟨by kernel_rfl, fun wq hw => by go_simp⟩) hHeld ?_
      simp only [Act.put, List.setIfInBounds_toArray, List.set_cons_succ, List.set_cons_zero]
      refine drawn_take (i := 12) (v := .slice (some ⟨yb, 0, none⟩) 128 128) (some 120) rfl rfl (by kernel_rfl) (by kernel_rfl) (by kernel_rfl) (fun _ _ _ h => h) (Or.inl ⟨by kernel_rfl, fun wq hw => by go_simp⟩) hHeld ?_
      simp only [Act.put, List.setIfInBounds_toArray, List.set_cons_succ, List.set_cons_zero]
      refine drawn_take (i := 13) (v := .int .i64 (n : Int)) (some 121) rfl rfl (by kernel_rfl) (by kernel_rfl) (by kernel_rfl) (fun _ _ _ h => h) (Or.inl ⟨by kernel_rfl, fun wq hw => by go_simp⟩) hHeld ?_
      simp only [Act.put, List.setIfInBounds_toArray, List.set_cons_succ, List.set_cons_zero]
      refine drawn_take (i := 14) (v := .slice (some ⟨yb, 0, none⟩) n 128) (some 122) rfl rfl (by kernel_rfl) (by kernel_rfl) (by kernel_rfl) (fun _ _ _ h => h) (Or.inl ⟨by kernel_rfl, fun wq hw => by go_simp⟩) hHeld ?_
      simp only [Act.put, List.setIfInBounds_toArray, List.set_cons_succ, List.set_cons_zero]
      refine drawn_take (i := 15) (v := .slice (some ⟨g2, 0, none⟩) 128 128) (some 123) rfl rfl (by kernel_rfl) (by kernel_rfl) (by kernel_rfl) (fun _ _ _ h => h) (Or.inl ⟨by kernel_rfl, fun wq hw => by go_simp⟩) hHeld ?_
      simp only [Act.put, List.setIfInBounds_toArray, List.set_cons_succ, List.set_cons_zero]
      refine drawn_take (i := 16) (v := .int .i64 (n : Int)) (some 124) rfl rfl (by kernel_rfl) (by kernel_rfl) (by kernel_rfl) (fun _ _ _ h => h) (Or.inl ⟨by kernel_rfl, fun wq hw => by go_simp⟩) hHeld ?_
      simp only [Act.put, List.setIfInBounds_toArray, List.set_cons_succ, List.set_cons_zero]
      refine drawn_take (i := 17) (v := .slice (some ⟨g2, 0, none⟩) n 128) (some 125) rfl rfl (by kernel_rfl) (by kernel_rfl) (by kernel_rfl) (fun _ _ _ h => h) (Or.inl ⟨by kernel_rfl, fun wq hw => by go_simp⟩) hHeld ?_
      simp only [Act.put, List.setIfInBounds_toArray, List.set_cons_succ, List.set_cons_zero]
      refine wpAnyH_ready (rs := [18]) (by kernel_rfl) (by simp) ?_
      refine rdy_callw (i := 18) rfl (by kernel_rfl) (some 126) rfl 10 #[.slice (some ⟨yb, 0, none⟩) n 128, .slice (some ⟨g2, 0, none⟩) n 128] (ds_Eq (ts := #[22, 22]) (x0 := 122) (x1 := 125) (by kernel_rfl) (by kernel_rfl) (by kernel_rfl)) (fun r w' => r = .bool true ∧ Below (we1).heap.size (we1) w') ((bytesEqual_same we1 _ _ n 128 128 (os.take n) (by have h := bs_take (HRyd.out.below b1) n hn128; rw [HYC.out, List.take_append_of_le_length (by rw [List.length_take, HOL.out.1]; omega), List.take_take, Nat.min_self] at h; exact h) (bs_take (HBOd.out.below b1) n hn128)).mono fun e w' h => ⟨_, h.1, rfl, h.2⟩) (fun r we2 hR => ?_) rdy_nil
      obtain ⟨rfl, b2⟩ := hR
      have HBe2 := hidn (HBe1.out.trans (b2.mono HBe1.out.size))
      refine ⟨trivial, fun hHeld => ?_⟩
      simp only [Act.put, List.setIfInBounds_toArray, List.set_cons_succ, List.set_cons_zero]
      refine drawn_take (i := 19) (v := .bool true) (some 127) rfl rfl (by kernel_rfl) (by kernel_rfl) (by kernel_rfl) (fun _ _ _ h => h) (Or.inl ⟨by kernel_rfl, fun wq hw => by go_simp⟩) hHeld ?_
      simp only [Act.put, List.setIfInBounds_toArray, List.set_cons_succ, List.set_cons_zero]
      refine drawn_take (i := 20) (v := .bool true) (some 128) rfl rfl (by kernel_rfl) (by kernel_rfl) (by kernel_rfl) (fun _ _ _ h => h) (Or.inl ⟨by kernel_rfl, fun wq hw => by go_simp⟩) hHeld ?_
      simp only [Act.put, List.setIfInBounds_toArray, List.set_cons_succ, List.set_cons_zero]
      refine drawn_take (i := 21) (v := .slice (some ⟨yb, 0, none⟩) 128 128) (some 129) rfl rfl (by kernel_rfl) (by kernel_rfl) (by kernel_rfl) (fun _ _ _ h => h) (Or.inl ⟨by kernel_rfl, fun wq hw => by go_simp⟩) hHeld ?_
      simp only [Act.put, List.setIfInBounds_toArray, List.set_cons_succ, List.set_cons_zero]
      refine drawn_take (i := 22) (v := .int .i64 (n : Int)) (some 130) rfl rfl (by kernel_rfl) (by kernel_rfl) (by kernel_rfl) (fun _ _ _ h => h) (Or.inl ⟨by kernel_rfl, fun wq hw => by go_simp⟩) hHeld ?_
      simp only [Act.put, List.setIfInBounds_toArray, List.set_cons_succ, List.set_cons_zero]
      refine drawn_take (i := 23) (v := .slice (some AY) L L) (some 131) rfl rfl (by kernel_rfl) (by kernel_rfl) (by kernel_rfl) (fun _ _ _ h => h) (Or.inl ⟨by kernel_rfl, fun wq hw => by go_simp; exact ⟨by rw [← hAY2]; split <;> rfl, HLL.out.symm⟩⟩) hHeld ?_
      simp only [Act.put, List.setIfInBounds_toArray, List.set_cons_succ, List.set_cons_zero]
      refine drawn_take (i := 24) (v := .int .i64 (n : Int)) (some 132) rfl rfl (by kernel_rfl) (by kernel_rfl) (by kernel_rfl) (fun _ _ _ h => h) (Or.inl ⟨by kernel_rfl, fun wq hw => by go_simp⟩) hHeld ?_
      simp only [Act.put, List.setIfInBounds_toArray, List.set_cons_succ, List.set_cons_zero]
      refine drawn_take (i := 25) (v := .int .i64 (L : Int)) (some 133) rfl rfl (by kernel_rfl) (by kernel_rfl) (by kernel_rfl) (fun _ _ _ h => h) (Or.inl ⟨by kernel_rfl, fun wq hw => by go_simp; have := HLL.out; rw [IntKind.wrap_i64]; omega⟩) hHeld ?_
      simp only [Act.put, List.setIfInBounds_toArray, List.set_cons_succ, List.set_cons_zero]
      refine wpAnyH_ready (rs := [26]) (by kernel_rfl) (by simp) ?_
      refine rdy_valw (i := 26) rfl (by kernel_rfl) (some 134) rfl (.slice (some ⟨we2.heap.size, 0, none⟩) L L) (we2.alloc (.cells (vb (List.replicate L 0)).toArray 5)) (by go_simp) trivial (fun hHeld => ?_) rdy_nil
      simp only [Act.put, List.setIfInBounds_toArray, List.set_cons_succ, List.set_cons_zero]
      have bL : Below we2.heap.size we2 (we2.alloc (.cells (vb (List.replicate L 0)).toArray 5)) := (Below.refl _ _).alloc (Nat.le_refl _) _
      have HBL := hidn (HBe2.out.trans (bL.mono HBe2.out.size))
      have hrL := heap_alloc_new we2 (.cells (vb (List.replicate L 0)).toArray 5)
      refine wpAnyH_ready (rs := [27]) (by kernel_rfl) (by simp) ?_
      refine rdy_callw (i := 27) rfl (by kernel_rfl) (some 135) rfl 10 #[.slice (some AY) L L, .slice (some ⟨we2.heap.size, 0, none⟩) L L] (ds_Eq (ts := #[22, 22]) (x0 := 131) (x1 := 134) (by kernel_rfl) (by kernel_rfl) (by kernel_rfl)) (fun r w' => r = .bool true ∧ Below (we2.alloc (.cells (vb (List.replicate L 0)).toArray 5)).heap.size (we2.alloc (.cells (vb (List.replicate L 0)).toArray 5)) w') ((bytesEqual_same _ _ _ L L L (List.replicate L 0) (by have h := bs_drop (((HRyd.out.below b1).below b2).below bL) n hn128 AY HAY.out; rw [HYC.out, List.drop_append_of_le_length (by rw [List.length_take, HOL.out.1]; omega), List.drop_of_length_le (by rw [List.length_take, HOL.out.1]; omega), List.nil_append, ← HLL.out] at h; exact h) (row_bs hrL (List.length_replicate) (by have := HLL.out; unfold maxLen; omega) (fun x hx => by rw [List.eq_of_mem_replicate hx]; decide))).mono fun e w' h => ⟨_, h.1, rfl, h.2⟩) (fun r we3 hR => ?_) rdy_nil
      obtain ⟨rfl, b3⟩ := hR
      have HBe3 := hidn (HBL.out.trans (b3.mono HBL.out.size))
      refine ⟨trivial, fun hHeld => ?_⟩
      simp only [Act.put, List.setIfInBounds_toArray, List.set_cons_succ, List.set_cons_zero]
      refine drawn_take (i := 28) (v := .bool true) (some 136) rfl rfl (by kernel_rfl) (by kernel_rfl) (by kernel_rfl) (fun _ _ _ h => h) (Or.inl ⟨by kernel_rfl, fun wq hw => by go_simp⟩) hHeld ?_
      simp only [Act.put, List.setIfInBounds_toArray, List.set_cons_succ, List.set_cons_zero]
      refine drawn_take (i := 29) (v := .bool true) (some 8) rfl rfl (by kernel_rfl) (by kernel_rfl) (by kernel_rfl) (fun _ _ _ h => h) (Or.inl ⟨by kernel_rfl, fun wq hw => by go_simp⟩) hHeld ?_
      simp only [Act.put, List.setIfInBounds_toArray, List.set_cons_succ, List.set_cons_zero]
      refine wpAnyH_done (by kernel_rfl) ?_ _
      refine NoPanic.normal ?_
      clear hHeld hrL bL b1 b2 b3
      go_wp2_with fail
      exact bodyPost_ret (v := .bool true) (by simp [results, Try.results3, go_sem]) rfl ⟨rfl, HBe3.out⟩
end Go.Proofs.Ytjfdhfcjjikliaa
