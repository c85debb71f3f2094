/- AnchorBytes: the law's walk. -/
import Derived.Test.YtoopdmfijbbfdaaDoorMe
namespace Go.Proofs.YtoopdmfijbbfdaaDoor
open Go.RowKit Go.Maps
set_option linter.unusedVariables false

def ThreeB (a p q : Nat) (ca cd : Array Value) (w : World) : Prop := w.heap[a]? = some (.cells ca 23 (0, 0)) ∧ w.heap[p]? = some (.cells cd 23 (0, 0)) ∧ w.heap[q]? = some (.cells cd 23 (0, 0))

theorem ThreeB.below {a p q : Nat} {ca cd : Array Value} {w w' : World} (h : ThreeB a p q ca cd w) (hb : Below w.heap.size w w') : ThreeB a p q ca cd w' :=
  ⟨(hb.block a (Array.getElem?_eq_some_iff.1 h.1).1).trans h.1, (hb.block p (Array.getElem?_eq_some_iff.1 h.2.1).1).trans h.2.1, (hb.block q (Array.getElem?_eq_some_iff.1 h.2.2).1).trans h.2.2⟩

theorem ds_EqA {o : Oper} {a : Act} {w : World} {ts : Array TypeId} {x0 x1 : Nat} {v0 v1 : Value} (ho : o.op = Op.call { callee := Callee.value (Operand.func 12), args := #[.tmp x0, .tmp x1], argTypes := ts }) (hx0 : a.eval (.tmp x0) = v0) (hx1 : a.eval (.tmp x1) = v1) : (execOp a.eval o).run Tryd.prog w = .ok (.enter 12 #[v0, v1]) w := by
  simp [go_sem, execOp, ho, resolve, invoke]
  exact ⟨by simpa [Act.eval] using hx0, by simpa [Act.eval] using hx1⟩

theorem ds_CanA {o : Oper} {a : Act} {w : World} {ts : Array TypeId} {x0 : Nat} {v0 : Value} (ho : o.op = Op.call { callee := Callee.value (Operand.func 13), args := #[.tmp x0], argTypes := ts }) (hx0 : a.eval (.tmp x0) = v0) : (execOp a.eval o).run Tryd.prog w = .ok (.enter 13 #[v0]) w := by
  simp [go_sem, execOp, ho, resolve, invoke]
  simpa [Act.eval] using hx0

theorem ds_RcA {o : Oper} {a : Act} {w : World} {ts : Array TypeId} {x0 : Nat} {v0 : Value} (ho : o.op = Op.call { callee := Callee.value (Operand.func 14), args := #[.tmp x0], argTypes := ts }) (hx0 : a.eval (.tmp x0) = v0) : (execOp a.eval o).run Tryd.prog w = .ok (.enter 14 #[v0]) w := by
  simp [go_sem, execOp, ho, resolve, invoke]
  simpa [Act.eval] using hx0

theorem ds_AwA {o : Oper} {a : Act} {w : World} {ts : Array TypeId} (ho : o.op = Op.call { callee := Callee.value (Operand.func 15), args := #[], argTypes := ts }) : (execOp a.eval o).run Tryd.prog w = .ok (.enter 15 #[]) w := by
  simp [go_sem, execOp, ho, resolve, invoke]

section
variable {P : Program} {md : Region.Mode} {ops : Array Oper} {Q : Exit → Act → World → Prop} {S : World → Prop} {fuel : Nat} {listed : Array Bool} {a : Act} {w : World} {i : Nat} {o : Oper} {rs : List Nat}
theorem rdy_callw (ho : ops[i]? = some o) (hw : Region.wanted o (yielded ops a.tmps) = true) (dst : Option Nat) (hd : o.dst = dst) (f : FuncId) (args : Array Value) (hrun : (execOp a.eval o).run P w = .ok (.enter f args) w) (R : Value → World → Prop)
    (hc : Calls P f args w fun e w' => ∃ v, e = .returned v ∧ R v w')
    (h : ∀ v w', R v w' → S w' ∧ (S w' → wpAnyH P md ops Q S fuel (listed.setIfInBounds i true) (a.put dst v) w')) (hs : AllReadyH P md ops Q S fuel listed a w rs) : AllReadyH P md ops Q S fuel listed a w (i :: rs) := by
  subst hd
  refine AllReadyH.cons ho (fun K hK => ?_) hs
  rw [if_pos hw]
  unfold Oper.wp
  rw [hrun, Oper.upon_enter]
  refine hc.mono fun e w' hh => ?_
  obtain ⟨v, rfl, hR⟩ := hh
  exact hK _ _ (h v w' hR).1 (h v w' hR).2
end

theorem bs_nilA (w : World) : Bs w none 0 [] := ⟨rfl, Nat.zero_le _, (fun x hx => by simp at hx), fun _ => rfl, fun x hx => by cases hx⟩

theorem bs_wordsA {w : World} {base : Nat} {v : Value} {xs : List Int} (h : w.ownsRow base 5 1 v 80 (vb (wordsB xs))) (hl : (wordsB xs).length = 80) : ∃ a c, v = .slice a (wordsB xs).length c ∧ Bs w a (wordsB xs).length (wordsB xs) := by
  rw [hl]
  exact bs_of_own h (wordsB_lt _)

theorem enc_both (y0 y1 y2 y3 y4 y5 y6 y7 y8 y9 : Int) : ∃ (P : List Nat) (er : Int), (∀ w : World, Calls Tryd.prog 8 #[.agg #[.int .i64 y0, .int .i64 y1, .int .i64 y2, .int .i64 y3, .int .i64 y4, .int .i64 y5, .int .i64 y6, .int .i64 y7, .int .i64 y8, .int .i64 y9]] w fun e w' => ∃ a c, e = .returned (.tuple #[.slice a P.length c, .int .i64 er]) ∧ Bs w' a P.length P ∧ Below w.heap.size w w') ∧ (∀ w : World, Calls Tryd.prog 9 #[.agg #[.int .i64 y0, .int .i64 y1, .int .i64 y2, .int .i64 y3, .int .i64 y4, .int .i64 y5, .int .i64 y6, .int .i64 y7, .int .i64 y8, .int .i64 y9]] w fun e w' => ∃ a c, e = .returned (.tuple #[.slice a P.length c, .int .i64 er]) ∧ Bs w' a P.length P ∧ Below w.heap.size w w') := by
  cases hcan : ancB y0 y1 y2 y3 y4 y7 y8 y9 with
  | false =>
    exact ⟨[], 1, fun w => (encode_no w y0 y1 y2 y3 y4 y5 y6 y7 y8 y9 hcan).mono (by rintro e w' ⟨rfl, hb⟩; exact ⟨none, 0, rfl, bs_nilA _, hb⟩), fun w => (refEncode_no w y0 y1 y2 y3 y4 y5 y6 y7 y8 y9 hcan).mono (by rintro e w' ⟨rfl, hb⟩; exact ⟨none, 0, rfl, bs_nilA _, hb⟩)⟩
  | true =>
    have hl : (wordsB [y0, y1, y2, y3, y4, y5, y6, y7, y8, y9]).length = 80 := by rw [wordsB_length]; rfl
    refine ⟨wordsB [y0, y1, y2, y3, y4, y5, y6, y7, y8, y9], 0, fun w => (encode_yes w y0 y1 y2 y3 y4 y5 y6 y7 y8 y9 hcan).mono ?_, fun w => (refEncode_yes w y0 y1 y2 y3 y4 y5 y6 y7 y8 y9 hcan).mono ?_⟩
    · rintro e w' ⟨v, rfl, ho, hb⟩
      obtain ⟨a, c, rfl, hB⟩ := bs_wordsA ho hl
      exact ⟨a, c, rfl, hB, hb⟩
    · rintro e w' ⟨v, rfl, ho, hb⟩
      obtain ⟨a, c, rfl, hB⟩ := bs_wordsA ho hl
      exact ⟨a, c, rfl, hB, hb⟩

theorem dec_both (w : World) (a : Option Addr) (len cap : Nat) (zs : List Nat) (hB : Bs w a len zs) (hc : len ≤ cap) : ∃ d0 d1 d2 d3 d4 d5 d6 d7 d8 d9 er : Int, (∀ wx : World, Below w.heap.size w wx → Calls Tryd.prog 10 #[.slice a len cap] wx fun e w' => e = .returned (.tuple #[.agg #[.int .i64 d0, .int .i64 d1, .int .i64 d2, .int .i64 d3, .int .i64 d4, .int .i64 d5, .int .i64 d6, .int .i64 d7, .int .i64 d8, .int .i64 d9], .int .i64 er]) ∧ Below wx.heap.size wx w') ∧ (∀ wx : World, Below w.heap.size w wx → Calls Tryd.prog 11 #[.slice a len cap] wx fun e w' => e = .returned (.tuple #[.agg #[.int .i64 d0, .int .i64 d1, .int .i64 d2, .int .i64 d3, .int .i64 d4, .int .i64 d5, .int .i64 d6, .int .i64 d7, .int .i64 d8, .int .i64 d9], .int .i64 er]) ∧ Below wx.heap.size wx w') := by
  obtain ⟨hl, hm, hz, hn, hcell⟩ := hB
  by_cases h80 : len = 80
  · subst h80
    cases a with
    | none => have := hn rfl; omega
    | some x =>
      obtain ⟨b, off, spot⟩ := x
      have hspot : spot = none := by simpa [Addr.add] using World.cell?_spot (hcell _ rfl 0 (by omega))
      subst hspot
      have hq : ∀ q, q < 80 → w.cell? ⟨b, off + q, none⟩ = some (.int .u8 ((zs.getD q 0 : Nat) : Int)) := fun q hq => by
        have h := hcell _ rfl q hq
        rwa [add_none] at h
      obtain ⟨d0, d1, d2, d3, d4, d5, d6, d7, d8, d9, hx⟩ : ∃ d0 d1 d2 d3 d4 d5 d6 d7 d8 d9 : Int, fieldsI zs = [d0, d1, d2, d3, d4, d5, d6, d7, d8, d9] := ⟨_, _, _, _, _, _, _, _, _, _, rfl⟩
      cases hcan : ancB d0 d1 d2 d3 d4 d7 d8 d9 with
      | true => exact ⟨d0, d1, d2, d3, d4, d5, d6, d7, d8, d9, 0, fun wx hb => decode_yes wx b off cap zs hl hz hc (fun q h => (hb.cell (block_lt_of_cell (hq q h))).trans (hq q h)) d0 d1 d2 d3 d4 d5 d6 d7 d8 d9 hx hcan, fun wx hb => refDecode_yes wx b off cap zs hl hz hc (fun q h => (hb.cell (block_lt_of_cell (hq q h))).trans (hq q h)) d0 d1 d2 d3 d4 d5 d6 d7 d8 d9 hx hcan⟩
      | false => exact ⟨0, 0, 0, 0, 0, 0, 0, 0, 0, 0, 5, fun wx hb => decode_no wx b off cap zs hl hz hc (fun q h => (hb.cell (block_lt_of_cell (hq q h))).trans (hq q h)) d0 d1 d2 d3 d4 d5 d6 d7 d8 d9 hx hcan, fun wx hb => refDecode_no wx b off cap zs hl hz hc (fun q h => (hb.cell (block_lt_of_cell (hq q h))).trans (hq q h)) d0 d1 d2 d3 d4 d5 d6 d7 d8 d9 hx hcan⟩
  · exact ⟨0, 0, 0, 0, 0, 0, 0, 0, 0, 0, 5, fun wx _ => decode_len wx a len cap h80 hm, fun wx _ => refDecode_len wx a len cap h80 hm⟩

set_option maxRecDepth 100000 in
set_option maxHeartbeats 8000000 in
theorem anchorBytes_walk (y0 y1 y2 y3 y4 y5 y6 y7 y8 y9 : Int) (a : Option Addr) (len cap : Nat) (hlc : len ≤ cap) (zs : List Nat) (w : World) (hB : Bs w a len zs) (hT : CrcTab w) :
    Calls Tryd.prog 3 #[.agg #[.int .i64 y0, .int .i64 y1, .int .i64 y2, .int .i64 y3, .int .i64 y4, .int .i64 y5, .int .i64 y6, .int .i64 y7, .int .i64 y8, .int .i64 y9], .slice a len cap] w fun e w' => e = .returned (.bool true) ∧ Below w.heap.size w w' := by
  obtain ⟨P, er, hE1, hE2⟩ := enc_both y0 y1 y2 y3 y4 y5 y6 y7 y8 y9
  obtain ⟨d0, d1, d2, d3, d4, d5, d6, d7, d8, d9, er2, hD1, hD2⟩ := dec_both w a len cap zs hB hlc
  have HE1 := hidn hE1
  have HE2 := hidn hE2
  have HD1 := hidn hD1
  have HD2 := hidn hD2
  have HT := hidn hT
  have HCan := hidn can_any
  have HRC := hidn refCan_any
  obtain ⟨R, hR⟩ : ∃ R, R = ancB y0 y1 y2 y3 y4 y7 y8 y9 := ⟨_, rfl⟩
  have HR := hidn hR
  obtain ⟨n, hn⟩ : ∃ n, n = P.length := ⟨_, rfl⟩
  rw [← hn] at HE1 HE2
  clear hE1 hE2 hD1 hD2 hT hR hB hn
  go_enter Tryd.func3, Tryd.ntmps3
  go_wp2_with fail
  refine (HE1.out _).mono ?_
  clear HE1
  rintro e w1 ⟨xa, xc, rfl, hX1, hb1⟩
  have hs1 := hb1.size
  rw [World.size_alloc] at hs1
  have HB1 := hidn ((below1 w _).trans (hb1.mono (below1 w _).size))
  have HA1 := hidn ((hb1.block w.heap.size (by rw [World.size_alloc]; omega)).trans (heap_alloc_new w _))
  have HX1 := hidn hX1
  obtain ⟨hc0, hc1, hc2, hc3, hc4, hc5, hc6, hc7, hc8, hc9⟩ := ten_cells HA1.out
  clear hb1 hX1
  go_wp2_with fail
  refine (HE2.out _).mono ?_
  clear HE2 hc0 hc1 hc2 hc3 hc4 hc5 hc6 hc7 hc8 hc9
  rintro e w2 ⟨ya, yc, rfl, hY2, hb2⟩
  have hs2 := hb2.size
  have HB2 := hidn (HB1.out.trans (hb2.mono HB1.out.size))
  have HA2 := hidn ((hb2.block w.heap.size (by omega)).trans HA1.out)
  have HX2 := hidn (HX1.out.below hb2)
  have HY2 := hidn hY2
  clear hb2 hY2 HB1 HA1 HX1
  go_wp2_with fail
  refine (HD1.out _ HB2.out).mono ?_
  clear HD1
  rintro e w3 ⟨rfl, hb3⟩
  have hs3 := hb3.size
  have hbP := below1 w3 (.cells #[.int .i64 d0, .int .i64 d1, .int .i64 d2, .int .i64 d3, .int .i64 d4, .int .i64 d5, .int .i64 d6, .int .i64 d7, .int .i64 d8, .int .i64 d9] 23)
  have HB3 := hidn (HB2.out.trans (hb3.mono HB2.out.size))
  have HB3' := hidn (HB3.out.trans (hbP.mono HB3.out.size))
  have HA3 := hidn ((hb3.block w.heap.size (by omega)).trans HA2.out)
  have HX3 := hidn (HX2.out.below hb3)
  have HY3 := hidn (HY2.out.below hb3)
  clear hb3 HB2 HA2 HX2 HY2
  go_wp2_with fail
  refine (HD2.out _ HB3'.out).mono ?_
  clear HD2
  rintro e w4 ⟨rfl, hb4⟩
  have hs4 := hb4.size
  rw [World.size_alloc] at hs4
  have HB4 := hidn (HB3'.out.trans (hb4.mono HB3'.out.size))
  have HA4 := hidn ((hb4.block w.heap.size (by rw [World.size_alloc]; omega)).trans ((Below.heap_alloc w3 _ w.heap.size (by omega)).trans HA3.out))
  have HP4 := hidn ((hb4.block w3.heap.size (by rw [World.size_alloc]; omega)).trans (heap_alloc_new w3 _))
  have hbQ := below1 w4 (.cells #[.int .i64 d0, .int .i64 d1, .int .i64 d2, .int .i64 d3, .int .i64 d4, .int .i64 d5, .int .i64 d6, .int .i64 d7, .int .i64 d8, .int .i64 d9] 23)
  have HX4 := hidn (((HX3.out.below hbP).below hb4).below hbQ)
  have HY4 := hidn (((HY3.out.below hbP).below hb4).below hbQ)
  have HB5 := hidn (HB4.out.alloc HB4.out.size (.cells #[.int .i64 d0, .int .i64 d1, .int .i64 d2, .int .i64 d3, .int .i64 d4, .int .i64 d5, .int .i64 d6, .int .i64 d7, .int .i64 d8, .int .i64 d9] 23))
  have HA5 := hidn ((Below.heap_alloc w4 (.cells #[.int .i64 d0, .int .i64 d1, .int .i64 d2, .int .i64 d3, .int .i64 d4, .int .i64 d5, .int .i64 d6, .int .i64 d7, .int .i64 d8, .int .i64 d9] 23) w.heap.size (by omega)).trans HA4.out)
  clear hb4 hbP hbQ HB3 HB3' HA3 HX3 HY3 HB4 HA4
  go_wp2_with fail
  have hS5 : ThreeB w.heap.size w3.heap.size w4.heap.size #[.int .i64 y0, .int .i64 y1, .int .i64 y2, .int .i64 y3, .int .i64 y4, .int .i64 y5, .int .i64 y6, .int .i64 y7, .int .i64 y8, .int .i64 y9] #[.int .i64 d0, .int .i64 d1, .int .i64 d2, .int .i64 d3, .int .i64 d4, .int .i64 d5, .int .i64 d6, .int .i64 d7, .int .i64 d8, .int .i64 d9] (w4.alloc (.cells #[.int .i64 d0, .int .i64 d1, .int .i64 d2, .int .i64 d3, .int .i64 d4, .int .i64 d5, .int .i64 d6, .int .i64 d7, .int .i64 d8, .int .i64 d9] 23)) := ⟨HA5.out, (Below.heap_alloc w4 _ w3.heap.size (by omega)).trans HP4.out, heap_alloc_new w4 _⟩
  generalize w4.alloc (.cells #[.int .i64 d0, .int .i64 d1, .int .i64 d2, .int .i64 d3, .int .i64 d4, .int .i64 d5, .int .i64 d6, .int .i64 d7, .int .i64 d8, .int .i64 d9] 23) = W5 at *
  have hdr : Below W5.heap.size W5 W5.drew := (Below.refl _ _).drew
  have HXd := hidn (HX4.out.below hdr)
  have HYd := hidn (HY4.out.below hdr)
  have HBd := hidn (HB5.out.trans (hdr.mono HB5.out.size))
  have hSd := hS5.below hdr
  obtain ⟨wd, hwd⟩ : ∃ wd, wd = W5.drew := ⟨_, rfl⟩
  clear hdr HX4 HY4 HB5 HA5 HP4
  refine wp_region_noPanic ?_
  refine wp_region_held_drew (S := ThreeB w.heap.size w3.heap.size w4.heap.size #[.int .i64 y0, .int .i64 y1, .int .i64 y2, .int .i64 y3, .int .i64 y4, .int .i64 y5, .int .i64 y6, .int .i64 y7, .int .i64 y8, .int .i64 y9] #[.int .i64 d0, .int .i64 d1, .int .i64 d2, .int .i64 d3, .int .i64 d4, .int .i64 d5, .int .i64 d6, .int .i64 d7, .int .i64 d8, .int .i64 d9]) (by kernel_rfl) (hSd) (fun hHeld => ?_)
  rw [← hwd] at hHeld HXd HYd HBd hSd ⊢
  clear hwd hS5
  refine drawn_take (i := 0) (v := .slice xa n xc) (some 33) rfl rfl (by kernel_rfl) (by kernel_rfl) (by kernel_rfl) (fun _ _ _ h => h) (Or.inl ⟨by kernel_rfl, fun wq hw => by go_simp⟩) hHeld ?_
  simp only [Act.put, List.setIfInBounds_toArray, List.set_cons_succ, List.set_cons_zero]
  refine drawn_take (i := 1) (v := .slice ya n yc) (some 34) rfl rfl (by kernel_rfl) (by kernel_rfl) (by kernel_rfl) (fun _ _ _ h => h) (Or.inl ⟨by kernel_rfl, fun wq hw => by go_simp⟩) hHeld ?_
  simp only [Act.put, List.setIfInBounds_toArray, List.set_cons_succ, List.set_cons_zero]
  refine wpAnyH_ready (rs := [2]) (by kernel_rfl) (by simp) ?_
  refine rdy_callw (i := 2) rfl (by kernel_rfl) (some 35) rfl 12 #[.slice xa n xc, .slice ya n yc] (ds_EqA (x0 := 33) (x1 := 34) (ts := #[24, 24]) (by kernel_rfl) (by kernel_rfl) (by kernel_rfl)) (fun r w' => r = .bool true ∧ Below wd.heap.size wd w') ((equal_any xa ya n xc n yc P P wd HXd.out HYd.out).mono fun e w' h => ⟨_, h.1, by simp, by rw [h.2]; exact Below.refl _ _⟩) (fun r w9 hR => ?_) rdy_nil
  obtain ⟨rfl, b1⟩ := hR
  have HB6 := hidn (HBd.out.trans (b1.mono HBd.out.size))
  have hS6 := hSd.below b1
  refine ⟨hS6, fun hHeld => ?_⟩
  simp only [Act.put, List.setIfInBounds_toArray, List.set_cons_succ, List.set_cons_zero]
  clear b1 HXd HYd HBd hSd
  refine drawn_take (i := 3) (v := .bool true) (some 36) rfl rfl (by kernel_rfl) (by kernel_rfl) (by kernel_rfl) (fun _ _ _ h => h) (Or.inl ⟨by kernel_rfl, fun wq hw => by go_simp⟩) hHeld ?_
  simp only [Act.put, List.setIfInBounds_toArray, List.set_cons_succ, List.set_cons_zero]
  refine drawn_take (i := 4) (v := .int .i64 er) (some 37) rfl rfl (by kernel_rfl) (by kernel_rfl) (by kernel_rfl) (fun _ _ _ h => h) (Or.inl ⟨by kernel_rfl, fun wq hw => by go_simp⟩) hHeld ?_
  simp only [Act.put, List.setIfInBounds_toArray, List.set_cons_succ, List.set_cons_zero]
  refine drawn_take (i := 5) (v := .int .i64 er) (some 38) rfl rfl (by kernel_rfl) (by kernel_rfl) (by kernel_rfl) (fun _ _ _ h => h) (Or.inl ⟨by kernel_rfl, fun wq hw => by go_simp⟩) hHeld ?_
  simp only [Act.put, List.setIfInBounds_toArray, List.set_cons_succ, List.set_cons_zero]
  refine drawn_take (i := 6) (v := .bool true) (some 39) rfl rfl (by kernel_rfl) (by kernel_rfl) (by kernel_rfl) (fun _ _ _ h => h) (Or.inl ⟨by kernel_rfl, fun wq hw => by go_simp⟩) hHeld ?_
  simp only [Act.put, List.setIfInBounds_toArray, List.set_cons_succ, List.set_cons_zero]
  refine drawn_take (i := 7) (v := .bool true) (some 40) rfl rfl (by kernel_rfl) (by kernel_rfl) (by kernel_rfl) (fun _ _ _ h => h) (Or.inl ⟨by kernel_rfl, fun wq hw => by go_simp⟩) hHeld ?_
  simp only [Act.put, List.setIfInBounds_toArray, List.set_cons_succ, List.set_cons_zero]
  refine drawn_take (i := 8) (v := .bool true) (some 41) rfl rfl (by kernel_rfl) (by kernel_rfl) (by kernel_rfl) (fun _ _ _ h => h) (Or.inl ⟨by kernel_rfl, fun wq hw => by go_simp⟩) hHeld ?_
  simp only [Act.put, List.setIfInBounds_toArray, List.set_cons_succ, List.set_cons_zero]
  refine drawn_take (i := 9) (v := .agg #[.int .i64 d0, .int .i64 d1, .int .i64 d2, .int .i64 d3, .int .i64 d4, .int .i64 d5, .int .i64 d6, .int .i64 d7, .int .i64 d8, .int .i64 d9]) (some 42) rfl rfl (by kernel_rfl) (by kernel_rfl) (by kernel_rfl) (fun _ _ _ h => h) (Or.inl ⟨by kernel_rfl, fun wq hw => by obtain ⟨hc0, hc1, hc2, hc3, hc4, hc5, hc6, hc7, hc8, hc9⟩ := ten_cells hw.2.1; go_simp⟩) hHeld ?_
  simp only [Act.put, List.setIfInBounds_toArray, List.set_cons_succ, List.set_cons_zero]
  refine drawn_take (i := 10) (v := .agg #[.int .i64 d0, .int .i64 d1, .int .i64 d2, .int .i64 d3, .int .i64 d4, .int .i64 d5, .int .i64 d6, .int .i64 d7, .int .i64 d8, .int .i64 d9]) (some 43) rfl rfl (by kernel_rfl) (by kernel_rfl) (by kernel_rfl) (fun _ _ _ h => h) (Or.inl ⟨by kernel_rfl, fun wq hw => by obtain ⟨hc0, hc1, hc2, hc3, hc4, hc5, hc6, hc7, hc8, hc9⟩ := ten_cells hw.2.2; go_simp⟩) hHeld ?_
  simp only [Act.put, List.setIfInBounds_toArray, List.set_cons_succ, List.set_cons_zero]
  refine drawn_take (i := 11) (v := .bool true) (some 44) rfl rfl (by kernel_rfl) (by kernel_rfl) (by kernel_rfl) (fun _ _ _ h => h) (Or.inl ⟨by kernel_rfl, fun wq hw => by go_simp⟩) hHeld ?_
  simp only [Act.put, List.setIfInBounds_toArray, List.set_cons_succ, List.set_cons_zero]
  refine drawn_take (i := 12) (v := .bool true) (some 45) rfl rfl (by kernel_rfl) (by kernel_rfl) (by kernel_rfl) (fun _ _ _ h => h) (Or.inl ⟨by kernel_rfl, fun wq hw => by go_simp⟩) hHeld ?_
  simp only [Act.put, List.setIfInBounds_toArray, List.set_cons_succ, List.set_cons_zero]
  refine drawn_take (i := 13) (v := .bool true) (some 46) rfl rfl (by kernel_rfl) (by kernel_rfl) (by kernel_rfl) (fun _ _ _ h => h) (Or.inl ⟨by kernel_rfl, fun wq hw => by go_simp⟩) hHeld ?_
  simp only [Act.put, List.setIfInBounds_toArray, List.set_cons_succ, List.set_cons_zero]
  refine drawn_take (i := 14) (v := .int .i64 er2) (some 47) rfl rfl (by kernel_rfl) (by kernel_rfl) (by kernel_rfl) (fun _ _ _ h => h) (Or.inl ⟨by kernel_rfl, fun wq hw => by go_simp⟩) hHeld ?_
  simp only [Act.put, List.setIfInBounds_toArray, List.set_cons_succ, List.set_cons_zero]
  refine drawn_take (i := 15) (v := .int .i64 er2) (some 48) rfl rfl (by kernel_rfl) (by kernel_rfl) (by kernel_rfl) (fun _ _ _ h => h) (Or.inl ⟨by kernel_rfl, fun wq hw => by go_simp⟩) hHeld ?_
  simp only [Act.put, List.setIfInBounds_toArray, List.set_cons_succ, List.set_cons_zero]
  refine drawn_take (i := 16) (v := .bool true) (some 49) rfl rfl (by kernel_rfl) (by kernel_rfl) (by kernel_rfl) (fun _ _ _ h => h) (Or.inl ⟨by kernel_rfl, fun wq hw => by go_simp⟩) hHeld ?_
  simp only [Act.put, List.setIfInBounds_toArray, List.set_cons_succ, List.set_cons_zero]
  refine drawn_take (i := 17) (v := .bool true) (some 50) rfl rfl (by kernel_rfl) (by kernel_rfl) (by kernel_rfl) (fun _ _ _ h => h) (Or.inl ⟨by kernel_rfl, fun wq hw => by go_simp⟩) hHeld ?_
  simp only [Act.put, List.setIfInBounds_toArray, List.set_cons_succ, List.set_cons_zero]
  refine drawn_take (i := 18) (v := .bool true) (some 51) rfl rfl (by kernel_rfl) (by kernel_rfl) (by kernel_rfl) (fun _ _ _ h => h) (Or.inl ⟨by kernel_rfl, fun wq hw => by go_simp⟩) hHeld ?_
  simp only [Act.put, List.setIfInBounds_toArray, List.set_cons_succ, List.set_cons_zero]
  refine drawn_take (i := 19) (v := .agg #[.int .i64 y0, .int .i64 y1, .int .i64 y2, .int .i64 y3, .int .i64 y4, .int .i64 y5, .int .i64 y6, .int .i64 y7, .int .i64 y8, .int .i64 y9]) (some 52) rfl rfl (by kernel_rfl) (by kernel_rfl) (by kernel_rfl) (fun _ _ _ h => h) (Or.inl ⟨by kernel_rfl, fun wq hw => by obtain ⟨hc0, hc1, hc2, hc3, hc4, hc5, hc6, hc7, hc8, hc9⟩ := ten_cells hw.1; go_simp⟩) hHeld ?_
  simp only [Act.put, List.setIfInBounds_toArray, List.set_cons_succ, List.set_cons_zero]
  refine drawn_take (i := 21) (v := .agg #[.int .i64 y0, .int .i64 y1, .int .i64 y2, .int .i64 y3, .int .i64 y4, .int .i64 y5, .int .i64 y6, .int .i64 y7, .int .i64 y8, .int .i64 y9]) (some 54) rfl rfl (by kernel_rfl) (by kernel_rfl) (by kernel_rfl) (fun _ _ _ h => h) (Or.inl ⟨by kernel_rfl, fun wq hw => by obtain ⟨hc0, hc1, hc2, hc3, hc4, hc5, hc6, hc7, hc8, hc9⟩ := ten_cells hw.1; go_simp⟩) hHeld ?_
  simp only [Act.put, List.setIfInBounds_toArray, List.set_cons_succ, List.set_cons_zero]
  refine wpAnyH_ready (rs := [20]) (by kernel_rfl) (by simp) ?_
  refine rdy_callw (i := 20) rfl (by kernel_rfl) (some 53) rfl 13 #[.agg #[.int .i64 y0, .int .i64 y1, .int .i64 y2, .int .i64 y3, .int .i64 y4, .int .i64 y5, .int .i64 y6, .int .i64 y7, .int .i64 y8, .int .i64 y9]] (ds_CanA (x0 := 52) (ts := #[23]) (by kernel_rfl) (by kernel_rfl)) (fun r w' => r = .bool R ∧ Below w9.heap.size w9 w') ((HCan.out w9 y0 y1 y2 y3 y4 y5 y6 y7 y8 y9).mono fun e w' h => ⟨_, h.1, by rw [HR.out], h.2⟩) (fun r w9 hR => ?_) rdy_nil
  obtain ⟨rfl, b2⟩ := hR
  have HB7 := hidn (HB6.out.trans (b2.mono HB6.out.size))
  have hS7 := hS6.below b2
  refine ⟨hS7, fun hHeld => ?_⟩
  simp only [Act.put, List.setIfInBounds_toArray, List.set_cons_succ, List.set_cons_zero]
  clear b2 HB6 hS6
  refine wpAnyH_ready (rs := [22]) (by kernel_rfl) (by simp) ?_
  refine rdy_callw (i := 22) rfl (by kernel_rfl) (some 55) rfl 14 #[.agg #[.int .i64 y0, .int .i64 y1, .int .i64 y2, .int .i64 y3, .int .i64 y4, .int .i64 y5, .int .i64 y6, .int .i64 y7, .int .i64 y8, .int .i64 y9]] (ds_RcA (x0 := 54) (ts := #[23]) (by kernel_rfl) (by kernel_rfl)) (fun r w' => r = .bool R ∧ Below w9.heap.size w9 w') ((HRC.out w9 y0 y1 y2 y3 y4 y5 y6 y7 y8 y9).mono fun e w' h => ⟨_, h.1, by rw [HR.out], h.2⟩) (fun r w9 hR => ?_) rdy_nil
  obtain ⟨rfl, b3⟩ := hR
  have HB8 := hidn (HB7.out.trans (b3.mono HB7.out.size))
  have hS8 := hS7.below b3
  refine ⟨hS8, fun hHeld => ?_⟩
  simp only [Act.put, List.setIfInBounds_toArray, List.set_cons_succ, List.set_cons_zero]
  clear b3 HB7 hS7
  refine drawn_take (i := 23) (v := .bool true) (some 56) rfl rfl (by kernel_rfl) (by kernel_rfl) (by kernel_rfl) (fun _ _ _ h => h) (Or.inl ⟨by kernel_rfl, fun wq hw => by cases R <;> go_simp⟩) hHeld ?_
  simp only [Act.put, List.setIfInBounds_toArray, List.set_cons_succ, List.set_cons_zero]
  refine drawn_take (i := 24) (v := .bool true) (some 57) rfl rfl (by kernel_rfl) (by kernel_rfl) (by kernel_rfl) (fun _ _ _ h => h) (Or.inl ⟨by kernel_rfl, fun wq hw => by go_simp⟩) hHeld ?_
  simp only [Act.put, List.setIfInBounds_toArray, List.set_cons_succ, List.set_cons_zero]
  refine drawn_take (i := 25) (v := .bool true) (some 58) rfl rfl (by kernel_rfl) (by kernel_rfl) (by kernel_rfl) (fun _ _ _ h => h) (Or.inl ⟨by kernel_rfl, fun wq hw => by go_simp⟩) hHeld ?_
  simp only [Act.put, List.setIfInBounds_toArray, List.set_cons_succ, List.set_cons_zero]
  refine wpAnyH_ready (rs := [26]) (by kernel_rfl) (by simp) ?_
  refine rdy_callw (i := 26) rfl (by kernel_rfl) (some 59) rfl 15 #[] (ds_AwA (ts := #[]) (by kernel_rfl)) (fun r w' => r = .bool true ∧ Below w9.heap.size w9 w') ((awake17_any w9 (HT.out.below HB8.out)).mono fun e w' h => ⟨_, h.1, rfl, h.2⟩) (fun r w9 hR => ?_) rdy_nil
  obtain ⟨rfl, b4⟩ := hR
  have HB9 := hidn (HB8.out.trans (b4.mono HB8.out.size))
  have hS9 := hS8.below b4
  refine ⟨hS9, fun hHeld => ?_⟩
  simp only [Act.put, List.setIfInBounds_toArray, List.set_cons_succ, List.set_cons_zero]
  clear b4 HB8 hS8
  refine drawn_take (i := 27) (v := .bool true) (some 60) rfl rfl (by kernel_rfl) (by kernel_rfl) (by kernel_rfl) (fun _ _ _ h => h) (Or.inl ⟨by kernel_rfl, fun wq hw => by go_simp⟩) hHeld ?_
  simp only [Act.put, List.setIfInBounds_toArray, List.set_cons_succ, List.set_cons_zero]
  refine drawn_take (i := 28) (v := .bool true) (some 4) rfl rfl (by kernel_rfl) (by kernel_rfl) (by kernel_rfl) (fun _ _ _ h => h) (Or.inl ⟨by kernel_rfl, fun wq hw => by go_simp⟩) hHeld ?_
  simp only [Act.put, List.setIfInBounds_toArray, List.set_cons_succ, List.set_cons_zero]
  refine wpAnyH_done (by kernel_rfl) ?_ _
  refine NoPanic.normal ?_
  clear hHeld
  go_wp2_with fail
  go_ret
  exact ⟨rfl, HB9.out⟩
end Go.Proofs.YtoopdmfijbbfdaaDoor
