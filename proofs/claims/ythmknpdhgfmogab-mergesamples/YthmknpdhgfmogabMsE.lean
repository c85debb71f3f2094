/- merge.Sample: the program's. -/
import Derived.Test.YthmknpdhgfmogabMsD
namespace Go.Proofs.Ythmknpdhgfmogab
open Go.RowKit Go.Joins
set_option linter.unusedVariables false

theorem wrapJ (n : Int) (h0 : 0 ≤ n) (h1 : n ≤ 1000000000) : IntKind.i64.wrap n = n := by
  simp [IntKind.wrap, IntKind.signed, IntKind.bits]
  omega

theorem callS2 {o : Oper} {a : Act} {w : World} {f : FuncId} {x y : Nat} {vx vy : Value} {ts : Array TypeId} (ho : o.op = Op.call { callee := Callee.value (Operand.func f), args := #[.tmp x, .tmp y], argTypes := ts }) (hen : ∀ args w, (callFunc f args).run Try.prog w = .ok (.enter f args) w) (hx : a.eval (.tmp x) = vx) (hy : a.eval (.tmp y) = vy) : (execOp a.eval o).run Try.prog w = .ok (.enter f #[vx, vy]) w := by
  simp [go_sem, execOp, ho, resolve, invoke, hen]
  exact ⟨by simpa [Act.eval] using hx, by simpa [Act.eval] using hy⟩

set_option maxHeartbeats 4000000 in
set_option maxRecDepth 100000 in
theorem sample_any (a : Option Addr) (len cap : Nat) (l : List Sam) (frm to step back : Int) (w : World) (h : Sm w a len l) (hm : len ≤ 1000000) (hf : -9223372036854775808 ≤ frm) (ht : to ≤ 9223372036854775807) (hs2 : step ≤ 9223372036854775807) (hb2 : back ≤ 9223372036854775807) :
    Calls Try.prog 25 #[.slice a len cap, .int .i64 frm, .int .i64 to, .int .i64 step, .int .i64 back] w (SmpP l frm to step back w) := by
  obtain ⟨w0, hw0⟩ : ∃ w0, w0 = w.alloc (.cells #[.slice a len cap] 38) := ⟨_, rfl⟩
  have b0 : Below w.heap.size w w0 := by rw [hw0]; exact (Below.refl _ w).alloc (Nat.le_refl _) _
  have q0 : w0.heap[w.heap.size]? = some (.cells #[.slice a len cap] 38 (0, 0)) := by rw [hw0]; exact heap_alloc_new w _
  have HRI := hidn (rise_any a len cap l w0 (h.below b0))
  have HL := hidn h.1
  have H := hidn h
  have HW0 := hidn hw0
  have HB0 := hidn b0
  have HQ0 := hidn q0
  clear h hw0 b0 q0
  obtain ⟨rb, hrb⟩ : ∃ rb, rb = riseB l := ⟨_, rfl⟩
  rw [← hrb] at HRI
  have HRB := hidn hrb
  clear hrb
  by_cases hbad : (rb = false ∨ step < 1 ∨ to < frm ∨ back < 0)
  · have HBD : Hid (badS l frm to step back = true) := hidn (by
      unfold badS; rw [← HRB.out]
      rcases hbad with rfl | h | h | h
      · rfl
      · simp [h]
      · simp [h]
      · simp [h])
    cases rb
    · go_enter Try.func25, Try.ntmps25
      go_wp2_with fail
      rw [← HW0.out]
      refine HRI.out.mono ?_
      rintro e w1 ⟨rfl, b1⟩
      go_wp2_with fail
      go_ret2
      exact ⟨HB0.out.trans (b1.mono HB0.out.size), .inl ⟨HBD.out, rfl⟩⟩
    by_cases h1 : step < 1
    · clear hbad
      go_enter Try.func25, Try.ntmps25
      go_wp2_with fail
      rw [← HW0.out]
      refine HRI.out.mono ?_
      rintro e w1 ⟨rfl, b1⟩
      go_wp2_with fail
      go_ret2
      exact ⟨HB0.out.trans (b1.mono HB0.out.size), .inl ⟨HBD.out, rfl⟩⟩
    by_cases h2 : to < frm
    · clear hbad
      go_enter Try.func25, Try.ntmps25
      go_wp2_with fail
      rw [← HW0.out]
      refine HRI.out.mono ?_
      rintro e w1 ⟨rfl, b1⟩
      go_wp2_with fail
      go_ret2
      exact ⟨HB0.out.trans (b1.mono HB0.out.size), .inl ⟨HBD.out, rfl⟩⟩
    have h3 : back < 0 := by
      rcases hbad with h | h | h | h
      · cases h
      · exact absurd h h1
      · exact absurd h h2
      · exact h
    clear hbad
    go_enter Try.func25, Try.ntmps25
    go_wp2_with fail
    rw [← HW0.out]
    refine HRI.out.mono ?_
    rintro e w1 ⟨rfl, b1⟩
    go_wp2_with fail
    go_ret2
    exact ⟨HB0.out.trans (b1.mono HB0.out.size), .inl ⟨HBD.out, rfl⟩⟩
  · have hrt : rb = true := by
      cases rb
      · exact absurd (.inl rfl) hbad
      · rfl
    subst hrt
    have h1 : ¬ step < 1 := fun h => hbad (.inr (.inl h))
    have h2 : ¬ to < frm := fun h => hbad (.inr (.inr (.inl h)))
    have h3 : ¬ back < 0 := fun h => hbad (.inr (.inr (.inr h)))
    have HBD : Hid (badS l frm to step back = false) := hidn (by
      unfold badS; rw [← HRB.out]; simp; omega)
    have HRS := hidn (riseS_of HRB.out.symm)
    clear hbad
    go_enter Try.func25, Try.ntmps25
    go_wp2_with fail
    rw [← HW0.out]
    refine HRI.out.mono ?_
    rintro e w1 ⟨rfl, b1⟩
    have HB1 := hidn (HB0.out.trans (b1.mono HB0.out.size))
    have HQ1 := hidn ((b1.block _ (Array.getElem?_eq_some_iff.1 HQ0.out).1).trans HQ0.out)
    have HBT := hidn (btw_any frm to w1 (by omega) hf ht)
    have hws := wrapS step (by omega) hs2
    clear b1 HRI
    go_wp2_with fail
    refine HBT.out.mono ?_
    rintro e w2 ⟨rfl, rfl⟩
    obtain ⟨N, hq⟩ : ∃ N : Nat, (to - frm) / step = (N : Int) := ⟨((to - frm) / step).toNat, by rw [Int.toNat_of_nonneg (Int.ediv_nonneg (by omega) (by omega))]⟩
    have hN1 : (N : Int) * step ≤ to - frm := by rw [← hq]; exact Int.ediv_mul_le _ (by omega)
    have hN2 : to - frm < ((N : Int) + 1) * step := by rw [← hq]; exact Int.lt_ediv_add_one_mul_self _ (by omega)
    have HN1 := hidn hN1
    have HN2 := hidn hN2
    clear hN1 hN2
    have d1 : decide (step < 1) = false := decide_eq_false (by omega)
    have d2 : decide (to < frm) = false := decide_eq_false (by omega)
    have d3 : decide (back < 0) = false := decide_eq_false (by omega)
    by_cases h200 : (200 : Int) ≤ (N : Int)
    · go_wp2_with fail
      go_ret2
      exact ⟨HB1.out, .inr (.inl ⟨HBD.out, by
        have := HN1.out
        have h9 : (200 : Int) * step ≤ (N : Int) * step := Int.mul_le_mul_of_nonneg_right h200 (by omega)
        omega, rfl⟩)⟩
    · have hN9 : (N : Int) ≤ 199 := by omega
      have HSM := hidn (H.out.below HB1.out)
      go_wp2_with fail
      simp only [hq]
      clear hq
      go_loopw [13, 44] (fun ov kv wr => ∃ k : Nat, k ≤ N + 1 ∧ kv = .int .i64 (k : Int) ∧ Hid (Below w2.heap.size w2 wr) ∧ Hid (wr.ownsRow w2.heap.size 48 2 ov (smp l frm step back k).length (vsm (smp l frm step back k)))) (fun _ kv _ => N + 1 - (intOf kv).toNat)
      case atStart => exact ⟨0, by omega, rfl, hidn (Below.refl _ _), hidn (World.ownsRow_nil _ _ _ _)⟩
      case round =>
        obtain ⟨k, hk, rfl, HB, HO⟩ := hrel
        obtain ⟨wo, hwo⟩ : ∃ wo, wo = wr := ⟨_, rfl⟩
        subst hwo
        by_cases hlt : k < N + 1
        · have hlt2 : (k : Int) < (N : Int) + 1 := by omega
          obtain ⟨x, hx⟩ : ∃ x, x = frm + (k : Int) * step := ⟨_, rfl⟩
          have hks : (k : Int) * step ≤ (N : Int) * step := Int.mul_le_mul_of_nonneg_right (by omega) (by omega)
          have hk0 : (0 : Int) ≤ (k : Int) * step := Int.mul_nonneg (by omega) (by omega)
          have hxt : x ≤ to := by have := HN1.out; omega
          have hfx : frm ≤ x := by omega
          have hxw : wrap64 (frm + wrap64 ((k : Int) * step)) = x := by
            generalize (k : Int) * step = p at *
            unfold wrap64
            omega
          have HX := hidn hx
          have hbw : w.heap.size < w2.heap.size := (Array.getElem?_eq_some_iff.1 HQ1.out).1
          obtain ⟨w3, hw3⟩ : ∃ w3, w3 = wo.alloc (.cells #[.int .i64 x] 3) := ⟨_, rfl⟩
          have b3 : Below wo.heap.size wo w3 := by rw [hw3]; exact (Below.refl _ wo).alloc (Nat.le_refl _) _
          have q3 : w3.heap[wo.heap.size]? = some (.cells #[.int .i64 x] 3 (0, 0)) := by rw [hw3]; exact heap_alloc_new wo _
          have l3 : w3.heap[w.heap.size]? = some (.cells #[.slice a len cap] 38 (0, 0)) := (b3.block _ (Nat.lt_of_lt_of_le hbw HB.out.size)).trans ((HB.out.block _ hbw).trans HQ1.out)
          have y0 : w3.cell? ⟨w.heap.size, 0, none⟩ = some (.slice a len cap) := cell_of_row _ _ _ _ _ _ l3
          have y1 : w3.cell? ⟨wo.heap.size, 0, none⟩ = some (.int .i64 x) := cell_of_row _ _ _ _ _ _ q3
          have d0 : (wo.alloc (.cells #[.int .i64 x] 3)).cell? ⟨w.heap.size, 0, none⟩ = some (.slice a len cap) := by rw [← hw3]; exact y0
          have hs3 : Sm w3 a len l := (HSM.out.below HB.out).below b3
          have HSR := hidn (search_any w.heap.size wo.heap.size a len cap l x w3 y0 y1 hs3 hm HRS.out)
          have HW3 := hidn hw3
          have HB3 := hidn b3
          have HQ3 := hidn q3
          have HL3 := hidn l3
          have HS3 := hidn hs3
          clear hx hks hk0 hw3 b3 q3 l3 hs3 hbw
          go_wp2_with fail
          rw [← HW3.out]
          refine HSR.out.mono ?_
          rintro e w4 ⟨c, rfl, hat, b4⟩
          have q4 : w4.heap[wo.heap.size]? = some (.cells #[.int .i64 x] 3 (0, 0)) := (b4.block _ (Array.getElem?_eq_some_iff.1 HQ3.out).1).trans HQ3.out
          have l4 : w4.heap[w.heap.size]? = some (.cells #[.slice a len cap] 38 (0, 0)) := (b4.block _ (Array.getElem?_eq_some_iff.1 HL3.out).1).trans HL3.out
          have hs4 := HS3.out.below b4
          have HQ4 := hidn q4
          have HL4 := hidn l4
          have z0 : w4.cell? ⟨w.heap.size, 0, none⟩ = some (.slice a len cap) := cell_of_row _ _ _ _ _ _ l4
          have z1 : w4.cell? ⟨wo.heap.size, 0, none⟩ = some (.int .i64 x) := cell_of_row _ _ _ _ _ _ q4
          have HB4 : Hid (Below w2.heap.size w2 w4) := hidn (HB.out.trans ((HB3.out.trans (b4.mono HB3.out.size)).mono HB.out.size))
          have HO4 : Hid (w4.ownsRow w2.heap.size 48 2 u13 (smp l frm step back k).length (vsm (smp l frm step back k))) := hidn (own_skip HO.out (HB3.out.trans (b4.mono HB3.out.size)))
          have HAT := hidn hat
          clear HSR d0 y0 y1 q4 l4 b4 hat
          rcases Nat.eq_zero_or_pos c with h0 | h0
          · subst h0
            have HONE : Hid (oneS l back x = []) := hidn (oneS_no HAT.out)
            have HO2 : Hid (w4.ownsRow w2.heap.size 48 2 u13 (smp l frm step back (k + 1)).length (vsm (smp l frm step back (k + 1)))) := hidn (by rw [smp, ← HX.out, HONE.out, List.append_nil]; exact HO4.out)
            clear hs4
            go_wp2_with fail
            go_region
            go_wp2_with fail
            go_roundw
            case rel => first | exact ⟨k + 1, by omega, by first | rfl | simp, hidn (HB4.out.drew), hidn (own_skip HO2.out ((Below.refl _ _).drew))⟩ | (repeat apply Exists.intro; exact ⟨⟨k + 1, by omega, by first | rfl | simp, hidn (HB4.out.drew), hidn (own_skip HO2.out ((Below.refl _ _).drew))⟩, rfl⟩)
            case measure => simp [intOf]; omega
          · obtain ⟨j, hj⟩ : ∃ j, c = j + 1 := ⟨c - 1, by omega⟩
            have hjl : j < len := by have := HAT.out.1; rw [HL.out] at this; omega
            have hcc : (0 : Int) < (c : Int) := by omega
            have hcj : (c : Int) - 1 = (j : Int) := by omega
            have hjn : ¬ (j : Int) < 0 := by omega
            have hjl2 : (j : Int) < (len : Int) := by omega
            obtain ⟨b, off, rfl, hbs, hcl⟩ := hs4.pos (by omega)
            obtain ⟨e0, e1⟩ := hcl j hjl
            have hok := hs4.2.2.1 j
            obtain ⟨y, hy⟩ : ∃ y, y = (samD l j).t := ⟨_, rfl⟩
            obtain ⟨v, hv⟩ : ∃ v, v = (samD l j).v := ⟨_, rfl⟩
            rw [← hy] at e0
            rw [← hv] at e1
            have hy0 : -9223372036854775808 ≤ y := by rw [hy]; exact hok.1
            have hyx : y ≤ x := by rw [hy]; exact HAT.out.2.1 j (by omega)
            have hwb := wrapS back (by omega) hb2
            have HBW := hidn (btw_any y x w4.drew hyx hy0 (by omega))
            have HRD : Hid (∀ w', Below w4.heap.size w4 w' → w'.cell? ⟨w.heap.size, 0, none⟩ = some (.slice (some ⟨b, off, none⟩) len cap) ∧ w'.cell? ⟨wo.heap.size, 0, none⟩ = some (.int .i64 x) ∧ w'.cell? ⟨b, off + j * 2, none⟩ = some (.int .i64 y) ∧ w'.cell? ⟨b, off + j * 2 + 1, none⟩ = some (.int .u64 (v : Int))) := hidn (fun w' hb => ⟨(hb.cell (block_lt_of_cell z0)).trans z0, (hb.cell (block_lt_of_cell z1)).trans z1, (hb.cell (block_lt_of_cell e0)).trans e0, (hb.cell (block_lt_of_cell e1)).trans e1⟩)
            have HY := hidn hy
            have HV := hidn hv
            have HCJ := hidn hj
            have HWJ : Hid (IntKind.i64.wrap (j : Int) = (j : Int)) := hidn (wrapJ _ (by omega) (by omega))
            clear hcl hok hy hv hj hs4 z0 z1 e0 e1
            by_cases hbk : x - y < back
            · go_wp2_with fail
              refine wp_region_noPanic ?_
              refine wp_region_held_drew (S := fun w' => Below w4.heap.size w4 w') (by kernel_rfl) ((Below.refl _ w4).drew) (fun hHeld => ?_)
              refine drawn_take (i := 0) (v := .int .i64 (c : Int)) (some 56) rfl rfl (by kernel_rfl) (by kernel_rfl) (by kernel_rfl) (fun _ _ _ h => h) (Or.inl ⟨by kernel_rfl, fun wq hw => by go_simp⟩) hHeld ?_
              simp only [Act.put, List.setIfInBounds_toArray, List.set_cons_succ, List.set_cons_zero]
              refine drawn_take (i := 1) (v := .bool true) (some 57) rfl rfl (by kernel_rfl) (by kernel_rfl) (by kernel_rfl) (fun _ _ _ h => h) (Or.inl ⟨by kernel_rfl, fun wq hw => by go_simp⟩) hHeld ?_
              simp only [Act.put, List.setIfInBounds_toArray, List.set_cons_succ, List.set_cons_zero]
              refine drawn_take (i := 2) (v := .bool true) (some 58) rfl rfl (by kernel_rfl) (by kernel_rfl) (by kernel_rfl) (fun _ _ _ h => h) (Or.inl ⟨by kernel_rfl, fun wq hw => by go_simp⟩) hHeld ?_
              simp only [Act.put, List.setIfInBounds_toArray, List.set_cons_succ, List.set_cons_zero]
              refine drawn_take (i := 3) (v := .slice (some ⟨b, off, none⟩) len cap) (some 59) rfl rfl (by kernel_rfl) (by kernel_rfl) (by kernel_rfl) (fun _ _ _ h => h) (Or.inl ⟨by kernel_rfl, fun wq hw => by have q9 := (HRD.out _ hw).1; go_simp⟩) hHeld ?_
              simp only [Act.put, List.setIfInBounds_toArray, List.set_cons_succ, List.set_cons_zero]
              refine drawn_take (i := 4) (v := .int .i64 (c : Int)) (some 60) rfl rfl (by kernel_rfl) (by kernel_rfl) (by kernel_rfl) (fun _ _ _ h => h) (Or.inl ⟨by kernel_rfl, fun wq hw => by go_simp⟩) hHeld ?_
              simp only [Act.put, List.setIfInBounds_toArray, List.set_cons_succ, List.set_cons_zero]
              refine drawn_take (i := 5) (v := .int .i64 (j : Int)) (some 61) rfl rfl (by kernel_rfl) (by kernel_rfl) (by kernel_rfl) (fun _ _ _ h => h) (Or.inl ⟨by kernel_rfl, fun wq hw => by go_simp; exact HWJ.out⟩) hHeld ?_
              simp only [Act.put, List.setIfInBounds_toArray, List.set_cons_succ, List.set_cons_zero]
              refine drawn_take (i := 6) (v := .pointer (some ⟨b, off + j * 2, none⟩)) (some 62) rfl rfl (by kernel_rfl) (by kernel_rfl) (by kernel_rfl) (fun _ _ _ h => h) (Or.inl ⟨by kernel_rfl, fun wq hw => by go_simp⟩) hHeld ?_
              simp only [Act.put, List.setIfInBounds_toArray, List.set_cons_succ, List.set_cons_zero]
              refine drawn_take (i := 7) (v := .pointer (some ⟨b, off + j * 2, none⟩)) (some 63) rfl rfl (by kernel_rfl) (by kernel_rfl) (by kernel_rfl) (fun _ _ _ h => h) (Or.inl ⟨by kernel_rfl, fun wq hw => by go_simp⟩) hHeld ?_
              simp only [Act.put, List.setIfInBounds_toArray, List.set_cons_succ, List.set_cons_zero]
              refine drawn_take (i := 8) (v := .int .i64 y) (some 64) rfl rfl (by kernel_rfl) (by kernel_rfl) (by kernel_rfl) (fun _ _ _ h => h) (Or.inl ⟨by kernel_rfl, fun wq hw => by have q9 := (HRD.out _ hw).2.2.1; go_simp⟩) hHeld ?_
              simp only [Act.put, List.setIfInBounds_toArray, List.set_cons_succ, List.set_cons_zero]
              refine drawn_take (i := 9) (v := .int .i64 x) (some 65) rfl rfl (by kernel_rfl) (by kernel_rfl) (by kernel_rfl) (fun _ _ _ h => h) (Or.inl ⟨by kernel_rfl, fun wq hw => by have q9 := (HRD.out _ hw).2.1; go_simp⟩) hHeld ?_
              simp only [Act.put, List.setIfInBounds_toArray, List.set_cons_succ, List.set_cons_zero]
              refine drawn_take (i := 11) (v := .int .i64 back) (some 67) rfl rfl (by kernel_rfl) (by kernel_rfl) (by kernel_rfl) (fun _ _ _ h => h) (Or.inl ⟨by kernel_rfl, fun wq hw => by go_simp⟩) hHeld ?_
              simp only [Act.put, List.setIfInBounds_toArray, List.set_cons_succ, List.set_cons_zero]
              refine drawn_take (i := 12) (v := .int .u64 back) (some 68) rfl rfl (by kernel_rfl) (by kernel_rfl) (by kernel_rfl) (fun _ _ _ h => h) (Or.inl ⟨by kernel_rfl, fun wq hw => by go_simp⟩) hHeld ?_
              simp only [Act.put, List.setIfInBounds_toArray, List.set_cons_succ, List.set_cons_zero]
              refine wpAnyH_ready (rs := [10]) (by kernel_rfl) (by simp) ?_
              refine rdy_callw (i := 10) rfl (by kernel_rfl) (some 66) rfl 46 #[.int .i64 y, .int .i64 x] (callS2 (x := 64) (y := 65) rfl (fun _ _ => rfl) (by kernel_rfl) (by kernel_rfl)) (fun r w9 => r = .int .u64 (x - y) ∧ w9 = w4.drew) (HBW.out.mono (by rintro e w9 ⟨rfl, h9⟩; exact ⟨_, rfl, rfl, h9⟩)) (fun r w9 hR => ?_) rdy_nil
              obtain ⟨rfl, rfl⟩ := hR
              refine ⟨hHeld, fun hHeld => ?_⟩
              simp only [Act.put, List.setIfInBounds_toArray, List.set_cons_succ, List.set_cons_zero]
              refine drawn_take (i := 13) (v := .bool true) (some 69) rfl rfl (by kernel_rfl) (by kernel_rfl) (by kernel_rfl) (fun _ _ _ h => h) (Or.inl ⟨by kernel_rfl, fun wq hw => by go_simp⟩) hHeld ?_
              simp only [Act.put, List.setIfInBounds_toArray, List.set_cons_succ, List.set_cons_zero]
              refine drawn_take (i := 14) (v := .bool true) (some 70) rfl rfl (by kernel_rfl) (by kernel_rfl) (by kernel_rfl) (fun _ _ _ h => h) (Or.inl ⟨by kernel_rfl, fun wq hw => by go_simp⟩) hHeld ?_
              simp only [Act.put, List.setIfInBounds_toArray, List.set_cons_succ, List.set_cons_zero]
              refine wpAnyH_done (by kernel_rfl) ?_ _
              refine NoPanic.normal ?_
              clear hHeld
              have HONE : Hid (oneS l back x = [⟨x, v⟩]) := hidn (by
                rw [oneS_yes (j := j) (by rw [← HCJ.out]; exact HAT.out) (by rw [← HY.out]; exact hbk), HV.out])
              obtain ⟨w5, hw5⟩ : ∃ w5, w5 = w4.drew.drew.alloc (.cells #[.int .i64 x, .int .u64 (v : Int)] 48) := ⟨_, rfl⟩
              have b5 : Below w4.heap.size w4 w5 := by rw [hw5]; exact (((Below.refl _ w4).drew).drew).alloc (Nat.le_refl _) _
              have q5 : w5.heap[w4.heap.size]? = some (.cells #[.int .i64 x, .int .u64 (v : Int)] 48 (0, 0)) := by rw [hw5]; exact heap_alloc_new w4.drew.drew _
              obtain ⟨g, c', w6, hr, ho6, hg6⟩ := app_sam1 (own_skip HO4.out b5) (Nat.le_trans HB4.out.size b5.size) (by have := smp_len l frm step back k; omega) (⟨x, v⟩ : Sam) ⟨w4.heap.size, 0, none⟩ (cell_of_row _ _ _ _ _ _ q5) (cell_of_row _ _ 1 _ _ _ q5)
              have HR := hidn hr
              have HW5 := hidn hw5
              have HB6 : Hid (Below w2.heap.size w2 w6) := hidn ((HB4.out.trans (b5.mono HB4.out.size)).grown hg6 (Nat.le_trans HB4.out.size b5.size) (fun k hk => (HO4.out.lt k hk).1))
              have HO6 : Hid (w6.ownsRow w2.heap.size 48 2 (.slice (some ⟨g, 0, none⟩) ((smp l frm step back k).length + 1) c') (smp l frm step back (k + 1)).length (vsm (smp l frm step back (k + 1)))) := hidn (by rw [smp, ← HX.out, HONE.out, List.length_append]; exact ho6)
              have q45 := (b5.block _ (Array.getElem?_eq_some_iff.1 HQ4.out).1).trans HQ4.out
              have q46 : w6.heap[wo.heap.size]? = some (.cells #[.int .i64 x] 3 (0, 0)) := (hg6.block _ (Array.getElem?_eq_some_iff.1 q45).1 (own_ne (own_skip HO4.out b5) q45 (by decide))).trans q45
              have l46 : w6.heap[w.heap.size]? = some (.cells #[.slice (some ⟨b, off, none⟩) len cap] 38 (0, 0)) := (HB6.out.block _ (Array.getElem?_eq_some_iff.1 HQ1.out).1).trans HQ1.out
              have hs6 : w6.cell? ⟨b, off + j * 2 + 1, none⟩ = some (.int .u64 (v : Int)) := by
                obtain ⟨b', off', hbo, _, hcl'⟩ := HSM.out.pos (by omega)
                cases hbo
                have c2 := (hcl' j hjl).2
                rw [← HV.out] at c2
                exact (HB6.out.cell (block_lt_of_cell c2)).trans c2
              have HS6 : w6.cell? ⟨w.heap.size, 0, none⟩ = some (.slice (some ⟨b, off, none⟩) len cap) ∧ w6.cell? ⟨wo.heap.size, 0, none⟩ = some (.int .i64 x) ∧ w6.cell? ⟨b, off + j * 2 + 1, none⟩ = some (.int .u64 (v : Int)) := ⟨cell_of_row _ _ _ _ _ _ l46, cell_of_row _ _ _ _ _ _ q46, hs6⟩
              have r5 := HRD.out w5 b5
              have HS5 : w5.cell? ⟨w.heap.size, 0, none⟩ = some (.slice (some ⟨b, off, none⟩) len cap) ∧ w5.cell? ⟨wo.heap.size, 0, none⟩ = some (.int .i64 x) ∧ w5.cell? ⟨b, off + j * 2 + 1, none⟩ = some (.int .u64 (v : Int)) := ⟨r5.1, r5.2.1, r5.2.2.2⟩
              have r4 := HRD.out w4.drew.drew (((Below.refl _ w4).drew).drew)
              have HS4 : w4.drew.drew.cell? ⟨w.heap.size, 0, none⟩ = some (.slice (some ⟨b, off, none⟩) len cap) ∧ w4.drew.drew.cell? ⟨wo.heap.size, 0, none⟩ = some (.int .i64 x) ∧ w4.drew.drew.cell? ⟨b, off + j * 2 + 1, none⟩ = some (.int .u64 (v : Int)) := ⟨r4.1, r4.2.1, r4.2.2.2⟩
              clear hr hw5 b5 q5 ho6 hg6 q45 q46 l46 hs6 r5 r4 hHeld
              go_wp2_with fail
              refine wp_region_noPanic ?_
              refine wp_region_held_drew (S := fun w' => w'.cell? ⟨w.heap.size, 0, none⟩ = some (.slice (some ⟨b, off, none⟩) len cap) ∧ w'.cell? ⟨wo.heap.size, 0, none⟩ = some (.int .i64 x) ∧ w'.cell? ⟨b, off + j * 2 + 1, none⟩ = some (.int .u64 (v : Int))) (by kernel_rfl) (HS4) (fun hHeld => ?_)
              refine drawn_take (i := 0) (v := u13) (some 71) rfl rfl (by kernel_rfl) (by kernel_rfl) (by kernel_rfl) (fun _ _ _ h => h) (Or.inl ⟨by kernel_rfl, fun wq hw => by go_simp⟩) hHeld ?_
              simp only [Act.put, List.setIfInBounds_toArray, List.set_cons_succ, List.set_cons_zero]
              refine drawn_take (i := 1) (v := .int .i64 x) (some 72) rfl rfl (by kernel_rfl) (by kernel_rfl) (by kernel_rfl) (fun _ _ _ h => h) (Or.inl ⟨by kernel_rfl, fun wq hw => by have q9 := hw.2.1; go_simp⟩) hHeld ?_
              simp only [Act.put, List.setIfInBounds_toArray, List.set_cons_succ, List.set_cons_zero]
              refine drawn_take (i := 2) (v := .slice (some ⟨b, off, none⟩) len cap) (some 73) rfl rfl (by kernel_rfl) (by kernel_rfl) (by kernel_rfl) (fun _ _ _ h => h) (Or.inl ⟨by kernel_rfl, fun wq hw => by have q9 := hw.1; go_simp⟩) hHeld ?_
              simp only [Act.put, List.setIfInBounds_toArray, List.set_cons_succ, List.set_cons_zero]
              refine drawn_take (i := 3) (v := .int .i64 (c : Int)) (some 74) rfl rfl (by kernel_rfl) (by kernel_rfl) (by kernel_rfl) (fun _ _ _ h => h) (Or.inl ⟨by kernel_rfl, fun wq hw => by go_simp⟩) hHeld ?_
              simp only [Act.put, List.setIfInBounds_toArray, List.set_cons_succ, List.set_cons_zero]
              refine drawn_take (i := 4) (v := .int .i64 (j : Int)) (some 75) rfl rfl (by kernel_rfl) (by kernel_rfl) (by kernel_rfl) (fun _ _ _ h => h) (Or.inl ⟨by kernel_rfl, fun wq hw => by go_simp; exact HWJ.out⟩) hHeld ?_
              simp only [Act.put, List.setIfInBounds_toArray, List.set_cons_succ, List.set_cons_zero]
              refine drawn_take (i := 5) (v := .pointer (some ⟨b, off + j * 2, none⟩)) (some 76) rfl rfl (by kernel_rfl) (by kernel_rfl) (by kernel_rfl) (fun _ _ _ h => h) (Or.inl ⟨by kernel_rfl, fun wq hw => by go_simp⟩) hHeld ?_
              simp only [Act.put, List.setIfInBounds_toArray, List.set_cons_succ, List.set_cons_zero]
              refine drawn_take (i := 6) (v := .pointer (some ⟨b, off + j * 2 + 1, none⟩)) (some 77) rfl rfl (by kernel_rfl) (by kernel_rfl) (by kernel_rfl) (fun _ _ _ h => h) (Or.inl ⟨by kernel_rfl, fun wq hw => by go_simp⟩) hHeld ?_
              simp only [Act.put, List.setIfInBounds_toArray, List.set_cons_succ, List.set_cons_zero]
              refine drawn_take (i := 7) (v := .int .u64 (v : Int)) (some 78) rfl rfl (by kernel_rfl) (by kernel_rfl) (by kernel_rfl) (fun _ _ _ h => h) (Or.inl ⟨by kernel_rfl, fun wq hw => by have q9 := hw.2.2; go_simp⟩) hHeld ?_
              simp only [Act.put, List.setIfInBounds_toArray, List.set_cons_succ, List.set_cons_zero]
              refine drawn_take (i := 8) (v := .agg #[.int .i64 x, .int .u64 (v : Int)]) (some 79) rfl rfl (by kernel_rfl) (by kernel_rfl) (by kernel_rfl) (fun _ _ _ h => h) (Or.inl ⟨by kernel_rfl, fun wq hw => by go_simp⟩) hHeld ?_
              simp only [Act.put, List.setIfInBounds_toArray, List.set_cons_succ, List.set_cons_zero]
              refine wpAnyH_ready (rs := [9]) (by kernel_rfl) (by simp) ?_
              refine rdy_val (i := 9) rfl rfl (some 80) rfl (.slice (some ⟨w4.heap.size, 0, none⟩) 1 1) (w5) (by rw [HW5.out]; go_simp) (HS5) (fun hHeld => ?_) rdy_nil
              simp only [Act.put, List.setIfInBounds_toArray, List.set_cons_succ, List.set_cons_zero]
              refine wpAnyH_ready (rs := [10]) (by kernel_rfl) (by simp) ?_
              refine rdy_val (i := 10) rfl rfl (some 81) rfl (.slice (some ⟨g, 0, none⟩) ((smp l frm step back k).length + 1) c') (w6) (appRun_exec (x := .tmp 71) (y := .tmp 80) (by kernel_rfl) (by kernel_rfl) (by kernel_rfl) HR.out) (HS6) (fun hHeld => ?_) rdy_nil
              simp only [Act.put, List.setIfInBounds_toArray, List.set_cons_succ, List.set_cons_zero]
              refine drawn_take (i := 11) (v := .slice (some ⟨g, 0, none⟩) ((smp l frm step back k).length + 1) c') (some 13) rfl rfl (by kernel_rfl) (by kernel_rfl) (by kernel_rfl) (fun _ _ _ h => h) (Or.inl ⟨by kernel_rfl, fun wq hw => by go_simp⟩) hHeld ?_
              simp only [Act.put, List.setIfInBounds_toArray, List.set_cons_succ, List.set_cons_zero]
              refine wpAnyH_done (by kernel_rfl) ?_ _
              refine NoPanic.normal ?_
              clear hHeld
              go_wp2_with fail
              go_roundw
              case rel => first | exact ⟨k + 1, by omega, by first | rfl | simp, HB6, HO6⟩ | (repeat apply Exists.intro; exact ⟨⟨k + 1, by omega, by first | rfl | simp, HB6, HO6⟩, rfl⟩)
              case measure => simp [intOf]; omega
            · go_wp2_with fail
              refine wp_region_noPanic ?_
              refine wp_region_held_drew (S := fun w' => Below w4.heap.size w4 w') (by kernel_rfl) ((Below.refl _ w4).drew) (fun hHeld => ?_)
              refine drawn_take (i := 0) (v := .int .i64 (c : Int)) (some 56) rfl rfl (by kernel_rfl) (by kernel_rfl) (by kernel_rfl) (fun _ _ _ h => h) (Or.inl ⟨by kernel_rfl, fun wq hw => by go_simp⟩) hHeld ?_
              simp only [Act.put, List.setIfInBounds_toArray, List.set_cons_succ, List.set_cons_zero]
              refine drawn_take (i := 1) (v := .bool true) (some 57) rfl rfl (by kernel_rfl) (by kernel_rfl) (by kernel_rfl) (fun _ _ _ h => h) (Or.inl ⟨by kernel_rfl, fun wq hw => by go_simp⟩) hHeld ?_
              simp only [Act.put, List.setIfInBounds_toArray, List.set_cons_succ, List.set_cons_zero]
              refine drawn_take (i := 2) (v := .bool true) (some 58) rfl rfl (by kernel_rfl) (by kernel_rfl) (by kernel_rfl) (fun _ _ _ h => h) (Or.inl ⟨by kernel_rfl, fun wq hw => by go_simp⟩) hHeld ?_
              simp only [Act.put, List.setIfInBounds_toArray, List.set_cons_succ, List.set_cons_zero]
              refine drawn_take (i := 3) (v := .slice (some ⟨b, off, none⟩) len cap) (some 59) rfl rfl (by kernel_rfl) (by kernel_rfl) (by kernel_rfl) (fun _ _ _ h => h) (Or.inl ⟨by kernel_rfl, fun wq hw => by have q9 := (HRD.out _ hw).1; go_simp⟩) hHeld ?_
              simp only [Act.put, List.setIfInBounds_toArray, List.set_cons_succ, List.set_cons_zero]
              refine drawn_take (i := 4) (v := .int .i64 (c : Int)) (some 60) rfl rfl (by kernel_rfl) (by kernel_rfl) (by kernel_rfl) (fun _ _ _ h => h) (Or.inl ⟨by kernel_rfl, fun wq hw => by go_simp⟩) hHeld ?_
              simp only [Act.put, List.setIfInBounds_toArray, List.set_cons_succ, List.set_cons_zero]
              refine drawn_take (i := 5) (v := .int .i64 (j : Int)) (some 61) rfl rfl (by kernel_rfl) (by kernel_rfl) (by kernel_rfl) (fun _ _ _ h => h) (Or.inl ⟨by kernel_rfl, fun wq hw => by go_simp; exact HWJ.out⟩) hHeld ?_
              simp only [Act.put, List.setIfInBounds_toArray, List.set_cons_succ, List.set_cons_zero]
              refine drawn_take (i := 6) (v := .pointer (some ⟨b, off + j * 2, none⟩)) (some 62) rfl rfl (by kernel_rfl) (by kernel_rfl) (by kernel_rfl) (fun _ _ _ h => h) (Or.inl ⟨by kernel_rfl, fun wq hw => by go_simp⟩) hHeld ?_
              simp only [Act.put, List.setIfInBounds_toArray, List.set_cons_succ, List.set_cons_zero]
              refine drawn_take (i := 7) (v := .pointer (some ⟨b, off + j * 2, none⟩)) (some 63) rfl rfl (by kernel_rfl) (by kernel_rfl) (by kernel_rfl) (fun _ _ _ h => h) (Or.inl ⟨by kernel_rfl, fun wq hw => by go_simp⟩) hHeld ?_
              simp only [Act.put, List.setIfInBounds_toArray, List.set_cons_succ, List.set_cons_zero]
              refine drawn_take (i := 8) (v := .int .i64 y) (some 64) rfl rfl (by kernel_rfl) (by kernel_rfl) (by kernel_rfl) (fun _ _ _ h => h) (Or.inl ⟨by kernel_rfl, fun wq hw => by have q9 := (HRD.out _ hw).2.2.1; go_simp⟩) hHeld ?_
              simp only [Act.put, List.setIfInBounds_toArray, List.set_cons_succ, List.set_cons_zero]
              refine drawn_take (i := 9) (v := .int .i64 x) (some 65) rfl rfl (by kernel_rfl) (by kernel_rfl) (by kernel_rfl) (fun _ _ _ h => h) (Or.inl ⟨by kernel_rfl, fun wq hw => by have q9 := (HRD.out _ hw).2.1; go_simp⟩) hHeld ?_
              simp only [Act.put, List.setIfInBounds_toArray, List.set_cons_succ, List.set_cons_zero]
              refine drawn_take (i := 11) (v := .int .i64 back) (some 67) rfl rfl (by kernel_rfl) (by kernel_rfl) (by kernel_rfl) (fun _ _ _ h => h) (Or.inl ⟨by kernel_rfl, fun wq hw => by go_simp⟩) hHeld ?_
              simp only [Act.put, List.setIfInBounds_toArray, List.set_cons_succ, List.set_cons_zero]
              refine drawn_take (i := 12) (v := .int .u64 back) (some 68) rfl rfl (by kernel_rfl) (by kernel_rfl) (by kernel_rfl) (fun _ _ _ h => h) (Or.inl ⟨by kernel_rfl, fun wq hw => by go_simp⟩) hHeld ?_
              simp only [Act.put, List.setIfInBounds_toArray, List.set_cons_succ, List.set_cons_zero]
              refine wpAnyH_ready (rs := [10]) (by kernel_rfl) (by simp) ?_
              refine rdy_callw (i := 10) rfl (by kernel_rfl) (some 66) rfl 46 #[.int .i64 y, .int .i64 x] (callS2 (x := 64) (y := 65) rfl (fun _ _ => rfl) (by kernel_rfl) (by kernel_rfl)) (fun r w9 => r = .int .u64 (x - y) ∧ w9 = w4.drew) (HBW.out.mono (by rintro e w9 ⟨rfl, h9⟩; exact ⟨_, rfl, rfl, h9⟩)) (fun r w9 hR => ?_) rdy_nil
              obtain ⟨rfl, rfl⟩ := hR
              refine ⟨hHeld, fun hHeld => ?_⟩
              simp only [Act.put, List.setIfInBounds_toArray, List.set_cons_succ, List.set_cons_zero]
              refine drawn_take (i := 13) (v := .bool false) (some 69) rfl rfl (by kernel_rfl) (by kernel_rfl) (by kernel_rfl) (fun _ _ _ h => h) (Or.inl ⟨by kernel_rfl, fun wq hw => by go_simp⟩) hHeld ?_
              simp only [Act.put, List.setIfInBounds_toArray, List.set_cons_succ, List.set_cons_zero]
              refine drawn_take (i := 14) (v := .bool false) (some 70) rfl rfl (by kernel_rfl) (by kernel_rfl) (by kernel_rfl) (fun _ _ _ h => h) (Or.inl ⟨by kernel_rfl, fun wq hw => by go_simp⟩) hHeld ?_
              simp only [Act.put, List.setIfInBounds_toArray, List.set_cons_succ, List.set_cons_zero]
              refine wpAnyH_done (by kernel_rfl) ?_ _
              refine NoPanic.normal ?_
              clear hHeld
              have HONE : Hid (oneS l back x = []) := hidn (oneS_far (j := j) (by rw [← HCJ.out]; exact HAT.out) (by rw [← HY.out]; omega))
              have HO2 : Hid (w4.ownsRow w2.heap.size 48 2 u13 (smp l frm step back (k + 1)).length (vsm (smp l frm step back (k + 1)))) := hidn (by rw [smp, ← HX.out, HONE.out, List.append_nil]; exact HO4.out)
              go_wp2_with fail
              go_roundw
              case rel => first | exact ⟨k + 1, by omega, by first | rfl | simp, hidn (HB4.out.drew), hidn (own_skip HO2.out ((Below.refl _ _).drew))⟩ | (repeat apply Exists.intro; exact ⟨⟨k + 1, by omega, by first | rfl | simp, hidn (HB4.out.drew), hidn (own_skip HO2.out ((Below.refl _ _).drew))⟩, rfl⟩)
              case measure => simp [intOf]; omega
        · obtain rfl : k = N + 1 := by omega
          have hlt2 : ¬ ((N + 1 : Nat) : Int) < (N : Int) + 1 := by omega
          have HXX : Hid (frm + (N : Int) * step ≤ to ∧ to - (frm + (N : Int) * step) < step) := hidn (by
            have h8 := HN1.out
            have h9 := HN2.out
            rw [Int.add_mul] at h9
            omega)
          obtain ⟨ra, rc, hrv, _, hrs⟩ := sm_of_own HO.out (mem_ok (smp_ok l (HSM.out.2.2.1) frm to step back hf ht (by omega) (N + 1) (fun j hj => by
            have hks : (j : Int) * step ≤ (N : Int) * step := Int.mul_le_mul_of_nonneg_right (by omega) (by omega)
            have := HXX.out.1; omega)))
          subst hrv
          have HRR := hidn hrs
          have HBB := hidn (HB1.out.trans (HB.out.mono HB1.out.size))
          clear hrs
          go_wp2_with fail
          go_ret2
          exact ⟨HBB.out, .inr (.inr ⟨HBD.out, N, ra, rc, by omega, HXX.out.1, HXX.out.2, rfl, HRR.out⟩)⟩
end Go.Proofs.Ythmknpdhgfmogab
