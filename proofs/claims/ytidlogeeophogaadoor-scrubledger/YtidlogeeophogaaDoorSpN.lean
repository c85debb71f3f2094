/- Spots: slices.Contains; a slice cut. -/
import Derived.Test.YtidlogeeophogaaDoorSpM
namespace Go.Proofs.YtidlogeeophogaaDoor.Sp
open Go.RowKit Go.Joins
set_option linter.unusedVariables false
set_option linter.unusedSimpArgs false

theorem slS_run {o : Oper} {a : Act} {w : World} {x z : Operand} {fa : Option Addr} {N fc k : Nat} (ho : o.op = Op.slice 22 x none (some z) none) (hx : a.eval x = .slice fa N fc) (hz : a.eval z = .int .i64 (k : Int)) (hk : k ≤ fc) : (execOp a.eval o).run Tryd.prog w = .ok (.value (.slice fa k fc)) w := by
  have h2 : (Instr.slice 22 (.slice fa N fc) none (some (.int .i64 (k : Int))) none).run Tryd.prog w = .ok (.slice fa k fc) w := by
    rw [run_slice_h (P := Tryd.prog) w 22 fa N fc (by kernel_rfl) .i64 (k : Int) (by omega) (by omega)]
    have hsz : (sizeOf (Tryd.prog.elem 22)).run Tryd.prog w = .ok 2 w := by kernel_rfl
    rw [hsz]
    cases fa <;> simp [Result.andThen, sliced, Addr.add]
  have hs := (run_sliceAt_slice (P := Tryd.prog) (w := w) 22 (.slice fa N fc) none (some (.int .i64 (k : Int))) none (by kernel_rfl)).trans h2
  simp [execOp, ho, hx, hz, hs, Result.andThen]

theorem sameS_comm (x y : Spt) : sameS x y = sameS y x := by
  rw [Bool.eq_iff_iff, sameS_iff, sameS_iff]
  exact eq_comm

set_option maxHeartbeats 4000000 in
set_option maxRecDepth 100000 in
theorem indexS_any (a : Option Addr) (len cap : Nat) (L : List Spt) (s : Spt) (w : World) (h : Fls w a len L) (hm : len ≤ 1000) :
    Calls Tryd.prog 21 #[.slice a len cap, .agg #[.string s.nm, .int .i64 s.ix]] w fun e w' => ∃ q : Int, e = .returned (.int .i64 q) ∧ decide (0 ≤ q) = inS L s ∧ Below w.heap.size w w' := by
  have HL := hidn h.1
  have H := hidn h
  obtain ⟨fin, hfin⟩ : ∃ fin, fin = inS L s := ⟨_, rfl⟩
  rw [← hfin]
  have HFIN := hidn hfin
  obtain ⟨w1, hw1⟩ : ∃ w1, w1 = w.alloc (.cells #[.string s.nm, .int .i64 s.ix] 25) := ⟨_, rfl⟩
  have b1 : Below w.heap.size w w1 := by rw [hw1]; exact (Below.refl _ w).alloc (Nat.le_refl _) _
  have q1 : w1.heap[w.heap.size]? = some (.cells #[.string s.nm, .int .i64 s.ix] 25 (0, 0)) := by rw [hw1]; exact heap_alloc_new w _
  have HW1 := hidn hw1
  have HB1 := hidn b1
  have HQ1 := hidn q1
  clear h hfin hw1 b1 q1
  go_enter Tryd.func21, Tryd.ntmps21
  go_wp2_with fail
  rw [← HW1.out]
  go_loopw [8] (fun iv wr => ∃ k : Nat, k ≤ len ∧ iv = .int .i64 (k : Int) ∧ Hid (Below w1.heap.size w1 wr) ∧ Hid (inS (L.take k) s = false)) (fun iv _ => len - (intOf iv).toNat)
  case atStart => exact ⟨0, Nat.zero_le _, rfl, hidn (Below.refl _ _), hidn rfl⟩
  case round =>
    obtain ⟨k, hk, rfl, HB, HI⟩ := hrel
    obtain ⟨wo, hwo⟩ : ∃ wo, wo = wr := ⟨_, rfl⟩
    subst hwo
    by_cases hlt : k < len
    · have hlt2 : (k : Int) < (len : Int) := by omega
      have hs1 : w.heap.size < w1.heap.size := (Array.getElem?_eq_some_iff.1 HQ1.out).1
      have HQo := hidn ((HB.out.block _ hs1).trans HQ1.out)
      obtain ⟨x, hx⟩ : ∃ x, L[k]? = some x := ⟨_, List.getElem?_eq_getElem (by rw [HL.out]; exact hlt)⟩
      obtain ⟨b, off, rfl, hb, c0, c1, _⟩ := ((H.out.below HB1.out).below HB.out).at hx
      have HRD : Hid (∀ w', Below wo.heap.size wo w' → w'.cell? ⟨b, off + k * 2, none⟩ = some (.string x.nm) ∧ w'.cell? ⟨b, off + k * 2 + 1, none⟩ = some (.int .i64 x.ix) ∧ w'.cell? ⟨w.heap.size, 0, none⟩ = some (.string s.nm) ∧ w'.cell? ⟨w.heap.size, 1, none⟩ = some (.int .i64 s.ix)) := hidn (fun w' hbb => by
        have q9 := (hbb.block _ (Array.getElem?_eq_some_iff.1 HQo.out).1).trans HQo.out
        exact ⟨(hbb.cell (block_lt_of_cell c0)).trans c0, (hbb.cell (block_lt_of_cell c1)).trans c1, cell_of_row _ _ _ _ _ _ q9, cell_of_row _ _ _ _ _ _ q9⟩)
      obtain ⟨bb, hbb⟩ : ∃ bb, bb = sameS s x := ⟨_, rfl⟩
      have HBB := hidn hbb
      have HXO := hidn hx
      clear c0 c1 hx hbb hs1
      go_wp2_with fail
      refine wp_region_noPanic ?_
      refine wp_region_held_drew (S := fun w' => Below wo.heap.size wo w') (by kernel_rfl) ((Below.refl _ wo).drew) (fun hHeld => ?_)
      refine drawn_take (i := 0) (v := .agg #[.string s.nm, .int .i64 s.ix]) (some 11) rfl rfl (by kernel_rfl) (by kernel_rfl) (by kernel_rfl) (fun _ _ _ h => h) (Or.inl ⟨by kernel_rfl, fun wq hw => by obtain ⟨q1, q2, q3, q4⟩ := HRD.out _ hw; go_simp⟩) hHeld ?_
      simp only [Act.put, List.setIfInBounds_toArray, List.set_cons_succ, List.set_cons_zero]
      refine drawn_take (i := 1) (v := .slice (some ⟨b, off, none⟩) len cap) (some 12) rfl rfl (by kernel_rfl) (by kernel_rfl) (by kernel_rfl) (fun _ _ _ h => h) (Or.inl ⟨by kernel_rfl, fun wq hw => by go_simp⟩) hHeld ?_
      simp only [Act.put, List.setIfInBounds_toArray, List.set_cons_succ, List.set_cons_zero]
      refine drawn_take (i := 2) (v := .int .i64 (k : Int)) (some 13) rfl rfl (by kernel_rfl) (by kernel_rfl) (by kernel_rfl) (fun _ _ _ h => h) (Or.inl ⟨by kernel_rfl, fun wq hw => by go_simp⟩) hHeld ?_
      simp only [Act.put, List.setIfInBounds_toArray, List.set_cons_succ, List.set_cons_zero]
      refine drawn_take (i := 3) (v := .pointer (some ⟨b, off + k * 2, none⟩)) (some 14) rfl rfl (by kernel_rfl) (by kernel_rfl) (by kernel_rfl) (fun _ _ _ h => h) (Or.inl ⟨by kernel_rfl, fun wq hw => by go_simp <;> (intro h8; exfalso; omega)⟩) hHeld ?_
      simp only [Act.put, List.setIfInBounds_toArray, List.set_cons_succ, List.set_cons_zero]
      refine drawn_take (i := 4) (v := .agg #[.string x.nm, .int .i64 x.ix]) (some 15) rfl rfl (by kernel_rfl) (by kernel_rfl) (by kernel_rfl) (fun _ _ _ h => h) (Or.inl ⟨by kernel_rfl, fun wq hw => by obtain ⟨q1, q2, q3, q4⟩ := HRD.out _ hw; go_simp⟩) hHeld ?_
      simp only [Act.put, List.setIfInBounds_toArray, List.set_cons_succ, List.set_cons_zero]
      refine drawn_take (i := 5) (v := .bool bb) (some 16) rfl rfl (by kernel_rfl) (by kernel_rfl) (by kernel_rfl) (fun _ _ _ h => h) (Or.inl ⟨by kernel_rfl, fun wq hw => by go_simp; rw [same_if, HBB.out]; cases sameS s x <;> rfl⟩) hHeld ?_
      simp only [Act.put, List.setIfInBounds_toArray, List.set_cons_succ, List.set_cons_zero]
      refine wpAnyH_done (by kernel_rfl) ?_ _
      refine NoPanic.normal ?_
      clear hHeld
      have HB9 := hidn (HB.out.drew)
      cases bb
      · have HI2 : Hid (inS (L.take (k + 1)) s = false) := hidn (by
          rw [List.take_add_one, HXO.out]
          unfold inS at *
          have h1 := HI.out
          have h2 := HBB.out
          rw [sameS_comm] at h2
          simp [List.any_append, h1, ← h2])
        go_wp2_with fail
        go_roundw
        case rel => first | exact ⟨k + 1, by omega, by first | rfl | simp, HB9, HI2⟩ | (repeat apply Exists.intro; exact ⟨⟨k + 1, by omega, by first | rfl | simp, HB9, HI2⟩, rfl⟩)
        case measure => simp [intOf]; omega
      · have HT : Hid (fin = true) := hidn (by
          rw [HFIN.out, inS_mem, sameS_iff.1 HBB.out.symm]
          exact List.mem_of_getElem? HXO.out)
        go_wp2_with fail
        go_ret
        exact ⟨(k : Int), rfl, by rw [HT.out]; exact decide_eq_true (by omega), HB1.out.trans (HB9.out.mono HB1.out.size)⟩
    · obtain rfl : k = len := by omega
      have hlt2 : ¬ (k : Int) < (k : Int) := by omega
      have HT : Hid (fin = false) := hidn (by
        have := HI.out
        rw [List.take_of_length_le (by rw [HL.out]; omega)] at this
        rw [HFIN.out, this])
      clear hlt
      go_wp2_with fail
      go_ret
      exact ⟨-1, rfl, by rw [HT.out]; rfl, HB1.out.trans (HB.out.mono HB1.out.size)⟩

set_option maxHeartbeats 2000000 in
set_option maxRecDepth 100000 in
theorem containsS_any (a : Option Addr) (len cap : Nat) (L : List Spt) (s : Spt) (w : World) (h : Fls w a len L) (hm : len ≤ 1000) :
    Calls Tryd.prog 11 #[.slice a len cap, .agg #[.string s.nm, .int .i64 s.ix]] w fun e w' => e = .returned (.bool (inS L s)) ∧ Below w.heap.size w w' := by
  obtain ⟨w1, hw1⟩ : ∃ w1, w1 = w.alloc (.cells #[.string s.nm, .int .i64 s.ix] 25) := ⟨_, rfl⟩
  have b1 : Below w.heap.size w w1 := by rw [hw1]; exact (Below.refl _ w).alloc (Nat.le_refl _) _
  have HI := hidn (indexS_any a len cap L s w1 (h.below b1) hm)
  have HW1 := hidn hw1
  have HB1 := hidn b1
  clear h hw1 b1
  go_enter Tryd.func11, Tryd.ntmps11
  go_wp2_with fail
  rw [← HW1.out]
  refine HI.out.mono ?_
  rintro e w2 ⟨q, rfl, hq, hb⟩
  have HQ := hidn hq
  have HB2 := hidn (HB1.out.trans (hb.mono HB1.out.size))
  clear hq hb
  go_wp2_with fail
  go_ret
  exact ⟨by rw [← HQ.out]; rfl, HB2.out⟩
end Go.Proofs.YtidlogeeophogaaDoor.Sp
