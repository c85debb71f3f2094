/- Spots: slices.Compact, walked. -/
import Derived.Test.YtidlogeeophogaaDoorSpG
namespace Go.Proofs.YtidlogeeophogaaDoor.Sp
open Go.RowKit Go.Joins Go.Lib
set_option linter.unusedVariables false
set_option linter.unusedSimpArgs false

theorem ix_slS {w : World} (g N fc k m2 c2 : Nat) (hk : k ≤ N) (hk2 : k < fc) (HM : m2 = N - k) (HC : c2 = fc - k) : (Instr.slice 22 (.slice (some ⟨g, 0, none⟩) N fc) (some (.int .i64 (k : Int))) none none).run Tryd.prog w = .ok (.slice (some ⟨g, k * 2, none⟩) m2 c2) w := by
  rw [run_slice_l (P := Tryd.prog) w 22 (some ⟨g, 0, none⟩) N fc (by kernel_rfl) .i64 (k : Int) (by omega) (by omega)]
  have hsz : (sizeOf (Tryd.prog.elem 22)).run Tryd.prog w = .ok 2 w := by kernel_rfl
  have hne : ¬ fc = k := by omega
  rw [hsz, HM, HC]
  simp [Result.andThen, sliced, hne, Addr.add] <;> omega

theorem same_if (x y : Spt) {α : Type} (a b : α) : (if x.nm.toList = y.nm.toList then if x.ix = y.ix then a else b else b) = if sameS x y = true then a else b := by
  by_cases h : x = y
  · subst h
    rw [if_pos rfl, if_pos rfl, if_pos (sameS_iff.2 rfl)]
  · rw [if_neg (fun h2 => h (sameS_iff.1 h2))]
    by_cases h1 : x.nm.toList = y.nm.toList
    · rw [if_pos h1]
      by_cases h2 : x.ix = y.ix
      · exact absurd (by obtain ⟨xn, xi⟩ := x; obtain ⟨yn, yi⟩ := y; simp only at h1 h2; rw [toL_inj h1, h2]) h
      · rw [if_neg h2]
    · rw [if_neg h1]

/-- What Compact leaves: the row cut. -/
def CmpP (S : List Spt) (B g n cap : Nat) (w : World) (e : Ending) (w' : World) : Prop :=
  ∃ k, e = .returned (.slice (some ⟨g, 0, none⟩) k cap) ∧ k ≤ n ∧ w'.ownsRow B 25 2 (.slice (some ⟨g, 0, none⟩) k cap) k (fvs (compactUpTo S.toArray n)) ∧ Kb g w w'

theorem arr_get (S : List Spt) {j : Nat} (hj : j < S.length) : S[j]? = some S.toArray[j]! := by
  rw [List.getElem?_eq_getElem hj]
  simp [hj]

theorem compact_short (S : List Spt) (n : Nat) (hn : S.length = n) (k : Nat) (hk : k ≤ n) (hall : ∀ j, j < k → keeps S.toArray j = true) : compactUpTo S.toArray k = S.take k := by
  rw [compactUpTo_all _ _ hall]
  apply List.ext_getElem?
  intro i
  rw [List.getElem?_map, List.getElem?_take]
  by_cases hi : i < k
  · rw [if_pos hi, List.getElem?_range hi, arr_get S (by omega)]
    rfl
  · rw [if_neg hi, List.getElem?_eq_none (by simp; omega)]
    rfl

theorem inv_row {S : List Spt} {n m k : Nat} {dk : Array Spt} (hn : S.length = n) (h : CompInv S.toArray m k dk) (hm : m ≤ n) : dk.toList.take k = compactUpTo S.toArray m := by
  have hs := h.size
  have hlt := h.lt
  apply List.ext_getElem?
  intro i
  rw [List.getElem?_take]
  by_cases hi : i < k
  · rw [if_pos hi, h.low i hi]
    have hd : i < dk.size := by rw [hs]; simp; omega
    rw [getElem!_pos dk i hd, Array.getElem?_toList, Array.getElem?_eq_getElem hd]
  · rw [if_neg hi, List.getElem?_eq_none (by rw [h.len]; omega)]

set_option maxHeartbeats 8000000 in
set_option maxRecDepth 100000 in
theorem compact_any (B g n cap : Nat) (S : List Spt) (w : World) (hn : n ≤ 1000) (ho : w.ownsRow B 25 2 (.slice (some ⟨g, 0, none⟩) n cap) n (fvs S)) :
    Calls Tryd.prog 37 #[.slice (some ⟨g, 0, none⟩) n cap] w (CmpP S B g n cap w) := by
  have hl := ho.1
  rw [fvs_length] at hl
  have hSl : S.length = n := by omega
  have HO := hidn ho
  have HSL := hidn hSl
  have hnc := (own_blk ho).2.1
  obtain ⟨d, hd⟩ : ∃ d, d = S.toArray := ⟨_, rfl⟩
  have hds : d.size = n := by rw [hd]; simpa using hSl
  have HD := hidn hd
  clear ho hl hSl hd
  by_cases h2 : n < 2
  · have h2' : (n : Int) < 2 := by omega
    have HC : Hid (compactUpTo S.toArray n = S) := hidn (by
      rw [compact_short S n HSL.out n (Nat.le_refl _) (fun j hj => keeps_lt_one _ j (by omega)), List.take_of_length_le (by rw [HSL.out]; omega)])
    go_enter Tryd.func37, Tryd.ntmps37
    go_wp2_with fail
    go_ret
    exact ⟨n, rfl, Nat.le_refl _, by rw [HC.out]; exact HO.out, Kb.refl _ _⟩
  · have h2' : ¬ (n : Int) < 2 := by omega
    go_enter Tryd.func37, Tryd.ntmps37
    go_wp2_with fail
    go_loopw [3] (fun kv wr => ∃ k : Nat, 1 ≤ k ∧ k ≤ n ∧ kv = .int .i64 (k : Int) ∧ Hid (wr.ownsRow B 25 2 (.slice (some ⟨g, 0, none⟩) n cap) n (fvs S)) ∧ Hid (Kb g w wr) ∧ Hid (∀ j, j < k → keeps S.toArray j = true)) (fun kv _ => n - (intOf kv).toNat)
    case atStart => exact ⟨1, Nat.le_refl _, by omega, rfl, HO, hidn (Kb.refl _ _), hidn (keeps_lt_one _)⟩
    case round =>
      obtain ⟨k, hk1, hkn, rfl, HR, HK, HA⟩ := hrel
      obtain ⟨wo, hwo⟩ : ∃ wo, wo = wr := ⟨_, rfl⟩
      subst hwo
      by_cases hlt : k < n
      · have hlt2 : (k : Int) < (n : Int) := by omega
        obtain ⟨q, rfl⟩ : ∃ q, k = q + 1 := ⟨k - 1, by omega⟩
        have hx0 := arr_get S (j := q + 1) (by rw [HSL.out]; exact hlt)
        have hy0 := arr_get S (j := q) (by rw [HSL.out]; omega)
        obtain ⟨x, hx⟩ : ∃ x, x = S.toArray[q + 1]! := ⟨_, rfl⟩
        obtain ⟨y, hy⟩ : ∃ y, y = S.toArray[q]! := ⟨_, rfl⟩
        rw [← hx] at hx0
        rw [← hy] at hy0
        have HRD : Hid (∀ w', Below wo.heap.size wo w' → w'.cell? ⟨g, (q + 1) * 2, none⟩ = some (.string x.nm) ∧ w'.cell? ⟨g, (q + 1) * 2 + 1, none⟩ = some (.int .i64 x.ix) ∧ w'.cell? ⟨g, q * 2, none⟩ = some (.string y.nm) ∧ w'.cell? ⟨g, q * 2 + 1, none⟩ = some (.int .i64 y.ix)) := hidn (fun w' hb => by
          have ho' := own_skip HR.out hb
          obtain ⟨a0, a1, _⟩ := own_spt ho' hx0
          obtain ⟨b0, b1, _⟩ := own_spt ho' hy0
          exact ⟨a0, a1, b0, b1⟩)
        obtain ⟨bb, hbb⟩ : ∃ bb, bb = sameS x y := ⟨_, rfl⟩
        have HEQ : Hid (∀ wx : World, (binOp .eql 25 (.agg #[.string x.nm, .int .i64 x.ix]) (.agg #[.string y.nm, .int .i64 y.ix])).run Tryd.prog wx = .ok (.bool bb) wx) := hidn (fun wx => by rw [hbb]; exact eqlS_run wx x y)
        have HBB := hidn hbb
        have HX := hidn hx
        have HY := hidn hy
        clear hx hy hx0 hy0 hbb
        have HWQ : Hid (IntKind.i64.wrap (q : Int) = (q : Int)) := hidn (by unfold IntKind.wrap IntKind.bits IntKind.signed; simp; omega)
        go_wp2_with fail
        refine wp_region_noPanic ?_
        refine wp_region_held_drew (S := fun w' => Below wo.heap.size wo w') (by kernel_rfl) ((Below.refl _ wo).drew) (fun hHeld => ?_)
        refine drawn_take (i := 0) (v := .slice (some ⟨g, 0, none⟩) n cap) (some 16) rfl rfl (by kernel_rfl) (by kernel_rfl) (by kernel_rfl) (fun _ _ _ h => h) (Or.inl ⟨by kernel_rfl, fun wq hw => by go_simp⟩) hHeld ?_
        simp only [Act.put, List.setIfInBounds_toArray, List.set_cons_succ, List.set_cons_zero]
        refine drawn_take (i := 1) (v := .int .i64 ((q : Int) + 1)) (some 17) rfl rfl (by kernel_rfl) (by kernel_rfl) (by kernel_rfl) (fun _ _ _ h => h) (Or.inl ⟨by kernel_rfl, fun wq hw => by go_simp⟩) hHeld ?_
        simp only [Act.put, List.setIfInBounds_toArray, List.set_cons_succ, List.set_cons_zero]
        refine drawn_take (i := 2) (v := .pointer (some ⟨g, (q + 1) * 2, none⟩)) (some 18) rfl rfl (by kernel_rfl) (by kernel_rfl) (by kernel_rfl) (fun _ _ _ h => h) (Or.inl ⟨by kernel_rfl, fun wq hw => by go_simp <;> (intro h8; exfalso; omega)⟩) hHeld ?_
        simp only [Act.put, List.setIfInBounds_toArray, List.set_cons_succ, List.set_cons_zero]
        refine drawn_take (i := 3) (v := .agg #[.string x.nm, .int .i64 x.ix]) (some 19) rfl rfl (by kernel_rfl) (by kernel_rfl) (by kernel_rfl) (fun _ _ _ h => h) (Or.inl ⟨by kernel_rfl, fun wq hw => by obtain ⟨q1, q2, q3, q4⟩ := HRD.out _ hw; go_simp⟩) hHeld ?_
        simp only [Act.put, List.setIfInBounds_toArray, List.set_cons_succ, List.set_cons_zero]
        refine drawn_take (i := 4) (v := .slice (some ⟨g, 0, none⟩) n cap) (some 20) rfl rfl (by kernel_rfl) (by kernel_rfl) (by kernel_rfl) (fun _ _ _ h => h) (Or.inl ⟨by kernel_rfl, fun wq hw => by go_simp⟩) hHeld ?_
        simp only [Act.put, List.setIfInBounds_toArray, List.set_cons_succ, List.set_cons_zero]
        refine drawn_take (i := 5) (v := .int .i64 ((q : Int) + 1)) (some 21) rfl rfl (by kernel_rfl) (by kernel_rfl) (by kernel_rfl) (fun _ _ _ h => h) (Or.inl ⟨by kernel_rfl, fun wq hw => by go_simp⟩) hHeld ?_
        simp only [Act.put, List.setIfInBounds_toArray, List.set_cons_succ, List.set_cons_zero]
        refine drawn_take (i := 6) (v := .int .i64 (q : Int)) (some 22) rfl rfl (by kernel_rfl) (by kernel_rfl) (by kernel_rfl) (fun _ _ _ h => h) (Or.inl ⟨by kernel_rfl, fun wq hw => by go_simp; exact HWQ.out⟩) hHeld ?_
        simp only [Act.put, List.setIfInBounds_toArray, List.set_cons_succ, List.set_cons_zero]
        refine drawn_take (i := 7) (v := .pointer (some ⟨g, q * 2, none⟩)) (some 23) rfl rfl (by kernel_rfl) (by kernel_rfl) (by kernel_rfl) (fun _ _ _ h => h) (Or.inl ⟨by kernel_rfl, fun wq hw => by go_simp <;> (intro h8; exfalso; omega)⟩) hHeld ?_
        simp only [Act.put, List.setIfInBounds_toArray, List.set_cons_succ, List.set_cons_zero]
        refine drawn_take (i := 8) (v := .agg #[.string y.nm, .int .i64 y.ix]) (some 24) rfl rfl (by kernel_rfl) (by kernel_rfl) (by kernel_rfl) (fun _ _ _ h => h) (Or.inl ⟨by kernel_rfl, fun wq hw => by obtain ⟨q1, q2, q3, q4⟩ := HRD.out _ hw; go_simp⟩) hHeld ?_
        simp only [Act.put, List.setIfInBounds_toArray, List.set_cons_succ, List.set_cons_zero]
        refine drawn_take (i := 9) (v := .bool bb) (some 25) rfl rfl (by kernel_rfl) (by kernel_rfl) (by kernel_rfl) (fun _ _ _ h => h) (Or.inl ⟨by kernel_rfl, fun wq hw => by go_simp; rw [same_if, HBB.out]; cases sameS x y <;> rfl⟩) hHeld ?_
        simp only [Act.put, List.setIfInBounds_toArray, List.set_cons_succ, List.set_cons_zero]
        refine wpAnyH_done (by kernel_rfl) ?_ _
        refine NoPanic.normal ?_
        clear hHeld
        have HR1 := hidn (own_skip HR.out ((Below.refl _ wo).drew))
        have HK1 := hidn (HK.out.drew)
        cases bb
        · have HA2 : Hid (∀ j, j < q + 1 + 1 → keeps S.toArray j = true) := hidn (fun j hj => by
            by_cases hjq : j = q + 1
            · subst hjq
              refine keeps_pos ?_
              rw [← HX.out, show q + 1 - 1 = q from rfl, ← HY.out]
              intro e
              have := HBB.out
              rw [sameS_iff.2 e] at this
              cases this
            · exact HA.out j (by omega))
          go_wp2_with fail
          go_roundw
          case rel => first | exact ⟨q + 1 + 1, by omega, by omega, by first | rfl | simp, HR1, HK1, HA2⟩ | (repeat apply Exists.intro; exact ⟨⟨q + 1 + 1, by omega, by omega, by first | rfl | simp, HR1, HK1, HA2⟩, rfl⟩)
          case measure => simp [intOf]; omega
        · have HI0 : Hid (CompInv S.toArray (q + 1 + 1) (q + 1) S.toArray) := hidn (CompInv.start HA.out (keeps_neg (by omega) (by
            rw [← HX.out, show q + 1 - 1 = q from rfl, ← HY.out]
            exact sameS_iff.1 HBB.out.symm)))
          obtain ⟨n2, hn2⟩ : ∃ n2, n2 = n - (q + 1) := ⟨_, rfl⟩
          obtain ⟨c2, hc2⟩ : ∃ c2, c2 = cap - (q + 1) := ⟨_, rfl⟩
          have hsl := ix_slS (w := wo.drew) g n cap (q + 1) n2 c2 (by omega) (by omega) hn2 hc2
          have HN2 := hidn hn2
          have hqc : q + 1 < cap := by omega
          have hql : (q : Int) + 1 ≤ (n : Int) := by omega
          go_wp2_with fail
          go_loopw [3, 5] (fun kv iv wr => ∃ (kk j : Nat) (dk : Array Spt), kv = .int .i64 (kk : Int) ∧ iv = .int .i64 ((j : Int) + 1) ∧ q + 1 + (j + 1) ≤ n ∧ Hid (CompInv S.toArray (q + 1 + (j + 1)) kk dk) ∧ Hid (wr.ownsRow B 25 2 (.slice (some ⟨g, 0, none⟩) n cap) n (fvs dk.toList)) ∧ Hid (Kb g w wr)) (fun _ iv _ => n - (intOf iv).toNat)
          case atStart => exact ⟨q + 1, 0, S.toArray, by first | rfl | simp, rfl, by omega, HI0, by simpa using HR1, HK1⟩
          case round =>
            obtain ⟨kk, j, dk, rfl, rfl, hjn, HI, HRP0, HKP⟩ := hrel
            obtain ⟨wp, hwp⟩ : ∃ wp, wp = wr := ⟨_, rfl⟩
            subst hwp
            have hkk := HI.out.lt
            have hdk : dk.size = n := by have := HI.out.size; rw [this]; simpa using HSL.out
            by_cases hlt3 : q + 1 + (j + 1) < n
            · have hj2 : (j : Int) + 1 < (n2 : Int) := by omega
              have hjn2 : j + 1 < n2 := by omega
              have hu0 : dk.toList[q + 1 + (j + 1)]? = some S.toArray[q + 1 + (j + 1)]! := by
                rw [Array.getElem?_toList, Array.getElem?_eq_getElem (by omega), ← getElem!_pos dk _ (by omega), HI.out.high _ (by omega)]
              have hv0 : dk.toList[q + 1 + j]? = some S.toArray[q + 1 + j]! := by
                rw [Array.getElem?_toList, Array.getElem?_eq_getElem (by omega), ← getElem!_pos dk _ (by omega), HI.out.high _ (by omega)]
              obtain ⟨u, hu⟩ : ∃ u, u = S.toArray[q + 1 + (j + 1)]! := ⟨_, rfl⟩
              obtain ⟨v, hv⟩ : ∃ v, v = S.toArray[q + 1 + j]! := ⟨_, rfl⟩
              rw [← hu] at hu0
              rw [← hv] at hv0
              have HRP : Hid (∀ w', Below wp.heap.size wp w' → w'.cell? ⟨g, (q + 1) * 2 + (j + 1) * 2, none⟩ = some (.string u.nm) ∧ w'.cell? ⟨g, (q + 1) * 2 + (j + 1) * 2 + 1, none⟩ = some (.int .i64 u.ix) ∧ w'.cell? ⟨g, (q + 1) * 2 + j * 2, none⟩ = some (.string v.nm) ∧ w'.cell? ⟨g, (q + 1) * 2 + j * 2 + 1, none⟩ = some (.int .i64 v.ix)) := hidn (fun w' hb => by
                have ho' := own_skip HRP0.out hb
                obtain ⟨a0, a1, _⟩ := own_spt ho' hu0
                obtain ⟨b0, b1, _⟩ := own_spt ho' hv0
                rw [show (q + 1) * 2 + (j + 1) * 2 = (q + 1 + (j + 1)) * 2 from by omega, show (q + 1) * 2 + j * 2 = (q + 1 + j) * 2 from by omega]
                exact ⟨a0, a1, b0, b1⟩)
              obtain ⟨cc, hcc⟩ : ∃ cc, cc = !sameS u v := ⟨_, rfl⟩
              have HNE : Hid (∀ wx : World, (binOp .neq 25 (.agg #[.string u.nm, .int .i64 u.ix]) (.agg #[.string v.nm, .int .i64 v.ix])).run Tryd.prog wx = .ok (.bool cc) wx) := hidn (fun wx => by rw [hcc]; exact neqS_run wx u v)
              have HCC := hidn hcc
              have HU := hidn hu
              have HV := hidn hv
              have HWJ : Hid (IntKind.i64.wrap (j : Int) = (j : Int)) := hidn (by unfold IntKind.wrap IntKind.bits IntKind.signed; simp; omega)
              clear hu hv hu0 hv0 hcc hsl
              go_wp2_with fail
              refine wp_region_noPanic ?_
              refine wp_region_held_drew (S := fun w' => Below wp.heap.size wp w') (by kernel_rfl) ((Below.refl _ wp).drew) (fun hHeld => ?_)
              refine drawn_take (i := 0) (v := .slice (some ⟨g, (q + 1) * 2, none⟩) n2 c2) (some 35) rfl rfl (by kernel_rfl) (by kernel_rfl) (by kernel_rfl) (fun _ _ _ h => h) (Or.inl ⟨by kernel_rfl, fun wq hw => by go_simp⟩) hHeld ?_
              simp only [Act.put, List.setIfInBounds_toArray, List.set_cons_succ, List.set_cons_zero]
              refine drawn_take (i := 1) (v := .int .i64 ((j : Int) + 1)) (some 36) rfl rfl (by kernel_rfl) (by kernel_rfl) (by kernel_rfl) (fun _ _ _ h => h) (Or.inl ⟨by kernel_rfl, fun wq hw => by go_simp⟩) hHeld ?_
              simp only [Act.put, List.setIfInBounds_toArray, List.set_cons_succ, List.set_cons_zero]
              refine drawn_take (i := 2) (v := .pointer (some ⟨g, (q + 1) * 2 + (j + 1) * 2, none⟩)) (some 37) rfl rfl (by kernel_rfl) (by kernel_rfl) (by kernel_rfl) (fun _ _ _ h => h) (Or.inl ⟨by kernel_rfl, fun wq hw => by go_simp <;> (intro h8; exfalso; omega)⟩) hHeld ?_
              simp only [Act.put, List.setIfInBounds_toArray, List.set_cons_succ, List.set_cons_zero]
              refine drawn_take (i := 3) (v := .agg #[.string u.nm, .int .i64 u.ix]) (some 38) rfl rfl (by kernel_rfl) (by kernel_rfl) (by kernel_rfl) (fun _ _ _ h => h) (Or.inl ⟨by kernel_rfl, fun wq hw => by obtain ⟨q1, q2, q3, q4⟩ := HRP.out _ hw; go_simp⟩) hHeld ?_
              simp only [Act.put, List.setIfInBounds_toArray, List.set_cons_succ, List.set_cons_zero]
              refine drawn_take (i := 4) (v := .slice (some ⟨g, (q + 1) * 2, none⟩) n2 c2) (some 39) rfl rfl (by kernel_rfl) (by kernel_rfl) (by kernel_rfl) (fun _ _ _ h => h) (Or.inl ⟨by kernel_rfl, fun wq hw => by go_simp⟩) hHeld ?_
              simp only [Act.put, List.setIfInBounds_toArray, List.set_cons_succ, List.set_cons_zero]
              refine drawn_take (i := 5) (v := .int .i64 ((j : Int) + 1)) (some 40) rfl rfl (by kernel_rfl) (by kernel_rfl) (by kernel_rfl) (fun _ _ _ h => h) (Or.inl ⟨by kernel_rfl, fun wq hw => by go_simp⟩) hHeld ?_
              simp only [Act.put, List.setIfInBounds_toArray, List.set_cons_succ, List.set_cons_zero]
              refine drawn_take (i := 6) (v := .int .i64 (j : Int)) (some 41) rfl rfl (by kernel_rfl) (by kernel_rfl) (by kernel_rfl) (fun _ _ _ h => h) (Or.inl ⟨by kernel_rfl, fun wq hw => by go_simp; exact HWJ.out⟩) hHeld ?_
              simp only [Act.put, List.setIfInBounds_toArray, List.set_cons_succ, List.set_cons_zero]
              refine drawn_take (i := 7) (v := .pointer (some ⟨g, (q + 1) * 2 + j * 2, none⟩)) (some 42) rfl rfl (by kernel_rfl) (by kernel_rfl) (by kernel_rfl) (fun _ _ _ h => h) (Or.inl ⟨by kernel_rfl, fun wq hw => by go_simp <;> (intro h8; exfalso; omega)⟩) hHeld ?_
              simp only [Act.put, List.setIfInBounds_toArray, List.set_cons_succ, List.set_cons_zero]
              refine drawn_take (i := 8) (v := .agg #[.string v.nm, .int .i64 v.ix]) (some 43) rfl rfl (by kernel_rfl) (by kernel_rfl) (by kernel_rfl) (fun _ _ _ h => h) (Or.inl ⟨by kernel_rfl, fun wq hw => by obtain ⟨q1, q2, q3, q4⟩ := HRP.out _ hw; go_simp⟩) hHeld ?_
              simp only [Act.put, List.setIfInBounds_toArray, List.set_cons_succ, List.set_cons_zero]
              refine drawn_take (i := 9) (v := .bool cc) (some 44) rfl rfl (by kernel_rfl) (by kernel_rfl) (by kernel_rfl) (fun _ _ _ h => h) (Or.inl ⟨by kernel_rfl, fun wq hw => by go_simp; rw [same_if, HCC.out]; cases sameS u v <;> rfl⟩) hHeld ?_
              simp only [Act.put, List.setIfInBounds_toArray, List.set_cons_succ, List.set_cons_zero]
              refine wpAnyH_done (by kernel_rfl) ?_ _
              refine NoPanic.normal ?_
              clear hHeld
              obtain ⟨w7, hw7⟩ : ∃ w7, w7 = wp.drew := ⟨_, rfl⟩
              have hb7 : Below wp.heap.size wp w7 := by rw [hw7]; exact (Below.refl _ wp).drew
              have HR3 := hidn (own_skip HRP0.out hb7)
              have HK3 : Hid (Kb g w w7) := hidn (by rw [hw7]; exact HKP.out.drew)
              rw [← hw7]
              have HB7 := hidn hb7
              clear hw7 hb7
              cases cc
              · have HI2 : Hid (CompInv S.toArray (q + 1 + (j + 1 + 1)) kk dk) := hidn (HI.out.skip (keeps_neg (by omega) (by
                  rw [← HU.out, show q + 1 + (j + 1) - 1 = q + 1 + j from rfl, ← HV.out]
                  have := HCC.out
                  exact sameS_iff.1 (by simpa using this.symm))))
                go_wp2_with fail
                go_roundw
                case rel => first | exact ⟨kk, j + 1, dk, rfl, by first | rfl | simp, by omega, HI2, HR3, HK3⟩ | (repeat apply Exists.intro; exact ⟨⟨kk, j + 1, dk, rfl, by first | rfl | simp, by omega, HI2, HR3, HK3⟩, rfl⟩)
                case measure => simp [intOf]; omega
              · have HI2 : Hid (CompInv S.toArray (q + 1 + (j + 1 + 1)) (kk + 1) (dk.setIfInBounds kk u)) := hidn (by
                  rw [HU.out]
                  refine HI.out.keep (by simpa [HSL.out] using hlt3) (keeps_pos ?_)
                  rw [← HU.out, show q + 1 + (j + 1) - 1 = q + 1 + j from rfl, ← HV.out]
                  intro e
                  have := HCC.out
                  rw [sameS_iff.2 e] at this
                  cases this)
                obtain ⟨e0, e1, e2, e3⟩ := HRP.out w7 HB7.out
                obtain ⟨f0, f1, f2, f3⟩ := own_spt HR3.out (k := kk) (x := dk.toList[kk]'(by simp; omega)) (List.getElem?_eq_getElem _)
                have HR4 : Hid (((w7.setCell ⟨g, kk * 2, none⟩ (.string u.nm)).setCell ⟨g, kk * 2 + 1, none⟩ (.int .i64 u.ix)).ownsRow B 25 2 (.slice (some ⟨g, 0, none⟩) n cap) n (fvs (dk.setIfInBounds kk u).toList)) := hidn (by
                  have h6 := ((HR3.out.stored (kk * 2) (.string u.nm)).1.stored (kk * 2 + 1) (.int .i64 u.ix)).1
                  rw [fvs_set _ _ _ (by simp; omega)] at h6
                  rw [Array.toList_setIfInBounds]
                  exact h6)
                have HK4 := hidn ((HK3.out.setCell (kk * 2) (.string u.nm)).setCell (kk * 2 + 1) (.int .i64 u.ix))
                have hkn2 : kk < n := by omega
                have hkn3 : (kk : Int) < (n : Int) := by omega
                clear e2 e3
                go_wp2_with fail
                go_roundw
                case rel => first | exact ⟨kk + 1, j + 1, dk.setIfInBounds kk u, by first | rfl | simp, by first | rfl | simp, by omega, HI2, HR4, HK4⟩ | (repeat apply Exists.intro; exact ⟨⟨kk + 1, j + 1, dk.setIfInBounds kk u, by first | rfl | simp, by first | rfl | simp, by omega, HI2, HR4, HK4⟩, rfl⟩)
                case measure => simp [intOf]; omega
            · have hj2 : ¬ (j : Int) + 1 < (n2 : Int) := by omega
              have hend : q + 1 + (j + 1) = n := by omega
              obtain ⟨w9, hcl, ho9, hk9⟩ := clearS_run wp B g n cap kk dk.toList HRP0.out (by omega)
              have HO9 : Hid (w9.ownsRow B 25 2 (.slice (some ⟨g, 0, none⟩) kk cap) kk (fvs (compactUpTo S.toArray n))) := hidn (by
                have h9 := inv_row HSL.out HI.out (by omega)
                rw [hend] at h9
                rw [← h9]; exact ho9)
              have HK9 := hidn (HKP.out.trans hk9)
              have hkn2 : kk ≤ n := by omega
              have hkn3 : (kk : Int) ≤ (n : Int) := by omega
              have hkc : kk ≤ cap := by omega
              have hkc2 : kk < cap := by omega
              clear ho9 hk9 hend hsl
              go_wp2_with fail
              go_ret
              exact ⟨kk, rfl, hkn2, HO9.out, HK9.out⟩
      · obtain rfl : k = n := by omega
        have hlt2 : ¬ (k : Int) < (k : Int) := by omega
        have HC : Hid (compactUpTo S.toArray k = S) := hidn (by
          rw [compact_short S k HSL.out k (Nat.le_refl _) HA.out, List.take_of_length_le (by rw [HSL.out]; omega)])
        clear hlt
        go_wp2_with fail
        go_ret
        exact ⟨k, rfl, Nat.le_refl _, by rw [HC.out]; exact HR.out, HK.out⟩
end Go.Proofs.YtidlogeeophogaaDoor.Sp
