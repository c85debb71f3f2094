/- slices.SortStableFunc of few footers. -/
import Derived.Test.YtpbicnpaldfamaaPlT
import Derived.Test.YtpbicnpaldfamaaPlM
import Derived.Test.YtpbicnpaldfamaaPlJ
namespace Go.Proofs.Ytpbicnpaldfamaa
open Go.RowKit Go.Joins
set_option linter.unusedVariables false

theorem st_mid {o : Oper} {a : Act} {w : World} {x y : Operand} {g off : Nat} {d : Fo} (ho : o.op = Op.store 31 x y) (hx : a.eval x = .pointer (some ⟨g, off, none⟩)) (hy : a.eval y = d.agg) (ht : w.there g off 8) :
    (execOp a.eval o).run Try.prog w = .ok .skip (w.setCells g off d.cells) := by
  have hi : (Try.prog.info? 31).map (·.size) = some d.cells.toArray.size := by
    rw [show d.cells.toArray.size = 8 from rfl]; kernel_rfl
  have hr := run_storeVar_mid (P := Try.prog) w g off 31 d.cells.toArray ht hi (by
    rw [Array.all_eq_true_iff_forall_mem]
    intro u hu
    exact fvs_one [d] u (by simpa [fvs] using hu))
  have hy' : a.eval y = .agg d.cells.toArray := hy
  unfold execOp
  simp only [ho, hx, hy', Instr.storeAt, Instr.sureAddr, Sem.run_bind, Sem.run_pure, Result.andThen_ok, hr]

set_option maxHeartbeats 400000 in
set_option maxRecDepth 100000 in
theorem insSort_any (g c n : Nat) (M : List Fo) (w : World) (h : SortI w w g n M) (hn : n ≤ 1000) :
    Calls Try.prog 21 #[.slice (some ⟨g, 0, none⟩) n c, .int .i64 0, .int .i64 (n : Int), .func (.func 15) #[] #[]] w fun e w' => e = .returned (.tuple #[]) ∧ SortI w w' g n (sortE M) := by
  have hlen := hidn h.len
  go_enter Try.func21, Try.ntmps21
  go_wp2_with fail
  go_loopw [8] (fun iv wr => ∃ (i : Nat), 1 ≤ i ∧ i ≤ n + 1 ∧ iv = .int .i64 (i : Int) ∧ Hid (SortI w wr g n (sortE (M.take i) ++ M.drop i))) (fun iv _ => n + 1 - (intOf iv).toNat)
  case atStart =>
    refine ⟨1, by omega, by omega, rfl, hidn ?_⟩
    have e : sortE (M.take 1) ++ M.drop 1 = M := by
      cases M with
      | nil => rfl
      | cons x t => rfl
    rw [e]
    exact h
  case round =>
    obtain ⟨wo, hwo⟩ : ∃ wo, wo = wr := ⟨wr, rfl⟩
    subst hwo
    obtain ⟨i, hi1, hin, rfl, hO⟩ := hrel
    by_cases hlt : i < n
    · have hlt2 : (i : Int) < (n : Int) := by omega
      obtain ⟨f, hf⟩ : ∃ f, M[i]? = some f := ⟨_, List.getElem?_eq_getElem (by rw [hlen.out]; exact hlt)⟩
      obtain ⟨S, hS⟩ : ∃ S, S = sortE (M.take i) := ⟨_, rfl⟩
      have hSl : S.length = i := by rw [hS, sortE_len, List.length_take, hlen.out]; omega
      have HN : Hid (sortE (M.take (i + 1)) = insE S f) := hidn (by rw [List.take_add_one, hf, hS]; exact sortE_snoc _ _)
      have HDR : Hid (M.drop i = f :: M.drop (i + 1)) := hidn (by
        rw [List.drop_eq_getElem_cons (by rw [hlen.out]; exact hlt)]
        congr 1
        rw [List.getElem?_eq_getElem (by rw [hlen.out]; exact hlt)] at hf
        simpa using hf)
      obtain ⟨T, hT⟩ : ∃ T, T = M.drop (i + 1) := ⟨_, rfl⟩
      have HO : Hid (SortI w wo g n (S ++ f :: T)) := hidn (by rw [hS, hT, ← HDR.out]; exact hO.out)
      have HSL := hidn hSl
      have HT := hidn hT
      clear hf hS hT hO hSl
      go_wp2_with fail
      go_loopw [9] (fun jv wr => ∃ (j : Nat), j ≤ i ∧ jv = .int .i64 (j : Int) ∧ Hid (SortI w wr g n (S.take j ++ f :: (S.drop j ++ T)) ∧ ∀ x ∈ S.drop j, f.rk < x.rk)) (fun jv _ => (intOf jv).toNat)
      case atStart =>
        refine ⟨i, Nat.le_refl _, rfl, hidn ⟨?_, ?_⟩⟩
        · rw [List.take_of_length_le (by rw [HSL.out]; exact Nat.le_refl _), List.drop_of_length_le (by rw [HSL.out]; exact Nat.le_refl _)]
          exact HO.out
        · rw [List.drop_of_length_le (by rw [HSL.out]; exact Nat.le_refl _)]
          intro x hx
          cases hx
      case round =>
        obtain ⟨j, hj, rfl, hI⟩ := hrel
        have hgl : g < wr.heap.size := hI.out.1.glt (by omega)
        by_cases hj0 : j = 0
        · subst hj0
          have HF : Hid (SortI w wr.drew g n (sortE (M.take (i + 1)) ++ M.drop (i + 1))) := hidn (by
            have e := insE_at [] S f (fun x hx => hI.out.2 x (by simpa using hx)) (fun x hx => by cases hx)
            rw [HN.out, ← HT.out, show S = [] ++ S from rfl, e]
            have h9 := hI.out.1
            simp only [List.take_zero, List.drop_zero] at h9
            simpa using h9.below ((Below.refl _ wr).drew) hgl)
          go_wp2_with fail
          go_region
          go_wp2_with fail
          exact ⟨⟨i + 1, by omega, by omega, by simp, HF⟩, by simp [intOf]; omega⟩
        · obtain ⟨p, hp⟩ : ∃ p, j = p + 1 := ⟨j - 1, by omega⟩
          obtain ⟨x, hx⟩ : ∃ x, S[p]? = some x := ⟨_, List.getElem?_eq_getElem (by rw [HSL.out]; omega)⟩
          have hSp : S.take j = S.take p ++ [x] := by rw [hp, List.take_add_one, hx]; rfl
          have hSd : S.drop p = x :: S.drop j := by
            rw [hp, List.drop_eq_getElem_cons (by rw [HSL.out]; omega)]
            congr 1
            rw [List.getElem?_eq_getElem (by rw [HSL.out]; omega)] at hx
            simpa using hx
          have hAl : (S.take p).length = p := by rw [List.length_take, HSL.out]; omega
          have hI2 : SortI w wr g n (S.take p ++ x :: f :: (S.drop j ++ T)) := by
            have h9 := hI.out.1
            rw [hSp] at h9
            simpa using h9
          have hxr := hI2.at (j := p) (d := x) (by rw [List.getElem?_append_right (by omega), hAl]; simp)
          have hfr := hI2.at (j := p + 1) (d := f) (by rw [List.getElem?_append_right (by omega), hAl, show p + 1 - p = 1 from by omega]; rfl)
          have hjp : (j : Int) - 1 = (p : Int) := by omega
          have hjn : (j : Int) < (n : Int) := by omega
          have hpn : (p : Int) < (n : Int) := by omega
          have hj1 : (0 : Int) < (j : Int) := by omega
          rw [← hp] at hfr
          have HCR := compareRanks_any f x wr.drew
          have HSP := hidn hSp
          have HSD := hidn hSd
          have HAL := hidn hAl
          have HI2 := hidn hI2
          have HP := hidn hp
          have HXR := hidn hxr
          have HFR := hidn hfr
          have hcz : (cmpZ f.rk x.rk < 0) ↔ f.rk < x.rk := by unfold cmpZ; split <;> (try split) <;> omega
          have HCZ := hidn hcz
          clear hp hx hSp hSd hAl hI2 hcz hxr hfr
          go_wp2_with fail
          refine wp_region_noPanic ?_
          refine wp_region_held_drew (S := fun w' => (w'.cell? ⟨g, p * 8, none⟩ = some (.int .i64 x.nu) ∧ w'.cell? ⟨g, p * 8 + 1, none⟩ = some (.int .i64 x.ge) ∧ w'.cell? ⟨g, p * 8 + 2, none⟩ = some (.int .i64 x.lv) ∧ w'.cell? ⟨g, p * 8 + 3, none⟩ = some (.int .i64 x.rk) ∧ w'.cell? ⟨g, p * 8 + 4, none⟩ = some (.int .i64 x.mn) ∧ w'.cell? ⟨g, p * 8 + 5, none⟩ = some (.int .i64 x.mx) ∧ w'.cell? ⟨g, p * 8 + 6, none⟩ = some (.int .i64 x.bt) ∧ w'.cell? ⟨g, p * 8 + 7, none⟩ = some (.slice x.pa x.pl x.pc)) ∧ (w'.cell? ⟨g, j * 8, none⟩ = some (.int .i64 f.nu) ∧ w'.cell? ⟨g, j * 8 + 1, none⟩ = some (.int .i64 f.ge) ∧ w'.cell? ⟨g, j * 8 + 2, none⟩ = some (.int .i64 f.lv) ∧ w'.cell? ⟨g, j * 8 + 3, none⟩ = some (.int .i64 f.rk) ∧ w'.cell? ⟨g, j * 8 + 4, none⟩ = some (.int .i64 f.mn) ∧ w'.cell? ⟨g, j * 8 + 5, none⟩ = some (.int .i64 f.mx) ∧ w'.cell? ⟨g, j * 8 + 6, none⟩ = some (.int .i64 f.bt) ∧ w'.cell? ⟨g, j * 8 + 7, none⟩ = some (.slice f.pa f.pl f.pc))) (by kernel_rfl) (⟨HXR.out, HFR.out⟩) (fun hHeld => ?_)
          refine drawn_take (i := 0) (v := .int .i64 (j : Int)) (some 18) rfl rfl (by kernel_rfl) (by kernel_rfl) (by kernel_rfl) (fun _ _ _ h => h) (Or.inl ⟨by kernel_rfl, fun wq hw => by go_simp⟩) hHeld ?_
          simp only [Act.put, List.setIfInBounds_toArray, List.set_cons_succ, List.set_cons_zero]
          refine drawn_take (i := 1) (v := .int .i64 0) (some 19) rfl rfl (by kernel_rfl) (by kernel_rfl) (by kernel_rfl) (fun _ _ _ h => h) (Or.inl ⟨by kernel_rfl, fun wq hw => by go_simp⟩) hHeld ?_
          simp only [Act.put, List.setIfInBounds_toArray, List.set_cons_succ, List.set_cons_zero]
          refine drawn_take (i := 2) (v := .bool true) (some 20) rfl rfl (by kernel_rfl) (by kernel_rfl) (by kernel_rfl) (fun _ _ _ h => h) (Or.inl ⟨by kernel_rfl, fun wq hw => by go_simp; omega⟩) hHeld ?_
          simp only [Act.put, List.setIfInBounds_toArray, List.set_cons_succ, List.set_cons_zero]
          refine drawn_take (i := 3) (v := .bool true) (some 21) rfl rfl (by kernel_rfl) (by kernel_rfl) (by kernel_rfl) (fun _ _ _ h => h) (Or.inl ⟨by kernel_rfl, fun wq hw => by go_simp⟩) hHeld ?_
          simp only [Act.put, List.setIfInBounds_toArray, List.set_cons_succ, List.set_cons_zero]
          refine drawn_take (i := 4) (v := .func (.func 15) #[] #[]) (some 22) rfl rfl (by kernel_rfl) (by kernel_rfl) (by kernel_rfl) (fun _ _ _ h => h) (Or.inl ⟨by kernel_rfl, fun wq hw => by go_simp⟩) hHeld ?_
          simp only [Act.put, List.setIfInBounds_toArray, List.set_cons_succ, List.set_cons_zero]
          refine drawn_take (i := 5) (v := .slice (some ⟨g, 0, none⟩) n c) (some 23) rfl rfl (by kernel_rfl) (by kernel_rfl) (by kernel_rfl) (fun _ _ _ h => h) (Or.inl ⟨by kernel_rfl, fun wq hw => by go_simp⟩) hHeld ?_
          simp only [Act.put, List.setIfInBounds_toArray, List.set_cons_succ, List.set_cons_zero]
          refine drawn_take (i := 6) (v := .int .i64 (j : Int)) (some 24) rfl rfl (by kernel_rfl) (by kernel_rfl) (by kernel_rfl) (fun _ _ _ h => h) (Or.inl ⟨by kernel_rfl, fun wq hw => by go_simp⟩) hHeld ?_
          simp only [Act.put, List.setIfInBounds_toArray, List.set_cons_succ, List.set_cons_zero]
          refine drawn_take (i := 7) (v := .pointer (some ⟨g, j * 8, none⟩)) (some 25) rfl rfl (by kernel_rfl) (by kernel_rfl) (by kernel_rfl) (fun _ _ _ h => h) (Or.inl ⟨by kernel_rfl, fun wq hw => by go_simp⟩) hHeld ?_
          simp only [Act.put, List.setIfInBounds_toArray, List.set_cons_succ, List.set_cons_zero]
          refine drawn_take (i := 8) (v := .agg #[.int .i64 f.nu, .int .i64 f.ge, .int .i64 f.lv, .int .i64 f.rk, .int .i64 f.mn, .int .i64 f.mx, .int .i64 f.bt, .slice f.pa f.pl f.pc]) (some 26) rfl rfl (by kernel_rfl) (by kernel_rfl) (by kernel_rfl) (fun _ _ _ h => h) (Or.inl ⟨by kernel_rfl, fun wq hw => by obtain ⟨q0, q1, q2, q3, q4, q5, q6, q7⟩ := hw.2; go_simp⟩) hHeld ?_
          simp only [Act.put, List.setIfInBounds_toArray, List.set_cons_succ, List.set_cons_zero]
          refine drawn_take (i := 9) (v := .slice (some ⟨g, 0, none⟩) n c) (some 27) rfl rfl (by kernel_rfl) (by kernel_rfl) (by kernel_rfl) (fun _ _ _ h => h) (Or.inl ⟨by kernel_rfl, fun wq hw => by go_simp⟩) hHeld ?_
          simp only [Act.put, List.setIfInBounds_toArray, List.set_cons_succ, List.set_cons_zero]
          refine drawn_take (i := 10) (v := .int .i64 (j : Int)) (some 28) rfl rfl (by kernel_rfl) (by kernel_rfl) (by kernel_rfl) (fun _ _ _ h => h) (Or.inl ⟨by kernel_rfl, fun wq hw => by go_simp⟩) hHeld ?_
          simp only [Act.put, List.setIfInBounds_toArray, List.set_cons_succ, List.set_cons_zero]
          refine drawn_take (i := 11) (v := .int .i64 (p : Int)) (some 29) rfl rfl (by kernel_rfl) (by kernel_rfl) (by kernel_rfl) (fun _ _ _ h => h) (Or.inl ⟨by kernel_rfl, fun wq hw => by go_simp; first | (rw [IntKind.wrap_i64]; omega) | (unfold wrap64; omega)⟩) hHeld ?_
          simp only [Act.put, List.setIfInBounds_toArray, List.set_cons_succ, List.set_cons_zero]
          refine drawn_take (i := 12) (v := .pointer (some ⟨g, p * 8, none⟩)) (some 30) rfl rfl (by kernel_rfl) (by kernel_rfl) (by kernel_rfl) (fun _ _ _ h => h) (Or.inl ⟨by kernel_rfl, fun wq hw => by go_simp⟩) hHeld ?_
          simp only [Act.put, List.setIfInBounds_toArray, List.set_cons_succ, List.set_cons_zero]
          refine drawn_take (i := 13) (v := .agg #[.int .i64 x.nu, .int .i64 x.ge, .int .i64 x.lv, .int .i64 x.rk, .int .i64 x.mn, .int .i64 x.mx, .int .i64 x.bt, .slice x.pa x.pl x.pc]) (some 31) rfl rfl (by kernel_rfl) (by kernel_rfl) (by kernel_rfl) (fun _ _ _ h => h) (Or.inl ⟨by kernel_rfl, fun wq hw => by obtain ⟨q0, q1, q2, q3, q4, q5, q6, q7⟩ := hw.1; go_simp⟩) hHeld ?_
          simp only [Act.put, List.setIfInBounds_toArray, List.set_cons_succ, List.set_cons_zero]
          obtain ⟨cz, hcz0⟩ : ∃ cz, cz = cmpZ f.rk x.rk := ⟨_, rfl⟩
          have HCR2 : Hid (Calls Try.prog 15 #[f.agg, x.agg] wr.drew fun e w' => ∃ v, e = .returned v ∧ (v = .int .i64 cz ∧ Below wr.drew.heap.size wr.drew w')) := hidn (HCR.mono fun e w' hh => ⟨_, hh.1, by rw [hcz0], hh.2⟩)
          have HCZ2 : Hid (cz < 0 ↔ f.rk < x.rk) := hidn (by rw [hcz0]; exact HCZ.out)
          clear hcz0 HCR
          refine wpAnyH_ready (rs := [14]) (by kernel_rfl) (by simp) ?_
          refine rdy_callw (i := 14) rfl (by kernel_rfl) (some 32) rfl 15 #[f.agg, x.agg] (callv_run (x := 22) (y := 26) (z := 31) (ts := #[31, 31]) (by kernel_rfl) (fun _ _ => rfl) (by kernel_rfl) (by kernel_rfl) (by kernel_rfl)) (fun v w' => v = .int .i64 cz ∧ Below wr.drew.heap.size wr.drew w') (HCR2.out) (fun r w9 hR => ?_) rdy_nil
          obtain ⟨rfl, b9⟩ := hR
          have B9 : Below wr.heap.size wr w9 := ((Below.refl _ wr).drew).trans b9
          have HI9 := hidn (HI2.out.below B9 hgl)
          have hgl9 : g < w9.heap.size := Nat.lt_of_lt_of_le hgl B9.size
          have hc9 : ∀ k, w9.cell? ⟨g, k, none⟩ = wr.cell? ⟨g, k, none⟩ := fun k => B9.cell (p := ⟨g, k, none⟩) hgl
          refine ⟨⟨by simp only [hc9]; exact HXR.out, by simp only [hc9]; exact HFR.out⟩, fun hHeld => ?_⟩
          simp only [Act.put, List.setIfInBounds_toArray, List.set_cons_succ, List.set_cons_zero]
          by_cases hcc : cz < 0
          · skip
            refine drawn_take (i := 15) (v := .bool true) (some 33) rfl rfl (by kernel_rfl) (by kernel_rfl) (by kernel_rfl) (fun _ _ _ h => h) (Or.inl ⟨by kernel_rfl, fun wq hw => by go_simp⟩) hHeld ?_
            simp only [Act.put, List.setIfInBounds_toArray, List.set_cons_succ, List.set_cons_zero]
            refine drawn_take (i := 16) (v := .bool true) (some 34) rfl rfl (by kernel_rfl) (by kernel_rfl) (by kernel_rfl) (fun _ _ _ h => h) (Or.inl ⟨by kernel_rfl, fun wq hw => by go_simp⟩) hHeld ?_
            simp only [Act.put, List.setIfInBounds_toArray, List.set_cons_succ, List.set_cons_zero]
            refine wpAnyH_done (by kernel_rfl) ?_ _
            refine NoPanic.normal ?_
            clear hHeld
            have hfx := HCZ2.out.1 hcc
            have HI10 : Hid (SortI w w9.drew g n (S.take p ++ x :: f :: (S.drop j ++ T))) := hidn (HI9.out.below ((Below.refl _ w9).drew) hgl9)
            have HX9 := hidn (HI10.out.at (j := p) (d := x) (by rw [List.getElem?_append_right (by rw [HAL.out]; exact Nat.le_refl _), HAL.out]; simp))
            have HF9 := hidn (HI10.out.at (j := j) (d := f) (by rw [List.getElem?_append_right (by rw [HAL.out]; omega), HAL.out, show j - p = 1 from by have := HP.out; omega]; rfl))
            have hth : w9.drew.there g (j * 8) 8 := fun k hk => by
              have := HI10.out.there (j * 8 + k) (by have := Int.ofNat_lt.1 hjn; omega)
              rwa [Nat.zero_add] at this
            have hth2 : (w9.drew.setCells g (j * 8) x.cells).there g (p * 8) 8 := fun k hk => by
              have := (World.there_setCells HI10.out.there g (j * 8) x.cells) (p * 8 + k) (by have := Int.ofNat_lt.1 hjn; have := HP.out; omega)
              rwa [Nat.zero_add] at this
            have HSW : Hid (SortI w ((w9.drew.setCells g (j * 8) x.cells).setCells g (p * 8) f.cells) g n (S.take p ++ f :: (S.drop p ++ T))) := hidn (by
              have h9 := HI10.out.swap
              rw [HAL.out, ← HP.out] at h9
              rw [HSD.out]
              simpa using h9)
            have HAA : Hid (∀ y ∈ S.drop p, f.rk < y.rk) := hidn (by
              rw [HSD.out]
              intro y hy
              rcases List.mem_cons.1 hy with e | e
              · rw [e]; exact hfx
              · exact hI.out.2 y e)
            clear hcc hfx
            go_wp2_with fail
            refine wp_region_noPanic ?_
            refine wp_region_held_drew (S := fun _ => True) (by kernel_rfl) (trivial) (fun hHeld => ?_)
            refine drawn_take (i := 0) (v := .slice (some ⟨g, 0, none⟩) n c) (some 37) rfl rfl (by kernel_rfl) (by kernel_rfl) (by kernel_rfl) (fun _ _ _ h => h) (Or.inl ⟨by kernel_rfl, fun wq hw => by go_simp⟩) hHeld ?_
            simp only [Act.put, List.setIfInBounds_toArray, List.set_cons_succ, List.set_cons_zero]
            refine drawn_take (i := 1) (v := .int .i64 (j : Int)) (some 38) rfl rfl (by kernel_rfl) (by kernel_rfl) (by kernel_rfl) (fun _ _ _ h => h) (Or.inl ⟨by kernel_rfl, fun wq hw => by go_simp⟩) hHeld ?_
            simp only [Act.put, List.setIfInBounds_toArray, List.set_cons_succ, List.set_cons_zero]
            refine drawn_take (i := 2) (v := .slice (some ⟨g, 0, none⟩) n c) (some 39) rfl rfl (by kernel_rfl) (by kernel_rfl) (by kernel_rfl) (fun _ _ _ h => h) (Or.inl ⟨by kernel_rfl, fun wq hw => by go_simp⟩) hHeld ?_
            simp only [Act.put, List.setIfInBounds_toArray, List.set_cons_succ, List.set_cons_zero]
            refine drawn_take (i := 3) (v := .int .i64 (j : Int)) (some 40) rfl rfl (by kernel_rfl) (by kernel_rfl) (by kernel_rfl) (fun _ _ _ h => h) (Or.inl ⟨by kernel_rfl, fun wq hw => by go_simp⟩) hHeld ?_
            simp only [Act.put, List.setIfInBounds_toArray, List.set_cons_succ, List.set_cons_zero]
            refine drawn_take (i := 4) (v := .int .i64 (p : Int)) (some 41) rfl rfl (by kernel_rfl) (by kernel_rfl) (by kernel_rfl) (fun _ _ _ h => h) (Or.inl ⟨by kernel_rfl, fun wq hw => by go_simp; first | (rw [IntKind.wrap_i64]; omega) | (unfold wrap64; omega)⟩) hHeld ?_
            simp only [Act.put, List.setIfInBounds_toArray, List.set_cons_succ, List.set_cons_zero]
            refine drawn_take (i := 5) (v := .slice (some ⟨g, 0, none⟩) n c) (some 42) rfl rfl (by kernel_rfl) (by kernel_rfl) (by kernel_rfl) (fun _ _ _ h => h) (Or.inl ⟨by kernel_rfl, fun wq hw => by go_simp⟩) hHeld ?_
            simp only [Act.put, List.setIfInBounds_toArray, List.set_cons_succ, List.set_cons_zero]
            refine drawn_take (i := 6) (v := .int .i64 (j : Int)) (some 43) rfl rfl (by kernel_rfl) (by kernel_rfl) (by kernel_rfl) (fun _ _ _ h => h) (Or.inl ⟨by kernel_rfl, fun wq hw => by go_simp⟩) hHeld ?_
            simp only [Act.put, List.setIfInBounds_toArray, List.set_cons_succ, List.set_cons_zero]
            refine drawn_take (i := 7) (v := .int .i64 (p : Int)) (some 44) rfl rfl (by kernel_rfl) (by kernel_rfl) (by kernel_rfl) (fun _ _ _ h => h) (Or.inl ⟨by kernel_rfl, fun wq hw => by go_simp; first | (rw [IntKind.wrap_i64]; omega) | (unfold wrap64; omega)⟩) hHeld ?_
            simp only [Act.put, List.setIfInBounds_toArray, List.set_cons_succ, List.set_cons_zero]
            refine drawn_take (i := 8) (v := .pointer (some ⟨g, p * 8, none⟩)) (some 45) rfl rfl (by kernel_rfl) (by kernel_rfl) (by kernel_rfl) (fun _ _ _ h => h) (Or.inl ⟨by kernel_rfl, fun wq hw => by go_simp⟩) hHeld ?_
            simp only [Act.put, List.setIfInBounds_toArray, List.set_cons_succ, List.set_cons_zero]
            refine drawn_take (i := 10) (v := .slice (some ⟨g, 0, none⟩) n c) (some 47) rfl rfl (by kernel_rfl) (by kernel_rfl) (by kernel_rfl) (fun _ _ _ h => h) (Or.inl ⟨by kernel_rfl, fun wq hw => by go_simp⟩) hHeld ?_
            simp only [Act.put, List.setIfInBounds_toArray, List.set_cons_succ, List.set_cons_zero]
            refine drawn_take (i := 11) (v := .int .i64 (j : Int)) (some 48) rfl rfl (by kernel_rfl) (by kernel_rfl) (by kernel_rfl) (fun _ _ _ h => h) (Or.inl ⟨by kernel_rfl, fun wq hw => by go_simp⟩) hHeld ?_
            simp only [Act.put, List.setIfInBounds_toArray, List.set_cons_succ, List.set_cons_zero]
            refine drawn_take (i := 12) (v := .pointer (some ⟨g, j * 8, none⟩)) (some 49) rfl rfl (by kernel_rfl) (by kernel_rfl) (by kernel_rfl) (fun _ _ _ h => h) (Or.inl ⟨by kernel_rfl, fun wq hw => by go_simp⟩) hHeld ?_
            simp only [Act.put, List.setIfInBounds_toArray, List.set_cons_succ, List.set_cons_zero]
            refine wpAnyH_ready (rs := [9, 13]) (by kernel_rfl) (by simp) ?_
            refine rdy_val (i := 9) rfl rfl (some 46) rfl (.agg #[.int .i64 x.nu, .int .i64 x.ge, .int .i64 x.lv, .int .i64 x.rk, .int .i64 x.mn, .int .i64 x.mx, .int .i64 x.bt, .slice x.pa x.pl x.pc]) w9.drew (by obtain ⟨q0, q1, q2, q3, q4, q5, q6, q7⟩ := HX9.out; go_simp) trivial (fun hHeld => ?_) (rdy_val (i := 13) rfl rfl (some 50) rfl (.agg #[.int .i64 f.nu, .int .i64 f.ge, .int .i64 f.lv, .int .i64 f.rk, .int .i64 f.mn, .int .i64 f.mx, .int .i64 f.bt, .slice f.pa f.pl f.pc]) w9.drew (by obtain ⟨q0, q1, q2, q3, q4, q5, q6, q7⟩ := HF9.out; go_simp) trivial (fun hHeld => ?_) rdy_nil)
            · simp only [Act.put, List.setIfInBounds_toArray, List.set_cons_succ, List.set_cons_zero]
              refine wpAnyH_ready (rs := [13]) (by kernel_rfl) (by simp) ?_
              refine rdy_val (i := 13) rfl rfl (some 50) rfl (.agg #[.int .i64 f.nu, .int .i64 f.ge, .int .i64 f.lv, .int .i64 f.rk, .int .i64 f.mn, .int .i64 f.mx, .int .i64 f.bt, .slice f.pa f.pl f.pc]) (w9.drew) (by obtain ⟨q0, q1, q2, q3, q4, q5, q6, q7⟩ := HF9.out; go_simp) (trivial) (fun hHeld => ?_) rdy_nil
              simp only [Act.put, List.setIfInBounds_toArray, List.set_cons_succ, List.set_cons_zero]
              refine drawn_take (i := 14) (v := .pointer (some ⟨g, j * 8, none⟩)) (some 51) rfl rfl (by kernel_rfl) (by kernel_rfl) (by kernel_rfl) (fun _ _ _ h => h) (Or.inl ⟨by kernel_rfl, fun wq hw => by go_simp⟩) hHeld ?_
              simp only [Act.put, List.setIfInBounds_toArray, List.set_cons_succ, List.set_cons_zero]
              refine wpAnyH_ready (rs := [15]) (by kernel_rfl) (by simp) ?_
              refine rdy_unit (i := 15) rfl rfl none rfl (w9.drew.setCells g (j * 8) x.cells) (st_mid (x := .tmp 51) (y := .tmp 46) (by kernel_rfl) (by kernel_rfl) (by kernel_rfl) hth) (trivial) (fun hHeld => ?_) rdy_nil
              simp only [Act.put]
              refine drawn_take (i := 16) (v := .pointer (some ⟨g, p * 8, none⟩)) (some 52) rfl rfl (by kernel_rfl) (by kernel_rfl) (by kernel_rfl) (fun _ _ _ h => h) (Or.inl ⟨by kernel_rfl, fun wq hw => by go_simp⟩) hHeld ?_
              simp only [Act.put, List.setIfInBounds_toArray, List.set_cons_succ, List.set_cons_zero]
              refine wpAnyH_ready (rs := [17]) (by kernel_rfl) (by simp) ?_
              refine rdy_unit (i := 17) rfl rfl none rfl ((w9.drew.setCells g (j * 8) x.cells).setCells g (p * 8) f.cells) (st_mid (x := .tmp 52) (y := .tmp 50) (by kernel_rfl) (by kernel_rfl) (by kernel_rfl) hth2) (trivial) (fun hHeld => ?_) rdy_nil
              simp only [Act.put]
              refine wpAnyH_done (by kernel_rfl) ?_ _
              refine NoPanic.normal ?_
              clear hHeld
              obtain ⟨wS, hwS⟩ : ∃ wS, wS = (w9.drew.setCells g (j * 8) x.cells).setCells g (p * 8) f.cells := ⟨_, rfl⟩
              rw [← hwS] at HSW ⊢
              clear hwS hth hth2
              go_wp2_with fail
              exact ⟨⟨p, by omega, by first | rfl | simp [hjp], hidn ⟨HSW.out, HAA.out⟩⟩, by simp [intOf]; omega⟩
            · simp only [Act.put, List.setIfInBounds_toArray, List.set_cons_succ, List.set_cons_zero]
              refine wpAnyH_ready (rs := [9]) (by kernel_rfl) (by simp) ?_
              refine rdy_val (i := 9) rfl rfl (some 46) rfl (.agg #[.int .i64 x.nu, .int .i64 x.ge, .int .i64 x.lv, .int .i64 x.rk, .int .i64 x.mn, .int .i64 x.mx, .int .i64 x.bt, .slice x.pa x.pl x.pc]) (w9.drew) (by obtain ⟨q0, q1, q2, q3, q4, q5, q6, q7⟩ := HX9.out; go_simp) (trivial) (fun hHeld => ?_) rdy_nil
              simp only [Act.put, List.setIfInBounds_toArray, List.set_cons_succ, List.set_cons_zero]
              refine drawn_take (i := 14) (v := .pointer (some ⟨g, j * 8, none⟩)) (some 51) rfl rfl (by kernel_rfl) (by kernel_rfl) (by kernel_rfl) (fun _ _ _ h => h) (Or.inl ⟨by kernel_rfl, fun wq hw => by go_simp⟩) hHeld ?_
              simp only [Act.put, List.setIfInBounds_toArray, List.set_cons_succ, List.set_cons_zero]
              refine wpAnyH_ready (rs := [15]) (by kernel_rfl) (by simp) ?_
              refine rdy_unit (i := 15) rfl rfl none rfl (w9.drew.setCells g (j * 8) x.cells) (st_mid (x := .tmp 51) (y := .tmp 46) (by kernel_rfl) (by kernel_rfl) (by kernel_rfl) hth) (trivial) (fun hHeld => ?_) rdy_nil
              simp only [Act.put]
              refine drawn_take (i := 16) (v := .pointer (some ⟨g, p * 8, none⟩)) (some 52) rfl rfl (by kernel_rfl) (by kernel_rfl) (by kernel_rfl) (fun _ _ _ h => h) (Or.inl ⟨by kernel_rfl, fun wq hw => by go_simp⟩) hHeld ?_
              simp only [Act.put, List.setIfInBounds_toArray, List.set_cons_succ, List.set_cons_zero]
              refine wpAnyH_ready (rs := [17]) (by kernel_rfl) (by simp) ?_
              refine rdy_unit (i := 17) rfl rfl none rfl ((w9.drew.setCells g (j * 8) x.cells).setCells g (p * 8) f.cells) (st_mid (x := .tmp 52) (y := .tmp 50) (by kernel_rfl) (by kernel_rfl) (by kernel_rfl) hth2) (trivial) (fun hHeld => ?_) rdy_nil
              simp only [Act.put]
              refine wpAnyH_done (by kernel_rfl) ?_ _
              refine NoPanic.normal ?_
              clear hHeld
              obtain ⟨wS, hwS⟩ : ∃ wS, wS = (w9.drew.setCells g (j * 8) x.cells).setCells g (p * 8) f.cells := ⟨_, rfl⟩
              rw [← hwS] at HSW ⊢
              clear hwS hth hth2
              go_wp2_with fail
              exact ⟨⟨p, by omega, by first | rfl | simp [hjp], hidn ⟨HSW.out, HAA.out⟩⟩, by simp [intOf]; omega⟩
          · skip
            refine drawn_take (i := 15) (v := .bool false) (some 33) rfl rfl (by kernel_rfl) (by kernel_rfl) (by kernel_rfl) (fun _ _ _ h => h) (Or.inl ⟨by kernel_rfl, fun wq hw => by go_simp⟩) hHeld ?_
            simp only [Act.put, List.setIfInBounds_toArray, List.set_cons_succ, List.set_cons_zero]
            refine drawn_take (i := 16) (v := .bool false) (some 34) rfl rfl (by kernel_rfl) (by kernel_rfl) (by kernel_rfl) (fun _ _ _ h => h) (Or.inl ⟨by kernel_rfl, fun wq hw => by go_simp⟩) hHeld ?_
            simp only [Act.put, List.setIfInBounds_toArray, List.set_cons_succ, List.set_cons_zero]
            refine wpAnyH_done (by kernel_rfl) ?_ _
            refine NoPanic.normal ?_
            clear hHeld
            have hfx : ¬ f.rk < x.rk := fun e => hcc (HCZ2.out.2 e)
            have HF : Hid (SortI w w9 g n (sortE (M.take (i + 1)) ++ M.drop (i + 1))) := hidn (by
              have e := insE_at (S.take j) (S.drop j) f hI.out.2 (fun y hy => by
                rw [HSP.out] at hy
                simp at hy
                rw [← hy]
                exact hfx)
              rw [List.take_append_drop] at e
              rw [HN.out, ← HT.out, e, HSP.out]
              simpa using HI9.out)
            clear hcc hfx
            go_wp2_with fail
            exact ⟨⟨i + 1, by omega, by omega, by simp, HF⟩, by simp [intOf]; omega⟩
    · have hlt2 : ¬ (i : Int) < (n : Int) := by omega
      have HF : Hid (SortI w wo g n (sortE M)) := hidn (by
        have h9 := hO.out
        rw [List.take_of_length_le (by rw [hlen.out]; omega), List.drop_of_length_le (by rw [hlen.out]; omega), List.append_nil] at h9
        exact h9)
      go_wp2_with fail
      go_end0
      exact ⟨rfl, HF.out⟩

end Go.Proofs.Ytpbicnpaldfamaa
