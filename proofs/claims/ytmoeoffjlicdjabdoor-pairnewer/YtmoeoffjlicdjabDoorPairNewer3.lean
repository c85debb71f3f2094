/- The walk of dryrotlaw05.PairNewer, a fuse of 3. -/
import Derived.Test.YtmoeoffjlicdjabDoorPairNewer0
namespace Go.Proofs.YtmoeoffjlicdjabDoor
open Go.RowKit Go.Maps
set_option linter.unusedVariables false

set_option maxHeartbeats 4000000 in
theorem newer3 (a0 a1 : Option Addr) (l0 c0 l1 c1 : Nat) (zs ys : List Nat) (fuse : Int) (w : World) (hB0 : Bs w a0 l0 zs) (hB1 : Bs w a1 l1 ys) (hc0 : l0 ≤ c0) (hm0 : c0 ≤ maxLen) (hc1 : l1 ≤ c1) (hm1 : c1 ≤ maxLen) (hT : CrcTab w) (hfu : (IntKind.u64.wrap fuse).tmod 5 = 3) :
    Calls Tryd.prog 5 #[.slice a0 l0 c0, .slice a1 l1 c1, .int .i64 fuse] w fun e w' => e = .returned (.bool true) ∧ Below w.heap.size w w' := by
  obtain ⟨ma, hma⟩ : ∃ m, m = min l0 106 := ⟨_, rfl⟩
  obtain ⟨mb, hmb⟩ : ∃ m, m = min l1 106 := ⟨_, rfl⟩
  have hmn0 : (if (106 : Int) < (l0 : Int) then (106 : Int) else (l0 : Int)) = (ma : Int) := by split <;> omega
  have hmn1 : (if (106 : Int) < (l1 : Int) then (106 : Int) else (l1 : Int)) = (mb : Int) := by split <;> omega
  have hBa := bs_cut hB0 ma (by omega)
  have hBb := bs_cut hB1 mb (by omega)
  obtain ⟨pa, hpa⟩ : ∃ p, p = zs.take ma := ⟨_, rfl⟩
  obtain ⟨pb, hpb⟩ : ∃ p, p = ys.take mb := ⟨_, rfl⟩
  rw [← hpa] at hBa
  rw [← hpb] at hBb
  have hac : (ma : Int) ≤ (c0 : Int) := by omega
  have hbc : (mb : Int) ≤ (c1 : Int) := by omega
  have ha6 : ma ≤ 106 := by omega
  have hb6 : mb ≤ 106 := by omega
  have hpal : pa.length = ma := hBa.1
  have hpbl : pb.length = mb := hBb.1
  obtain ⟨za, hza⟩ : ∃ z, z = frameB (nums (fileA nmX)) 0 5 pa := ⟨_, rfl⟩
  obtain ⟨zb, hzb⟩ : ∃ z, z = frameB (nums (fileB nmX)) 0 5 pa := ⟨_, rfl⟩
  obtain ⟨ya, hya⟩ : ∃ z, z = frameB (nums (fileA nmX)) 0 6 pb := ⟨_, rfl⟩
  obtain ⟨yb, hyb⟩ : ∃ z, z = frameB (nums (fileB nmX)) 0 6 pb := ⟨_, rfl⟩
  have HZA := hidn hza
  have HZB := hidn hzb
  have HYA := hidn hya
  have HYB := hidn hyb
  have HBa := hidn hBa
  have HBb := hidn hBb
  have HPAL := hidn hpal
  have HPBL := hidn hpbl
  have HA6 := hidn ha6
  have HB6 := hidn hb6
  have hsx : nmX.size ≤ 1000 := by decide
  clear hza hzb hya hyb hpa hpb hma hmb hBa hBb hB0 hB1 hpal hpbl ha6 hb6
  go_enter Tryd.func5, Tryd.ntmps5
  go_wp2_with fail
  refine wp_region_noPanic ?_
  refine wp_region_held_drew (S := fun w' => True) (by kernel_rfl) trivial (fun hHeld => ?_)
  refine drawn_take (i := 0) (v := .slice a0 l0 c0) (some 13) rfl rfl (by kernel_rfl) (by kernel_rfl) (by kernel_rfl) (fun _ _ _ h => h) (Or.inl ⟨by kernel_rfl, fun w hw => by go_simp⟩) hHeld ?_
  refine drawn_take (i := 1) (v := .slice a0 l0 c0) (some 14) rfl rfl (by kernel_rfl) (by kernel_rfl) (by kernel_rfl) (fun _ _ _ h => h) (Or.inl ⟨by kernel_rfl, fun w hw => by go_simp⟩) hHeld ?_
  simp only [Act.put, List.setIfInBounds_toArray, List.set_cons_succ, List.set_cons_zero]
  refine drawn_take (i := 2) (v := .int .i64 (l0 : Int)) (some 15) rfl rfl (by kernel_rfl) (by kernel_rfl) (by kernel_rfl) (fun _ _ _ h => h) (Or.inl ⟨by kernel_rfl, fun w hw => by go_simp⟩) hHeld ?_
  simp only [Act.put, List.setIfInBounds_toArray, List.set_cons_succ, List.set_cons_zero]
  refine drawn_take (i := 3) (v := .int .i64 (ma : Int)) (some 16) rfl rfl (by kernel_rfl) (by kernel_rfl) (by kernel_rfl) (fun _ _ _ h => h) (Or.inl ⟨by kernel_rfl, fun w hw => by go_simp⟩) hHeld ?_
  simp only [Act.put, List.setIfInBounds_toArray, List.set_cons_succ, List.set_cons_zero]
  refine drawn_take (i := 4) (v := .slice a0 ma c0) (some 17) rfl rfl (by kernel_rfl) (by kernel_rfl) (by kernel_rfl) (fun _ _ _ h => h) (Or.inl ⟨by kernel_rfl, fun w hw => by go_simp⟩) hHeld ?_
  refine drawn_take (i := 5) (v := .slice a1 l1 c1) (some 18) rfl rfl (by kernel_rfl) (by kernel_rfl) (by kernel_rfl) (fun _ _ _ h => h) (Or.inl ⟨by kernel_rfl, fun w hw => by go_simp⟩) hHeld ?_
  refine drawn_take (i := 6) (v := .slice a1 l1 c1) (some 19) rfl rfl (by kernel_rfl) (by kernel_rfl) (by kernel_rfl) (fun _ _ _ h => h) (Or.inl ⟨by kernel_rfl, fun w hw => by go_simp⟩) hHeld ?_
  simp only [Act.put, List.setIfInBounds_toArray, List.set_cons_succ, List.set_cons_zero]
  refine drawn_take (i := 7) (v := .int .i64 (l1 : Int)) (some 20) rfl rfl (by kernel_rfl) (by kernel_rfl) (by kernel_rfl) (fun _ _ _ h => h) (Or.inl ⟨by kernel_rfl, fun w hw => by go_simp⟩) hHeld ?_
  simp only [Act.put, List.setIfInBounds_toArray, List.set_cons_succ, List.set_cons_zero]
  refine drawn_take (i := 8) (v := .int .i64 (mb : Int)) (some 21) rfl rfl (by kernel_rfl) (by kernel_rfl) (by kernel_rfl) (fun _ _ _ h => h) (Or.inl ⟨by kernel_rfl, fun w hw => by go_simp⟩) hHeld ?_
  simp only [Act.put, List.setIfInBounds_toArray, List.set_cons_succ, List.set_cons_zero]
  refine drawn_take (i := 9) (v := .slice a1 mb c1) (some 22) rfl rfl (by kernel_rfl) (by kernel_rfl) (by kernel_rfl) (fun _ _ _ h => h) (Or.inl ⟨by kernel_rfl, fun w hw => by go_simp⟩) hHeld ?_
  simp only [Act.put, List.setIfInBounds_toArray, List.set_cons_succ, List.set_cons_zero]
  refine drawn_take (i := 10) (v := .slice a0 ma c0) (some 0) rfl rfl (by kernel_rfl) (by kernel_rfl) (by kernel_rfl) (fun _ _ _ h => h) (Or.inl ⟨by kernel_rfl, fun w hw => by go_simp⟩) hHeld ?_
  simp only [Act.put, List.setIfInBounds_toArray, List.set_cons_zero]
  refine drawn_take (i := 11) (v := .slice a1 mb c1) (some 1) rfl rfl (by kernel_rfl) (by kernel_rfl) (by kernel_rfl) (fun _ _ _ h => h) (Or.inl ⟨by kernel_rfl, fun w hw => by go_simp⟩) hHeld ?_
  simp only [Act.put, List.setIfInBounds_toArray, List.set_cons_succ, List.set_cons_zero]
  refine wpAnyH_done (by kernel_rfl) ?_ _
  refine NoPanic.normal ?_
  have hb0 : Below w.heap.size w w.drew := (Below.refl _ _).drew
  obtain ⟨w0, hw0⟩ : ∃ w0, w0 = w.drew := ⟨_, rfl⟩
  rw [← hw0] at hb0
  rw [← hw0]
  clear hw0 hmn0 hmn1 hac hbc hHeld
  go_wp2_with fail
  refine (new_any _ 4 (by omega)).mono ?_
  rintro e w1 ⟨rfl, hD1, hb1, hs1⟩
  have hbw1 : Below w.heap.size w w1 := hb0.trans (hb1.mono hb0.size)
  have hfresh : ∀ {a : Option Addr} {m : Nat} {p : List Nat}, Bs w a m p → BsF (fun k => w0.heap.size ≤ k ∧ k < w0.heap.size + 2) w1 a m p := by
    intro a m p hB
    refine ⟨hB.below hbw1, fun x hx hl hF => ?_⟩
    have e : (x.add 0).block = x.block := by unfold Addr.add; split <;> rfl
    have := block_lt_of_cell (hB.2.2.2.2 x hx 0 hl)
    have := hF.1
    have := hb0.size
    omega
  have hBa1 := hfresh HBa.out
  have hBb1 := hfresh HBb.out
  have hS1 : Sound5 w1 (fun k => w0.heap.size ≤ k ∧ k < w0.heap.size + 2) := ⟨hT.below hbw1, fun hF => by have := hT.lt; have := hF.1; have := hb0.size; omega, fun k hk => by rw [hs1]; exact hk.2⟩
  have HS1 := hidn hS1
  have HBa1 := hidn hBa1
  have HBb1 := hidn hBb1
  clear hfresh hBa1 hBb1 hS1
  go_wp2_with fail
  refine (put_new _ _ _ 0 _ 4 hD1 HS1.out rfl nmX hsx nmX_A nmX_B rfl rfl 5 (by omega) a0 ma c0 pa HBa1.out HA6.out za zb HZA HZB (by unfold maxLen; omega) (by omega) (by omega)).mono ?_
  rw [full_new, full_new]
  rintro e w2 ⟨rfl, F2, hD2, hG2⟩
  have HD2 := hidn hD2
  have HG2 := hidn hG2
  clear hD2 hG2 hD1
  have hwn : IntKind.i64.wrap 3 = 3 := by decide
  go_wp2_with fail
  refine (fuse_any _ _ _ _ _ _ _ HD2.out 3).mono ?_
  rintro e w3 ⟨rfl, hD3, hG3⟩
  have HD3 := hidn hD3
  have HG3 := hidn (HG2.out.trans hG3)
  clear hD3 hG3
  have hAt : (upd (upd (fun _ => []) (fileA nmX).data.toList [full za]) (fileB nmX).data.toList [full zb]) (fileA nmX).data.toList = [full za] := by rw [upd_other _ _ _ _ (Ne.symm (file_ne nmX)), upd_same]
  have hBt : (upd (upd (fun _ => []) (fileA nmX).data.toList [full za]) (fileB nmX).data.toList [full zb]) (fileB nmX).data.toList = [full zb] := by rw [upd_same]
  have hEt : (upd (upd (fun _ => []) (fileA nmX).data.toList [full za]) (fileB nmX).data.toList [full zb]) [] = [] := by rw [upd_other _ _ _ _ (fil_empty nmX).2, upd_other _ _ _ _ (fil_empty nmX).1]
  go_wp2_with fail
  refine (put_old3 _ _ _ _ _ _ HD3.out (HS1.out.gr HG3.out) hEt nmX hsx nmX_A nmX_B (full za) (full zb) hAt hBt 6 (by omega) a1 mb c1 pb (HBb1.out.gr HG3.out) HB6.out ya yb HYA HYB).mono ?_
  rintro e w4 ⟨rfl, hD4, hG4⟩
  have HD4 := hidn hD4
  have HG4 := hidn (HG3.out.trans hG4)
  clear hD4 hG4 hAt hBt hEt
  go_wp2_with fail
  refine (crash_disk _ _ _ _ _ _ _ HD4.out (HS1.out.gr HG4.out).lt none 0 0 (fun _ _ => 0) (firstKept_none _ none 0)).mono ?_
  rintro e w5 ⟨rfl, hD5, hG5⟩
  have HD5 := hidn hD5
  have HG5 := hidn (HG4.out.trans hG5)
  clear hD5 hG5
  have HL5 := hidn (HG5.out.1.below (n := w0.heap.size) hb1.size (fun k hk => hk.1))
  go_wp2_with fail
  refine (get_first _ _ _ _ _ _ _ HD5.out (HS1.out.gr HG5.out).tab (by show fellL _ ((upd (upd (upd (upd (fun _ => []) (fileA nmX).data.toList [full za]) (fileB nmX).data.toList [full zb]) (fileA nmX).data.toList [((full za).wrote ya).synced]) (fileB nmX).data.toList [(full zb).wrote yb]) []) = []; rw [upd_other _ _ _ _ (fil_empty nmX).2, upd_other _ _ _ _ (fil_empty nmX).1, upd_other _ _ _ _ (fil_empty nmX).2, upd_other _ _ _ _ (fil_empty nmX).1]; rfl) nmX (by decide) ((full ya).fell 0) (((full zb).wrote yb).fell 0)
    (by show fellL _ ((upd (upd (upd (upd (fun _ => []) (fileA nmX).data.toList [full za]) (fileB nmX).data.toList [full zb]) (fileA nmX).data.toList [((full za).wrote ya).synced]) (fileB nmX).data.toList [(full zb).wrote yb]) (fileA nmX).data.toList) = _; rw [show (upd (upd (upd (upd (fun _ => []) (fileA nmX).data.toList [full za]) (fileB nmX).data.toList [full zb]) (fileA nmX).data.toList [((full za).wrote ya).synced]) (fileB nmX).data.toList [(full zb).wrote yb]) (fileA nmX).data.toList = [((full za).wrote ya).synced] from (by rw [upd_other _ _ _ _ (Ne.symm (file_ne nmX)), upd_same]), fellL_one, full_again])
    (by show fellL _ ((upd (upd (upd (upd (fun _ => []) (fileA nmX).data.toList [full za]) (fileB nmX).data.toList [full zb]) (fileA nmX).data.toList [((full za).wrote ya).synced]) (fileB nmX).data.toList [(full zb).wrote yb]) (fileB nmX).data.toList) = _; rw [show (upd (upd (upd (upd (fun _ => []) (fileA nmX).data.toList [full za]) (fileB nmX).data.toList [full zb]) (fileA nmX).data.toList [((full za).wrote ya).synced]) (fileB nmX).data.toList [(full zb).wrote yb]) (fileB nmX).data.toList = [(full zb).wrote yb] from (by rw [upd_same]), fellL_one])
    ya zb (hidn (rd_full _).symm) (hidn (rd_waits _ _).symm) pb pa 6 5 mb ma (hidn (by rw [HYA.out]; exact open_frame0 _ _ _ (by omega) (by rw [HPBL.out]; exact HB6.out))) (hidn (by rw [HZB.out]; exact open_frame0 _ _ _ (by omega) (by rw [HPAL.out]; exact HA6.out))) HPBL.out HPAL.out HBb.out.2.2.1 HBa.out.2.2.1 (by omega)).mono ?_
  rintro e w6 ⟨a6, c6, rfl, hB6, hb6⟩
  have hE6 : Bs w6 a1 mb pb := (HBb1.out.gr HG5.out).1.below hb6
  go_wp2_with fail
  refine (equal_any a6 a1 mb c6 mb c1 pb pb _ hB6 hE6).mono ?_
  rintro e w7 ⟨rfl, rfl⟩
  rw [decide_eq_true (rfl : pb = pb)]
  go_wp2
  go_ret
  have hs0' : w.heap.size ≤ w0.heap.size := hb0.size
  exact ⟨rfl, (hbw1.trans (HL5.out.mono hs0')).trans (hb6.mono (Nat.le_trans hbw1.size HL5.out.size))⟩
end Go.Proofs.YtmoeoffjlicdjabDoor
