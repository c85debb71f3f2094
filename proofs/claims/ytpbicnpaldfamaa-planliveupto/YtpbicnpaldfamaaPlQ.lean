/- plan.heirsOf, isReplaced. -/
import Derived.Test.YtpbicnpaldfamaaPlP
import Derived.Test.YtpbicnpaldfamaaPlOpen
import Derived.Deep.RegionWith
namespace Go.Proofs.Ytpbicnpaldfamaa
open Go.RowKit Go.Joins Go.Maps
set_option linter.unusedVariables false

/-- The heirs that one block gives. -/
def heirsAt (l : List Fo) (gen : Int) (k : Nat) : List (Int × Int × Int) := match l[k]? with
  | some o => if o.ge ≤ gen then o.ps.map (fun p => (p, o.nu, (k : Int))) else []
  | none => []

def heirsTo (l : List Fo) (gen : Int) (k : Nat) : List (Int × Int × Int) := (List.range k).flatMap (heirsAt l gen)

theorem heirsTo_succ (l : List Fo) (gen : Int) (k : Nat) : heirsTo l gen (k + 1) = heirsTo l gen k ++ heirsAt l gen k := by
  unfold heirsTo; rw [List.range_succ, List.flatMap_append]; simp

theorem heirsTo_len (l : List Fo) (gen : Int) (h : ∀ d ∈ l, d.ps.length ≤ 1048576) (k : Nat) : (heirsTo l gen k).length ≤ k * 1048576 := by
  induction k with
  | zero => simp [heirsTo]
  | succ k ih =>
    rw [heirsTo_succ, List.length_append]
    have : (heirsAt l gen k).length ≤ 1048576 := by
      unfold heirsAt
      split
      · rename_i o ho
        split
        · rw [List.length_map]; exact h o (List.mem_of_getElem? ho)
        · simp
      · simp
    omega

set_option maxHeartbeats 300000 in
set_option maxRecDepth 100000 in
theorem heirsOf_any (a : Option Addr) (len cap : Nat) (l : List Fo) (gen : Int) (w : World) (h : Fls w a len l) (hW : FoW l) (hm : len ≤ 14) (hps : ∀ d ∈ l, d.pl ≤ 1048576) :
    Calls Try.prog 11 #[.slice a len cap, .int .i64 gen] w fun e w' => e = .returned (.map (some w.heap.size)) ∧ (∃ N, HMp w' w.heap.size N w.heap.size (heirsTo l gen len)) ∧ Below w.heap.size w w' := by
  have hlen := hidn h.1
  have hmk : (Instr.makeMap 33 none).run Try.prog w = .ok (.map (some w.heap.size)) (w.alloc (.map #[] 0)) := rfl
  have HPS := hidn hps
  have HLB : Hid (∀ k, (heirsTo l gen k).length ≤ k * 1048576) := hidn (heirsTo_len l gen (fun d hd => by rw [(h.2.2.2.1 d hd).1.1]; exact hps d hd))
  obtain ⟨bm, hbm⟩ : ∃ bm, bm = w.heap.size := ⟨_, rfl⟩
  have HBM := hidn hbm
  rw [← hbm] at hmk ⊢
  have hM0 : HMp (w.alloc (.map #[] 0)) bm 0 bm [] := by
    rw [hbm]
    exact ⟨.map [], fun _ => 0, fun _ => 0, World.ownsMap_made w _ _ _, fun p _ => rfl, fun p hp => absurd rfl hp, fun p q hp => absurd rfl hp⟩
  have b0 : Below bm w (w.alloc (.map #[] 0)) := by rw [hbm]; exact (Below.refl _ w).alloc (Nat.le_refl _) _
  have HM0 := hidn hM0
  clear hps hbm hM0
  go_enter Try.func11, Try.ntmps11
  go_wp2_with fail
  go_loopw [13] (fun iv wr => ∃ (k : Nat), k ≤ len ∧ iv = .int .i64 (k : Int) ∧ Hid (HMp wr bm (heirsTo l gen k).length bm (heirsTo l gen k)) ∧ Below bm w wr) (fun iv _ => len - (intOf iv).toNat)
  case atStart => exact ⟨0, Nat.zero_le _, rfl, HM0, b0⟩
  case round =>
    obtain ⟨wo, hwo⟩ : ∃ wo, wo = wr := ⟨wr, rfl⟩
    subst hwo
    obtain ⟨k, hk, rfl, hO, hb⟩ := hrel
    by_cases hlt : k < len
    · have hlt2 : (k : Int) < (len : Int) := by omega
      obtain ⟨d, hd⟩ : ∃ d, l[k]? = some d := ⟨_, List.getElem?_eq_getElem (by rw [hlen.out]; exact hlt)⟩
      have hbw : Below w.heap.size w wo := by rw [← HBM.out]; exact hb
      obtain ⟨b, off, rfl, hbk, c0, c1, c2, c3, c4, c5, c6, c7, hms⟩ := (h.below hbw).at hd
      have hdm := List.mem_of_getElem? hd
      have HI0 := hidn (h.2.2.2.1 d hdm).1
      have HAT : Hid (heirsAt l gen k = if d.ge ≤ gen then d.ps.map (fun p => (p, d.nu, (k : Int))) else []) := hidn (by unfold heirsAt; rw [hd])
      obtain ⟨wA, hwA⟩ : ∃ wA, wA = wo.alloc (.cells #[.int .i64 d.nu, .int .i64 d.ge, .int .i64 d.lv, .int .i64 d.rk, .int .i64 d.mn, .int .i64 d.mx, .int .i64 d.bt, .slice d.pa d.pl d.pc] 31) := ⟨_, rfl⟩
      have bA : Below wo.heap.size wo wA := by rw [hwA]; exact (Below.refl _ wo).alloc (Nat.le_refl _) _
      have BA := hb.trans (bA.mono (by have := hb.size; have := HBM.out; omega))
      have qA : wA.heap[wo.heap.size]? = some (.cells #[.int .i64 d.nu, .int .i64 d.ge, .int .i64 d.lv, .int .i64 d.rk, .int .i64 d.mn, .int .i64 d.mx, .int .i64 d.bt, .slice d.pa d.pl d.pc] 31 (0, 0)) := by rw [hwA]; exact heap_alloc_new wo _
      have hAs : wo.heap.size < wA.heap.size := (Array.getElem?_eq_some_iff.1 qA).1
      have hMA := hO.out.below bA
      have hPA := hms.1.below bA
      have HWA := hidn hwA
      have hwf := (hW d hdm).2
      have hpl := HPS.out d hdm
      have HWF := hidn hwf
      clear hwA hd hdm hwf
      obtain ⟨nu, ge, lv, rk, mn, mx, bt, pa, pl, pc, ps⟩ := d
      simp only at c0 c1 c2 c3 c4 c5 c6 c7 hms HAT HWF hpl HI0 qA HWA hPA
      by_cases hg : ge ≤ gen
      · have hg' : ¬ (gen < ge) := by omega
        have HA2 : Hid (heirsAt l gen k = ps.map (fun p => (p, nu, (k : Int)))) := hidn (by rw [HAT.out, if_pos hg])
        have HMA := hidn hMA
        have HQA := hidn qA
        have hpsl := hidn hPA.1
        clear hMA qA hg HAT
        go_wp2_with fail
        rw [← HWA.out]
        go_loopw [25] (fun iv wr => ∃ (j : Nat), j ≤ pl ∧ iv = .int .i64 (j : Int) ∧ Hid (HMp wr bm (heirsTo l gen k ++ (ps.take j).map (fun p => (p, nu, (k : Int)))).length bm (heirsTo l gen k ++ (ps.take j).map (fun p => (p, nu, (k : Int))))) ∧ Hid (wr.heap[wo.heap.size]? = some (.cells #[.int .i64 nu, .int .i64 ge, .int .i64 lv, .int .i64 rk, .int .i64 mn, .int .i64 mx, .int .i64 bt, .slice pa pl pc] 31 (0, 0))) ∧ Below bm w wr) (fun iv _ => pl - (intOf iv).toNat)
        case atStart => exact ⟨0, Nat.zero_le _, rfl, by simpa using HMA, HQA, BA⟩
        case round =>
          obtain ⟨j, hj, rfl, hM, hQ, hb2⟩ := hrel
          have hbw2 : Below w.heap.size w wr := by rw [← HBM.out]; exact hb2
          by_cases hjl : j < pl
          · have hjl2 : (j : Int) < (pl : Int) := by omega
            obtain ⟨p, hp⟩ : ∃ p, ps[j]? = some p := ⟨_, List.getElem?_eq_getElem (by rw [hpsl.out]; exact hjl)⟩
            obtain ⟨pb, po, rfl, cp⟩ := (HI0.out.below hbw2).at hp
            have x0 : wr.cell? ⟨wo.heap.size, 0, none⟩ = some (.int .i64 nu) := cell_of_row _ _ _ _ _ _ hQ.out
            have hwp := HWF.out p (List.mem_of_getElem? hp)
            have HT : Hid ((ps.take (j + 1)).map (fun p => (p, nu, (k : Int))) = (ps.take j).map (fun p => (p, nu, (k : Int))) ++ [(p, nu, (k : Int))]) := hidn (by rw [List.take_add_one, hp, List.map_append]; rfl)
            obtain ⟨wB, hwB⟩ : ∃ wB, wB = wr.alloc (.cells #[.int .i64 nu, .int .i64 (k : Int)] 37) := ⟨_, rfl⟩
            have bB : Below wr.heap.size wr wB := by rw [hwB]; exact (Below.refl _ wr).alloc (Nat.le_refl _) _
            have qB : wB.heap[wr.heap.size]? = some (.cells #[.int .i64 nu, .int .i64 (k : Int)] 37 (0, 0)) := by rw [hwB]; exact heap_alloc_new wr _
            have hbs : bm ≤ wr.heap.size := by have := hb2.size; have := HBM.out; omega
            have hEl : (heirsTo l gen k ++ (ps.take j).map (fun p => (p, nu, (k : Int)))).length + 1 ≤ 100000000 := by
              rw [List.length_append, List.length_map, List.length_take]
              have := HLB.out k
              omega
            obtain ⟨v, v', w1, w2, ⟨va, vc, hve⟩, hlk, hap, hup, hM2, hb3, hkp⟩ := (hM.out.below bB).step (w0 := wr) (Nat.le_refl _) (Nat.le_trans hbs bB.size) p nu (k : Int) hwp hEl (by unfold maxLen; omega) wr.heap.size qB (bB.block _ hM.out.lt).symm
            have hE2 : heirsTo l gen k ++ (ps.take j).map (fun p => (p, nu, (k : Int))) ++ [(p, nu, (k : Int))] = heirsTo l gen k ++ (ps.take (j + 1)).map (fun p => (p, nu, (k : Int))) := by rw [HT.out, List.append_assoc]
            have HM2 : Hid (HMp w2 bm (heirsTo l gen k ++ (ps.take (j + 1)).map (fun p => (p, nu, (k : Int)))).length bm (heirsTo l gen k ++ (ps.take (j + 1)).map (fun p => (p, nu, (k : Int))))) := hidn (by
              rw [hE2] at hM2
              rw [← hE2, List.length_append]
              rw [← hE2] at hM2
              exact hM2)
            have HQ2 : Hid (w2.heap[wo.heap.size]? = some (.cells #[.int .i64 nu, .int .i64 ge, .int .i64 lv, .int .i64 rk, .int .i64 mn, .int .i64 mx, .int .i64 bt, .slice (some ⟨pb, po, none⟩) pl pc] 31 (0, 0))) := hidn (by
              have q8 := (bB.block _ (Array.getElem?_eq_some_iff.1 hQ.out).1).trans hQ.out
              exact (hkp _ _ _ q8 (by decide)).trans q8)
            have B3 : Below bm w w2 := (hb2.trans (bB.mono hbs)).trans hb3
            have HWB := hidn hwB
            have HAP := hidn hap
            obtain ⟨m9, hm9⟩ : ∃ m, m = (getE (heirsTo l gen k ++ (ps.take j).map (fun p => (p, nu, (k : Int)))) p).length := ⟨_, rfl⟩
            rw [← hm9] at hve
            subst hve
            clear hm9 hM hQ hM2 hb3 hkp hE2 HT hwB bB qB hEl hap hp
            go_wp2_with (at_builtin; rw [← HWB.out]; refine wpList_app_run2 rfl _ _ 44 44 rfl rfl (.slice va m9 vc) (.slice (some ⟨wr.heap.size, 0, none⟩) 1 1) v' rfl rfl HAP.out ?_; clear HAP)
            go_wp2_with fail
            exact ⟨⟨j + 1, by omega, by simp, HM2, HQ2, B3⟩, by simp [intOf]; omega⟩
          · have hjl2 : ¬ (j : Int) < (pl : Int) := by omega
            have HP : Hid (HMp wr bm (heirsTo l gen (k + 1)).length bm (heirsTo l gen (k + 1))) := hidn (by
              rw [heirsTo_succ, HA2.out]
              have h9 := hM.out
              rw [List.take_of_length_le (by rw [hpsl.out]; omega)] at h9
              exact h9)
            go_wp2_with fail
            exact ⟨⟨k + 1, by omega, by simp, HP, hb2⟩, by simp [intOf]; omega⟩
      · have hg' : gen < ge := by omega
        have HP : Hid (HMp wA bm (heirsTo l gen (k + 1)).length bm (heirsTo l gen (k + 1))) := hidn (by rw [heirsTo_succ, HAT.out, if_neg hg, List.append_nil]; exact hMA)
        clear hMA qA hg HAT
        go_wp2_with fail
        rw [← HWA.out]
        exact ⟨⟨k + 1, by omega, by simp, HP, BA⟩, by simp [intOf]; omega⟩
    · have hlt2 : ¬ (k : Int) < (len : Int) := by omega
      have hkl : k = len := by omega
      subst hkl
      go_wp2_with fail
      exact bodyPost_ret (v := .map (some bm)) (by simp [results, Try.results11, go_sem]) rfl ⟨rfl, ⟨_, hO.out⟩, hb⟩

end Go.Proofs.Ytpbicnpaldfamaa
