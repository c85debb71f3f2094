/- AnchorBack: the law's walk. -/
import Derived.Test.YtoopdmfijbbfdaaDoorAnG
namespace Go.Proofs.YtoopdmfijbbfdaaDoor
open Go.RowKit Go.Maps
set_option linter.unusedVariables false

set_option maxHeartbeats 4000000 in
theorem refCan_any (w : World) (y0 y1 y2 y3 y4 y5 y6 y7 y8 y9 : Int) :
    Calls Tryd.prog 14 #[.agg #[.int .i64 y0, .int .i64 y1, .int .i64 y2, .int .i64 y3, .int .i64 y4, .int .i64 y5, .int .i64 y6, .int .i64 y7, .int .i64 y8, .int .i64 y9]] w fun e w' => e = .returned (.bool (ancB y0 y1 y2 y3 y4 y7 y8 y9)) ∧ Below w.heap.size w w' := by
  obtain ⟨R1, hR1⟩ : ∃ R, R = [y0, y1, y3, y8].all (inN 1) := ⟨_, rfl⟩
  obtain ⟨R2, hR2⟩ : ∃ R, R = [y2, y4, y7, y9].all (inN 0) := ⟨_, rfl⟩
  have hR : ancB y0 y1 y2 y3 y4 y7 y8 y9 = (R1 && R2) := by rw [hR1, hR2]; rfl
  rw [hR]
  have HR1 := hidn hR1
  have HR2 := hidn hR2
  clear hR hR1 hR2
  go_enter Tryd.func14, Tryd.ntmps14
  go_wp2_with fail
  have HI1 := hidn (ints_at (w.alloc (.cells #[.int .i64 y0, .int .i64 y1, .int .i64 y2, .int .i64 y3, .int .i64 y4, .int .i64 y5, .int .i64 y6, .int .i64 y7, .int .i64 y8, .int .i64 y9] 23)) (w.heap.size + 1) (by simp only [World.size_alloc]) [y0, y1, y3, y8] 3 (0, 0))
  have HB1 := hidn (below2 w (.cells #[.int .i64 y0, .int .i64 y1, .int .i64 y2, .int .i64 y3, .int .i64 y4, .int .i64 y5, .int .i64 y6, .int .i64 y7, .int .i64 y8, .int .i64 y9] 23) (.cells #[.int .i64 y0, .int .i64 y1, .int .i64 y3, .int .i64 y8] 3))
  have HA1 := hidn (alloc_at1 w (.cells #[.int .i64 y0, .int .i64 y1, .int .i64 y2, .int .i64 y3, .int .i64 y4, .int .i64 y5, .int .i64 y6, .int .i64 y7, .int .i64 y8, .int .i64 y9] 23) (.cells #[.int .i64 y0, .int .i64 y1, .int .i64 y3, .int .i64 y8] 3))
  simp only [List.map_cons, List.map_nil] at HI1
  generalize ((w.alloc (.cells #[.int .i64 y0, .int .i64 y1, .int .i64 y2, .int .i64 y3, .int .i64 y4, .int .i64 y5, .int .i64 y6, .int .i64 y7, .int .i64 y8, .int .i64 y9] 23)).alloc (.cells #[.int .i64 y0, .int .i64 y1, .int .i64 y3, .int .i64 y8] 3)) = W1 at *
  go_loopw [17] (fun iv wr => ∃ k : Nat, k ≤ 4 ∧ iv = .int .i64 (k : Int) ∧ Hid (([y0, y1, y3, y8].take k).all (inN 1) = true) ∧ wr = W1) (fun iv _ => 4 - (intOf iv).toNat)
  case atStart => exact ⟨0, Nat.zero_le _, rfl, hidn rfl, rfl⟩
  case round =>
    obtain ⟨k, hk, rfl, HA, rfl⟩ := hrel
    by_cases hlt : k < 4
    · have hlt2 : (k : Int) < 4 := by omega
      obtain ⟨x, hx⟩ : ∃ x, [y0, y1, y3, y8][k]? = some x := ⟨_, List.getElem?_eq_getElem (by simpa using hlt)⟩
      have hcx := HI1.out k x hx
      rw [Nat.zero_add] at hcx
      have HX := hidn hx
      clear hx
      by_cases h1 : x < 1
      · have HF : Hid (R1 = false) := hidn (by rw [HR1.out]; exact all_take_no HX.out (inN_low h1))
        have d1 : decide (x < 1) = true := by simpa using h1
        go_wp2
        go_ret
        rw [HF.out]
        exact ⟨rfl, HB1.out⟩
      · have d1 : decide (x < 1) = false := by simpa using h1
        by_cases h2 : 4611686018427387904 < x
        · have HF : Hid (R1 = false) := hidn (by rw [HR1.out]; exact all_take_no HX.out (inN_high h2))
          have d2 : decide (4611686018427387904 < x) = true := by simpa using h2
          go_wp2
          go_ret
          rw [HF.out]
          exact ⟨rfl, HB1.out⟩
        · have d2 : decide (4611686018427387904 < x) = false := by simpa using h2
          have HA2 := hidn (all_take_yes HX.out HA.out (inN_yes (by omega) (by omega)))
          go_wp2
          go_roundw
          case rel => exact ⟨k + 1, hlt, by first | rfl | go_num | simp, HA2, by trivial⟩
          case measure => simp [intOf]; omega
    · obtain rfl : k = 4 := by omega
      have HF : Hid (R1 = true) := hidn (by rw [HR1.out]; exact HA.out)
      have HF1 := HF
      clear HF HA
      obtain ⟨hc0, hc1, hc2, hc3, hc4, hc5, hc6, hc7, hc8, hc9⟩ := ten_cells HA1.out
      have HI2 := hidn (ints_at wr wr.heap.size rfl [y2, y4, y7, y9] 3 (0, 0))
      have HB2 := hidn (HB1.out.alloc HB1.out.size (.cells #[.int .i64 y2, .int .i64 y4, .int .i64 y7, .int .i64 y9] 3))
      simp only [List.map_cons, List.map_nil] at HI2
      go_wp2_with fail
      generalize wr.alloc (.cells #[.int .i64 y2, .int .i64 y4, .int .i64 y7, .int .i64 y9] 3) = W2 at *
      clear hc0 hc1 hc2 hc3 hc4 hc5 hc6 hc7 hc8 hc9
      go_loopw [38] (fun iv wr => ∃ k : Nat, k ≤ 4 ∧ iv = .int .i64 (k : Int) ∧ Hid (([y2, y4, y7, y9].take k).all (inN 0) = true) ∧ wr = W2) (fun iv _ => 4 - (intOf iv).toNat)
      case atStart => exact ⟨0, Nat.zero_le _, rfl, hidn rfl, rfl⟩
      case round =>
        obtain ⟨k, hk, rfl, HA, rfl⟩ := hrel
        by_cases hlt : k < 4
        · have hlt2 : (k : Int) < 4 := by omega
          obtain ⟨x, hx⟩ : ∃ x, [y2, y4, y7, y9][k]? = some x := ⟨_, List.getElem?_eq_getElem (by simpa using hlt)⟩
          have hcx := HI2.out k x hx
          rw [Nat.zero_add] at hcx
          have HX := hidn hx
          clear hx
          by_cases h1 : x < 0
          · have HF : Hid (R2 = false) := hidn (by rw [HR2.out]; exact all_take_no HX.out (inN_low h1))
            have d1 : decide (x < 0) = true := by simpa using h1
            go_wp2
            go_ret
            rw [HF.out]
            exact ⟨by rw [HF1.out]; rfl, HB2.out⟩
          · have d1 : decide (x < 0) = false := by simpa using h1
            by_cases h2 : 4611686018427387904 < x
            · have HF : Hid (R2 = false) := hidn (by rw [HR2.out]; exact all_take_no HX.out (inN_high h2))
              have d2 : decide (4611686018427387904 < x) = true := by simpa using h2
              go_wp2
              go_ret
              rw [HF.out]
              exact ⟨by rw [HF1.out]; rfl, HB2.out⟩
            · have d2 : decide (4611686018427387904 < x) = false := by simpa using h2
              have HA2 := hidn (all_take_yes HX.out HA.out (inN_yes (by omega) (by omega)))
              go_wp2
              go_roundw
              case rel => exact ⟨k + 1, hlt, by first | rfl | go_num | simp, HA2, by trivial⟩
              case measure => simp [intOf]; omega
        · obtain rfl : k = 4 := by omega
          have HF : Hid (R2 = true) := hidn (by rw [HR2.out]; exact HA.out)
          go_wp2
          go_ret
          rw [HF1.out, HF.out]
          exact ⟨rfl, HB2.out⟩

set_option maxRecDepth 100000 in
set_option maxHeartbeats 4000000 in
theorem anchorBack_walk (y0 y1 y2 y3 y4 y5 y6 y7 y8 y9 : Int) (hr : ∀ x ∈ [y0, y1, y2, y3, y4, y5, y6, y7, y8, y9], -9223372036854775808 ≤ x ∧ x ≤ 9223372036854775807) (w : World) (hT : CrcTab w) :
    Calls Tryd.prog 4 #[.agg #[.int .i64 y0, .int .i64 y1, .int .i64 y2, .int .i64 y3, .int .i64 y4, .int .i64 y5, .int .i64 y6, .int .i64 y7, .int .i64 y8, .int .i64 y9]] w fun e w' => e = .returned (.bool true) ∧ Below w.heap.size w w' := by
  obtain ⟨i0, z0, hi, hz0, hzi1, hzi2, hzc⟩ := byInfoA
  have HT := hidn hT
  have HR := hidn hr
  clear hT hr
  cases hcan : ancB y0 y1 y2 y3 y4 y7 y8 y9 with
  | false =>
    have HE := hidn encode_no
    have HRC := hidn refCan_any
    have HCN := hidn hcan
    clear hcan
    go_enter Tryd.func4, Tryd.ntmps4
    go_wp2_with fail
    refine (HE.out _ y0 y1 y2 y3 y4 y5 y6 y7 y8 y9 HCN.out).mono ?_
    rintro e w1 ⟨rfl, hb1⟩
    have HB1 := hidn ((below1 w _).trans (hb1.mono (below1 w _).size))
    obtain ⟨hc0, hc1, hc2, hc3, hc4, hc5, hc6, hc7, hc8, hc9⟩ := ten_cells ((hb1.block w.heap.size (by rw [World.size_alloc]; omega)).trans (heap_alloc_new w _))
    clear hb1
    go_wp2_with fail
    refine (HRC.out _ y0 y1 y2 y3 y4 y5 y6 y7 y8 y9).mono ?_
    rw [HCN.out]
    rintro e w2 ⟨rfl, hb2⟩
    have HB2 := hidn (HB1.out.trans (hb2.mono HB1.out.size))
    clear hb2 hc0 hc1 hc2 hc3 hc4 hc5 hc6 hc7 hc8 hc9
    go_wp2_with fail
    refine (awake17_any _ (HT.out.below HB2.out)).mono ?_
    rintro e w3 ⟨rfl, hb3⟩
    have HB3 := hidn (HB2.out.trans (hb3.mono HB2.out.size))
    clear hb3
    go_wp2
    go_ret
    exact ⟨rfl, HB3.out⟩
  | true =>
    have HE := hidn encode_yes
    have HDY := hidn decode_yes
    have HDL := hidn decode_len
    have HCN := hidn hcan
    have hfw := fields_words [y0, y1, y2, y3, y4, y5, y6, y7, y8, y9] rfl HR.out
    have hpl : (wordsB [y0, y1, y2, y3, y4, y5, y6, y7, y8, y9]).length = 80 := by rw [wordsB_length]; rfl
    have hpz : ∀ x ∈ wordsB [y0, y1, y2, y3, y4, y5, y6, y7, y8, y9], x < 256 := wordsB_lt _
    generalize hp : wordsB [y0, y1, y2, y3, y4, y5, y6, y7, y8, y9] = p at *
    have HP := hidn hp
    have HW := hidn (And.intro hfw (And.intro hpl hpz))
    clear hcan hfw hpl hpz hp
    go_enter Tryd.func4, Tryd.ntmps4
    go_wp2_with fail
    refine (HE.out _ y0 y1 y2 y3 y4 y5 y6 y7 y8 y9 HCN.out).mono ?_
    rw [HP.out]
    rintro e w1 ⟨v1, rfl, hown1, hb1⟩
    have HB1 := hidn ((below1 w _).trans (hb1.mono (below1 w _).size))
    have HA1 := hidn ((hb1.block w.heap.size (by rw [World.size_alloc]; omega)).trans (heap_alloc_new w _))
    have hs1 : w.heap.size + 1 ≤ w1.heap.size := by have := hb1.size; rw [World.size_alloc] at this; exact this
    obtain ⟨b, cap, rfl, hcp, hcell⟩ := own_80 hown1 HW.out.2.1
    have hbb := hown1.lt b rfl
    rw [World.size_alloc] at hbb
    have HO1 := hidn (own_monoA hown1 (base' := w.heap.size) (by rw [World.size_alloc]; omega))
    have HDe := hidn (HDY.out w1 b 0 cap p HW.out.2.1 HW.out.2.2 hcp hcell y0 y1 y2 y3 y4 y5 y6 y7 y8 y9 HW.out.1 HCN.out)
    clear hb1 hown1 hcell HDY HE
    go_wp2_with fail
    refine HDe.out.mono ?_
    clear HDe
    rintro e w2 ⟨rfl, hb2⟩
    have HB2 := hidn (HB1.out.trans (hb2.mono HB1.out.size))
    have HA2 := hidn ((hb2.block w.heap.size (by omega)).trans HA1.out)
    have hs2 : w.heap.size + 1 ≤ w2.heap.size := by have := hb2.size; omega
    have hs12 := hb2.size
    have hO2 := own_belowA HO1.out hb2
    have hbX := below2 w2 (.cells #[.int .i64 y0, .int .i64 y1, .int .i64 y2, .int .i64 y3, .int .i64 y4, .int .i64 y5, .int .i64 y6, .int .i64 y7, .int .i64 y8, .int .i64 y9] 23) (.cells #[.int .u8 0] 5)
    have hO3 := own_belowA hO2 hbX
    have hb23 := HB2.out.trans (hbX.mono HB2.out.size)
    obtain ⟨v3, w3, hrun, hown3, hgr3⟩ := appAny ((w2.alloc (.cells #[.int .i64 y0, .int .i64 y1, .int .i64 y2, .int .i64 y3, .int .i64 y4, .int .i64 y5, .int .i64 y6, .int .i64 y7, .int .i64 y8, .int .i64 y9] 23)).alloc (.cells #[.int .u8 0] 5)) w.heap.size 24 24 5 i0 z0 1 1 Tryd.underlying24 hi hz0 hzi1 hzi2 hzc (by decide) (.slice (some ⟨b, 0, none⟩) 80 cap) 80 (vb p) hO3 hb23.size (some ⟨w2.heap.size + 1, 0, none⟩) 1 1 [.int .u8 0] rfl (fun e => by cases e) (fun x hx j u hu => by
      cases hx
      match j, hu with
      | 0, hu => cases hu; rw [add_none]; exact cell_of_row _ _ _ _ _ _ (alloc_at2 _ _ _)) (fun u hu => by simp at hu; subst hu; rfl) (by unfold maxLen; omega) (by omega)
    have HB3 : Hid (Below w.heap.size w w3) := hidn (hb23.grown hgr3 hb23.size (fun k hk => (hO3.lt k hk).1))
    have HA3 := hidn ((hgr3.block w.heap.size (by rw [World.size_alloc, World.size_alloc]; omega) (fun e => by simp [Value.ownBlock] at e; omega)).trans ((hbX.block w.heap.size (by omega)).trans HA2.out))
    have HX3 := hidn ((hgr3.block w2.heap.size (by rw [World.size_alloc, World.size_alloc]; omega) (fun e => by simp [Value.ownBlock] at e; omega)).trans (alloc_at1 w2 _ _))
    have hs3 : w2.heap.size + 2 ≤ w3.heap.size := by have := hgr3.size; rw [World.size_alloc, World.size_alloc] at this; exact this
    obtain ⟨va, vc, rfl⟩ := own_sliceG hown3
    have HDe := hidn (HDL.out w3 va 81 vc (by omega) (by unfold maxLen; omega))
    have HRUN := hidn hrun
    clear hrun hown3 hgr3 hO2 hO3 hb2 hb23 hbX HDL
    go_wp2_with (at_builtin; refine wpList_app_runA rfl _ _ 24 24 rfl rfl _ _ _ rfl rfl HRUN.out ?_; clear HRUN)
    refine HDe.out.mono ?_
    clear HDe
    rintro e w4 ⟨rfl, hb4⟩
    have HB4 := hidn (HB3.out.trans (hb4.mono HB3.out.size))
    have hs34 := hb4.size
    obtain ⟨hc0, hc1, hc2, hc3, hc4, hc5, hc6, hc7, hc8, hc9⟩ := ten_cells ((Below.heap_alloc w4 (.cells #[.int .i64 0, .int .i64 0, .int .i64 0, .int .i64 0, .int .i64 0, .int .i64 0, .int .i64 0, .int .i64 0, .int .i64 0, .int .i64 0] 23) w.heap.size (by omega)).trans ((hb4.block w.heap.size (by omega)).trans HA3.out))
    obtain ⟨hd0, hd1, hd2, hd3, hd4, hd5, hd6, hd7, hd8, hd9⟩ := ten_cells ((Below.heap_alloc w4 (.cells #[.int .i64 0, .int .i64 0, .int .i64 0, .int .i64 0, .int .i64 0, .int .i64 0, .int .i64 0, .int .i64 0, .int .i64 0, .int .i64 0] 23) w2.heap.size (by omega)).trans ((hb4.block w2.heap.size (by omega)).trans HX3.out))
    clear hb4 HA3 HX3
    go_wp2
    go_ret
    exact ⟨rfl, HB4.out.alloc HB4.out.size _⟩
end Go.Proofs.YtoopdmfijbbfdaaDoor

namespace Go.Proofs.YtoopdmfijbbfdaaDoor
open Go.RowKit Go.Maps
set_option linter.unusedVariables false

set_option maxHeartbeats 1000000 in
theorem big_any (w : World) (x : Int) (n : Nat) (hn : n = u64 x) :
    Calls Tryd.prog 30 #[.int .i64 x] w fun e w' => e = .returned (.slice (some ⟨w.heap.size, 0, none⟩) 8 8) ∧ w'.ownsRow w.heap.size 5 1 (.slice (some ⟨w.heap.size, 0, none⟩) 8 8) 8 (vb (putB n 8)) ∧ Below w.heap.size w w' := by
  have hw1 : IntKind.u64.wrap x = (n : Int) := by rw [wrapU, hn]
  have hn64 : n < 18446744073709551616 := by rw [hn]; exact u64_lt x
  have HP := hidn (refPut_any n 8 8 w hn64 (by omega))
  clear hn
  go_enter Tryd.func30, Tryd.ntmps30
  go_wp2_with fail
  refine HP.out.mono ?_
  rintro e w1 ⟨rfl, hown, hb⟩
  have HO := hidn hown
  have HB := hidn hb
  clear hown hb
  go_wp2
  go_ret
  exact ⟨rfl, HO.out, HB.out⟩

set_option maxHeartbeats 1000000 in
theorem refEncode_no (w : World) (y0 y1 y2 y3 y4 y5 y6 y7 y8 y9 : Int) (h : ancB y0 y1 y2 y3 y4 y7 y8 y9 = false) :
    Calls Tryd.prog 9 #[.agg #[.int .i64 y0, .int .i64 y1, .int .i64 y2, .int .i64 y3, .int .i64 y4, .int .i64 y5, .int .i64 y6, .int .i64 y7, .int .i64 y8, .int .i64 y9]] w fun e w' => e = .returned (.tuple #[.slice none 0 0, .int .i64 1]) ∧ Below w.heap.size w w' := by
  have HC := hidn (refCan_any)
  go_enter Tryd.func9, Tryd.ntmps9
  go_wp2_with fail
  refine (HC.out _ y0 y1 y2 y3 y4 y5 y6 y7 y8 y9).mono ?_
  rw [h]
  rintro e w1 ⟨rfl, hb1⟩
  have HB1 := hidn ((below1 w _).trans (hb1.mono (below1 w _).size))
  clear hb1
  go_wp2
  go_ret2
  exact ⟨rfl, HB1.out⟩

set_option maxRecDepth 100000 in
set_option maxHeartbeats 4000000 in
theorem refEncode_yes (w : World) (y0 y1 y2 y3 y4 y5 y6 y7 y8 y9 : Int) (h : ancB y0 y1 y2 y3 y4 y7 y8 y9 = true) :
    Calls Tryd.prog 9 #[.agg #[.int .i64 y0, .int .i64 y1, .int .i64 y2, .int .i64 y3, .int .i64 y4, .int .i64 y5, .int .i64 y6, .int .i64 y7, .int .i64 y8, .int .i64 y9]] w fun e w' => ∃ v, e = .returned (.tuple #[v, .int .i64 0]) ∧ w'.ownsRow w.heap.size 5 1 v 80 (vb (wordsB [y0, y1, y2, y3, y4, y5, y6, y7, y8, y9])) ∧ Below w.heap.size w w' := by
  obtain ⟨i0, z0, hi, hz0, hz1, hz2, hzc⟩ := byInfoA
  have HC := hidn (refCan_any)
  go_enter Tryd.func9, Tryd.ntmps9
  go_wp2_with fail
  refine (HC.out _ y0 y1 y2 y3 y4 y5 y6 y7 y8 y9).mono ?_
  rw [h]
  rintro e w1 ⟨rfl, hb1⟩
  have HB1 := hidn ((below1 w _).trans (hb1.mono (below1 w _).size))
  obtain ⟨hc0, hc1, hc2, hc3, hc4, hc5, hc6, hc7, hc8, hc9⟩ := ten_cells ((hb1.block w.heap.size (by rw [World.size_alloc]; omega)).trans (heap_alloc_new w _))
  clear hb1
  go_wp2_with fail
  have HI := hidn (ints_at w1 w1.heap.size rfl [y0, y1, y2, y3, y4, y5, y6, y7, y8, y9] 3 (0, 0))
  have HBA := hidn (HB1.out.alloc HB1.out.size (.cells #[.int .i64 y0, .int .i64 y1, .int .i64 y2, .int .i64 y3, .int .i64 y4, .int .i64 y5, .int .i64 y6, .int .i64 y7, .int .i64 y8, .int .i64 y9] 3))
  simp only [List.map_cons, List.map_nil] at HI
  clear hc0 hc1 hc2 hc3 hc4 hc5 hc6 hc7 hc8 hc9
  generalize w1.alloc (.cells #[.int .i64 y0, .int .i64 y1, .int .i64 y2, .int .i64 y3, .int .i64 y4, .int .i64 y5, .int .i64 y6, .int .i64 y7, .int .i64 y8, .int .i64 y9] 3) = W1 at *
  go_loopw [4, 32] (fun bv iv wr => ∃ k : Nat, k ≤ 10 ∧ iv = .int .i64 (k : Int) ∧ Hid (wr.ownsRow W1.heap.size 5 1 bv (8 * k) (vb (wordsB ([y0, y1, y2, y3, y4, y5, y6, y7, y8, y9].take k)))) ∧ Hid (Below W1.heap.size W1 wr)) (fun _ iv _ => 10 - (intOf iv).toNat)
  case atStart => exact ⟨0, Nat.zero_le _, rfl, hidn (World.ownsRow_nil _ _ _ _), hidn (Below.refl _ _)⟩
  case round =>
    obtain ⟨k, hk, rfl, HO, HBW⟩ := hrel
    by_cases hlt : k < 10
    · have hlt2 : (k : Int) < 10 := by omega
      obtain ⟨x, hx⟩ : ∃ x, [y0, y1, y2, y3, y4, y5, y6, y7, y8, y9][k]? = some x := ⟨_, List.getElem?_eq_getElem (by simpa using hlt)⟩
      have hcx := HI.out k x hx
      rw [Nat.zero_add] at hcx
      have hcx2 := (HBW.out.cell (block_lt_of_cell hcx)).trans hcx
      have HX := hidn hx
      obtain ⟨n, hn⟩ : ∃ n, n = u64 x := ⟨_, rfl⟩
      have HN := hidn hn
      have HBig := hidn (big_any wr x n hn)
      obtain ⟨va, vc, e9⟩ : ∃ va vc, u4 = Value.slice va (8 * k) vc := by
        rcases HO.out.2 with ⟨h1, h2⟩ | ⟨g, cp, cur, h1, _⟩
        · exact ⟨none, 0, by rw [h1, h2]⟩
        · exact ⟨_, _, h1⟩
      clear hx hcx hn
      go_wp2_with fail
      refine HBig.out.mono ?_
      clear HBig
      rintro e w2 ⟨rfl, hown1, hb1⟩
      have HBW1 := hidn (HBW.out.trans (hb1.mono HBW.out.size))
      have hO1 := own_belowA HO.out hb1
      obtain ⟨v3, w3, hrun, hown3, hgr3⟩ := appAny w2 W1.heap.size 24 24 5 i0 z0 1 1 Tryd.underlying24 hi hz0 hz1 hz2 hzc (by decide) u4 (8 * k) (vb (wordsB ([y0, y1, y2, y3, y4, y5, y6, y7, y8, y9].take k))) hO1 HBW1.out.size (some ⟨wr.heap.size, 0, none⟩) 8 8 (vb (putB n 8)) (by rw [length_vb, putB_length]) (fun e => by cases e) (fun x hx j u hu => by cases hx; exact src_of_own hown1 j u hu) (one_vb _) (by unfold maxLen; omega) (by omega)
      have HB3 : Hid (Below W1.heap.size W1 w3) := hidn (HBW1.out.grown hgr3 HBW1.out.size (fun k hk => (hO1.lt k hk).1))
      have HO3 : Hid (w3.ownsRow W1.heap.size 5 1 v3 (8 * (k + 1)) (vb (wordsB ([y0, y1, y2, y3, y4, y5, y6, y7, y8, y9].take (k + 1))))) := hidn (by
        rw [List.take_add_one, HX.out, Option.toList_some, wordsB_snoc, vb_app, ← HN.out, Nat.mul_add]
        exact hown3)
      have HRUN := hidn hrun
      subst e9
      clear hrun hown3 hgr3 hO1 hown1 hb1 HO
      go_wp2_with (at_builtin; refine wpList_app_runA rfl _ _ 24 24 rfl rfl _ _ _ rfl rfl HRUN.out ?_; clear HRUN)
      go_roundw
      case rel => exact ⟨k + 1, hlt, by first | rfl | go_num | simp, HO3, HB3⟩
      case measure => simp [intOf]; omega
    · obtain rfl : k = 10 := by omega
      have HO4 := hidn (own_monoA HO.out HBA.out.size)
      have HBE := hidn (HBA.out.trans (HBW.out.mono HBA.out.size))
      clear HO
      simp only [show ((10 : Nat) : Int) = 10 from rfl]
      go_wp2
      go_ret2
      exact ⟨_, rfl, HO4.out, HBE.out⟩
end Go.Proofs.YtoopdmfijbbfdaaDoor
