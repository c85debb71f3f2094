/- The document's Encode of an anchor. -/
import Derived.Test.YtoopdmfijbbfdaaDoorAnchorBackWalk
namespace Go.Proofs.YtoopdmfijbbfdaaDoor
open Go.RowKit Go.Maps
set_option linter.unusedVariables false

set_option maxHeartbeats 1000000 in
theorem big_any (w : World) (x : Int) (n : Nat) (hn : n = u64 x) :
    Calls Tryd.prog 30 #[.int .i64 x] w fun e w' => e = .returned (.slice (some ⟨w.heap.size, 0, none⟩) 8 8) ∧ w'.ownsRow w.heap.size 5 1 (.slice (some ⟨w.heap.size, 0, none⟩) 8 8) 8 (vb (putB n 8)) ∧ Below w.heap.size w w' := by
  have hw1 : IntKind.u64.wrap x = (n : Int) := by rw [wrapU, hn]
  have hn64 : n < 18446744073709551616 := by rw [hn]; exact u64_lt x
  have HP := hidn (refPut_any n 8 8 w hn64 (by omega))
  clear hn
  go_enter Tryd.func30, Tryd.ntmps30
  go_wp2_with fail
  refine HP.out.mono ?_
  rintro e w1 ⟨rfl, hown, hb⟩
  have HO := hidn hown
  have HB := hidn hb
  clear hown hb
  go_wp2
  go_ret
  exact ⟨rfl, HO.out, HB.out⟩

set_option maxHeartbeats 1000000 in
theorem refEncode_no (w : World) (y0 y1 y2 y3 y4 y5 y6 y7 y8 y9 : Int) (h : ancB y0 y1 y2 y3 y4 y7 y8 y9 = false) :
    Calls Tryd.prog 9 #[.agg #[.int .i64 y0, .int .i64 y1, .int .i64 y2, .int .i64 y3, .int .i64 y4, .int .i64 y5, .int .i64 y6, .int .i64 y7, .int .i64 y8, .int .i64 y9]] w fun e w' => e = .returned (.tuple #[.slice none 0 0, .int .i64 1]) ∧ Below w.heap.size w w' := by
  have HC := hidn (refCan_any)
  go_enter Tryd.func9, Tryd.ntmps9
  go_wp2_with fail
  refine (HC.out _ y0 y1 y2 y3 y4 y5 y6 y7 y8 y9).mono ?_
  rw [h]
  rintro e w1 ⟨rfl, hb1⟩
  have HB1 := hidn ((below1 w _).trans (hb1.mono (below1 w _).size))
  clear hb1
  go_wp2
  go_ret2
  exact ⟨rfl, HB1.out⟩

set_option maxRecDepth 100000 in
set_option maxHeartbeats 4000000 in
theorem refEncode_yes (w : World) (y0 y1 y2 y3 y4 y5 y6 y7 y8 y9 : Int) (h : ancB y0 y1 y2 y3 y4 y7 y8 y9 = true) :
    Calls Tryd.prog 9 #[.agg #[.int .i64 y0, .int .i64 y1, .int .i64 y2, .int .i64 y3, .int .i64 y4, .int .i64 y5, .int .i64 y6, .int .i64 y7, .int .i64 y8, .int .i64 y9]] w fun e w' => ∃ v, e = .returned (.tuple #[v, .int .i64 0]) ∧ w'.ownsRow w.heap.size 5 1 v 80 (vb (wordsB [y0, y1, y2, y3, y4, y5, y6, y7, y8, y9])) ∧ Below w.heap.size w w' := by
  obtain ⟨i0, z0, hi, hz0, hz1, hz2, hzc⟩ := byInfoA
  have HC := hidn (refCan_any)
  go_enter Tryd.func9, Tryd.ntmps9
  go_wp2_with fail
  refine (HC.out _ y0 y1 y2 y3 y4 y5 y6 y7 y8 y9).mono ?_
  rw [h]
  rintro e w1 ⟨rfl, hb1⟩
  have HB1 := hidn ((below1 w _).trans (hb1.mono (below1 w _).size))
  obtain ⟨hc0, hc1, hc2, hc3, hc4, hc5, hc6, hc7, hc8, hc9⟩ := ten_cells ((hb1.block w.heap.size (by rw [World.size_alloc]; omega)).trans (heap_alloc_new w _))
  clear hb1
  go_wp2_with fail
  have HI := hidn (ints_at w1 w1.heap.size rfl [y0, y1, y2, y3, y4, y5, y6, y7, y8, y9] 3 (0, 0))
  have HBA := hidn (HB1.out.alloc HB1.out.size (.cells #[.int .i64 y0, .int .i64 y1, .int .i64 y2, .int .i64 y3, .int .i64 y4, .int .i64 y5, .int .i64 y6, .int .i64 y7, .int .i64 y8, .int .i64 y9] 3))
  simp only [List.map_cons, List.map_nil] at HI
  clear hc0 hc1 hc2 hc3 hc4 hc5 hc6 hc7 hc8 hc9
  generalize w1.alloc (.cells #[.int .i64 y0, .int .i64 y1, .int .i64 y2, .int .i64 y3, .int .i64 y4, .int .i64 y5, .int .i64 y6, .int .i64 y7, .int .i64 y8, .int .i64 y9] 3) = W1 at *
  go_loopw [4, 32] (fun bv iv wr => ∃ k : Nat, k ≤ 10 ∧ iv = .int .i64 (k : Int) ∧ Hid (wr.ownsRow W1.heap.size 5 1 bv (8 * k) (vb (wordsB ([y0, y1, y2, y3, y4, y5, y6, y7, y8, y9].take k)))) ∧ Hid (Below W1.heap.size W1 wr)) (fun _ iv _ => 10 - (intOf iv).toNat)
  case atStart => exact ⟨0, Nat.zero_le _, rfl, hidn (World.ownsRow_nil _ _ _ _), hidn (Below.refl _ _)⟩
  case round =>
    obtain ⟨k, hk, rfl, HO, HBW⟩ := hrel
    by_cases hlt : k < 10
    · have hlt2 : (k : Int) < 10 := by omega
      obtain ⟨x, hx⟩ : ∃ x, [y0, y1, y2, y3, y4, y5, y6, y7, y8, y9][k]? = some x := ⟨_, List.getElem?_eq_getElem (by simpa using hlt)⟩
      have hcx := HI.out k x hx
      rw [Nat.zero_add] at hcx
      have hcx2 := (HBW.out.cell (block_lt_of_cell hcx)).trans hcx
      have HX := hidn hx
      obtain ⟨n, hn⟩ : ∃ n, n = u64 x := ⟨_, rfl⟩
      have HN := hidn hn
      have HBig := hidn (big_any wr x n hn)
      obtain ⟨va, vc, e9⟩ : ∃ va vc, u4 = Value.slice va (8 * k) vc := by
        rcases HO.out.2 with ⟨h1, h2⟩ | ⟨g, cp, cur, h1, _⟩
        · exact ⟨none, 0, by rw [h1, h2]⟩
        · exact ⟨_, _, h1⟩
      clear hx hcx hn
      go_wp2_with fail
      refine HBig.out.mono ?_
      clear HBig
      rintro e w2 ⟨rfl, hown1, hb1⟩
      have HBW1 := hidn (HBW.out.trans (hb1.mono HBW.out.size))
      have hO1 := own_belowA HO.out hb1
      obtain ⟨v3, w3, hrun, hown3, hgr3⟩ := appAny w2 W1.heap.size 24 24 5 i0 z0 1 1 Tryd.underlying24 hi hz0 hz1 hz2 hzc (by decide) u4 (8 * k) (vb (wordsB ([y0, y1, y2, y3, y4, y5, y6, y7, y8, y9].take k))) hO1 HBW1.out.size (some ⟨wr.heap.size, 0, none⟩) 8 8 (vb (putB n 8)) (by rw [length_vb, putB_length]) (fun e => by cases e) (fun x hx j u hu => by cases hx; exact src_of_own hown1 j u hu) (one_vb _) (by unfold maxLen; omega) (by omega)
      have HB3 : Hid (Below W1.heap.size W1 w3) := hidn (HBW1.out.grown hgr3 HBW1.out.size (fun k hk => (hO1.lt k hk).1))
      have HO3 : Hid (w3.ownsRow W1.heap.size 5 1 v3 (8 * (k + 1)) (vb (wordsB ([y0, y1, y2, y3, y4, y5, y6, y7, y8, y9].take (k + 1))))) := hidn (by
        rw [List.take_add_one, HX.out, Option.toList_some, wordsB_snoc, vb_app, ← HN.out, Nat.mul_add]
        exact hown3)
      have HRUN := hidn hrun
      subst e9
      clear hrun hown3 hgr3 hO1 hown1 hb1 HO
      go_wp2_with (at_builtin; refine wpList_app_runA rfl _ _ 24 24 rfl rfl _ _ _ rfl rfl HRUN.out ?_; clear HRUN)
      go_roundw
      case rel => exact ⟨k + 1, hlt, by first | rfl | go_num | simp, HO3, HB3⟩
      case measure => simp [intOf]; omega
    · obtain rfl : k = 10 := by omega
      have HO4 := hidn (own_monoA HO.out HBA.out.size)
      have HBE := hidn (HBA.out.trans (HBW.out.mono HBA.out.size))
      clear HO
      simp only [show ((10 : Nat) : Int) = 10 from rfl]
      go_wp2
      go_ret2
      exact ⟨_, rfl, HO4.out, HBE.out⟩
end Go.Proofs.YtoopdmfijbbfdaaDoor
