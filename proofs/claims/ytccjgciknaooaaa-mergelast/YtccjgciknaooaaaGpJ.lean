/- merge: the program's Joined. -/
import Derived.Test.YtccjgciknaooaaaGpK
import Derived.Test.YtccjgciknaooaaaMgF
import Derived.BigRegion
namespace Go.Proofs.Ytccjgciknaooaaa
open Go.RowKit Go.Joins
set_option linter.unusedVariables false

set_option maxHeartbeats 8000000 in
set_option maxRecDepth 100000 in
theorem joined_any (a : Option Addr) (len cap : Nat) (l : List Gp) (w : World) (h : Gps w a len l) (hm : len ≤ 1000) (hok : ∀ i, GpOK (gpD l i)) :
    Calls Try.prog 29 #[.slice a len cap] w (JnP l w) := by
  have HL := hidn h.1
  have H := hidn h
  have HOK := hidn hok
  clear h hok
  go_enter Try.func29, Try.ntmps29
  go_wp2_with fail
  go_loopw [3, 12] (fun sv iv wr => ∃ k n : Nat, k ≤ len ∧ n ≤ k ∧ iv = .int .i64 (k : Int) ∧ Hid (Below w.heap.size w wr) ∧ Hid (wr.ownsRow w.heap.size 62 2 sv n (vgp (fitG (l.take k))))) (fun _ iv _ => len - (intOf iv).toNat)
  case atStart => exact ⟨0, 0, Nat.zero_le _, Nat.le_refl _, rfl, hidn (Below.refl _ _), hidn (World.ownsRow_nil _ _ _ _)⟩
  case round =>
    obtain ⟨k, n, hk, hnk, rfl, HB, HO⟩ := hrel
    obtain ⟨wo, hwo⟩ : ∃ wo, wo = wr := ⟨_, rfl⟩
    subst hwo
    by_cases hlt : k < len
    · have hlt2 : (k : Int) < (len : Int) := by omega
      obtain ⟨b, off, rfl, hb, hcl⟩ := H.out.pos (by omega)
      have c0 : wo.cell? ⟨b, off + k * 2, none⟩ = some (.int .i64 (gpD l k).f) := (HB.out.cell (p := ⟨b, off + k * 2, none⟩) hb).trans (hcl k hlt).1
      have c1 : wo.cell? ⟨b, off + k * 2 + 1, none⟩ = some (.int .i64 (gpD l k).t) := (HB.out.cell (p := ⟨b, off + k * 2 + 1, none⟩) hb).trans (hcl k hlt).2
      have HFM := hidn (fit_more l k (by rw [HL.out]; exact hlt))
      obtain ⟨gf, hgf⟩ : ∃ x, x = (gpD l k).f := ⟨_, rfl⟩
      obtain ⟨gt, hgt⟩ : ∃ x, x = (gpD l k).t := ⟨_, rfl⟩
      rw [← hgf] at c0
      rw [← hgt] at c1
      have HG : Hid (gpD l k = ⟨gf, gt⟩) := hidn (by rw [hgf, hgt])
      obtain ⟨w1, hw1⟩ : ∃ w1, w1 = wo.alloc (.cells #[.int .i64 gf, .int .i64 gt] 62) := ⟨_, rfl⟩
      have b1 : Below wo.heap.size wo w1 := by rw [hw1]; exact (Below.refl _ wo).alloc (Nat.le_refl _) _
      have q1 : w1.heap[wo.heap.size]? = some (.cells #[.int .i64 gf, .int .i64 gt] 62 (0, 0)) := by rw [hw1]; exact heap_alloc_new wo _
      obtain ⟨tb, htb⟩ : ∃ tb, tb = decide (gf ≤ gt) := ⟨_, rfl⟩
      have HT := hidn (hasTime_any gf gt w1)
      rw [← htb] at HT
      have HTB := hidn htb
      have HW1 := hidn hw1
      have HB1 := hidn b1
      have HQ1 := hidn q1
      clear hcl hgf hgt hw1 b1 q1 htb
      go_wp2_with fail
      rw [← HW1.out]
      refine HT.out.mono ?_
      rintro e w2 ⟨rfl, b2⟩
      have s1 : wo.heap.size < w1.heap.size := (Array.getElem?_eq_some_iff.1 HQ1.out).1
      have q2 : w2.heap[wo.heap.size]? = some (.cells #[.int .i64 gf, .int .i64 gt] 62 (0, 0)) := (b2.block _ s1).trans HQ1.out
      have e0 : w2.cell? ⟨wo.heap.size, 0, none⟩ = some (.int .i64 gf) := cell_of_row _ _ _ _ _ _ q2
      have e1 : w2.cell? ⟨wo.heap.size, 1, none⟩ = some (.int .i64 gt) := cell_of_row _ _ _ _ _ _ q2
      have bo2 : Below wo.heap.size wo w2 := HB1.out.trans (b2.mono (Nat.le_of_lt s1))
      have HB2 : Hid (Below w.heap.size w w2) := hidn (HB.out.trans (bo2.mono HB.out.size))
      have HO2 := hidn (own_skip HO.out bo2)
      clear b2 bo2 q2 s1
      cases tb
      · have HN : Hid (fitG (l.take (k + 1)) = fitG (l.take k)) := hidn (by rw [HFM.out, HG.out, if_neg (of_decide_eq_false HTB.out.symm)])
        go_wp2_with fail
        go_roundw
        case rel => exact ⟨k + 1, n, by omega, by omega, by first | rfl | simp, HB2, hidn (by rw [HN.out]; exact HO2.out)⟩
        case measure => simp [intOf]; omega
      · have HN : Hid (fitG (l.take (k + 1)) = fitG (l.take k) ++ [⟨gf, gt⟩]) := hidn (by rw [HFM.out, HG.out, if_pos (of_decide_eq_true HTB.out.symm)])
        obtain ⟨w3, hw3⟩ : ∃ w3, w3 = w2.alloc (.cells #[.int .i64 gf, .int .i64 gt] 62) := ⟨_, rfl⟩
        have b3 : Below w2.heap.size w2 w3 := by rw [hw3]; exact (Below.refl _ w2).alloc (Nat.le_refl _) _
        have q3 : w3.heap[w2.heap.size]? = some (.cells #[.int .i64 gf, .int .i64 gt] 62 (0, 0)) := by rw [hw3]; exact heap_alloc_new w2 _
        obtain ⟨g, c', w4, hr, ho4, hg4⟩ := app_gap1 (own_skip HO2.out b3) (Nat.le_trans HB2.out.size b3.size) (by omega) (⟨gf, gt⟩ : Gp) ⟨w2.heap.size, 0, none⟩ (cell_of_row _ _ _ _ _ _ q3) (cell_of_row _ _ 1 _ _ _ q3)
        have HR := hidn hr
        have HW3 := hidn hw3
        have HB4 : Hid (Below w.heap.size w w4) := hidn ((HB2.out.trans (b3.mono HB2.out.size)).grown hg4 (Nat.le_trans HB2.out.size b3.size) (fun k hk => (HO2.out.lt k hk).1))
        have HO4 : Hid (w4.ownsRow w.heap.size 62 2 (.slice (some ⟨g, 0, none⟩) (n + 1) c') (n + 1) (vgp (fitG (l.take (k + 1))))) := hidn (by rw [HN.out]; exact ho4)
        clear hr hw3 b3 q3 ho4 hg4
        go_wp2_with (at_builtin; rw [← HW3.out]; refine wpList_app_run2 rfl (.tmp 18) (.tmp 20) 23 23 rfl rfl u3 (.slice (some ⟨w2.heap.size, 0, none⟩) 1 1) _ rfl rfl HR.out ?_)
        go_roundw
        case rel => exact ⟨k + 1, n + 1, by omega, by omega, by first | rfl | simp, HB4, HO4⟩
        case measure => simp [intOf]; omega
    · obtain rfl : k = len := by omega
      have HTK : Hid (l.take k = l) := hidn (List.take_of_length_le (by rw [HL.out]; omega))
      have hlt2 : ¬ (k : Int) < (k : Int) := by omega
      have HS := hidn (sort_own w.heap.size n u3 (fitG l) wo HB.out.size (by omega) (by have := HO.out; rwa [HTK.out] at this))
      obtain ⟨a3, c3, hu3⟩ := own_slice HO.out
      subst hu3
      clear hlt
      go_wp2_with fail
      refine HS.out.mono ?_
      rintro e w5 ⟨rfl, S, hperm, hsrt, ho5, hb5⟩
      have hso : SrtOf S l := srt_perm (fun g hg => by
        obtain ⟨i, hi, rfl⟩ := List.getElem_of_mem hg
        have := HOK.out i
        unfold gpD at this
        rw [List.getD_eq_getElem?_getD, List.getElem?_eq_getElem hi] at this
        exact this) hperm hsrt
      obtain ⟨a5, c5, hv5, _, hgs5⟩ := gps_of_own ho5
      cases hv5
      have HSO := hidn hso
      have HGS := hidn hgs5
      have HSL := hidn hgs5.1
      have HB5 := hidn (HB.out.trans hb5)
      have hsz5 : Hid (w.heap.size ≤ w5.heap.size) := hidn (HB5.out.size)
      clear hperm hsrt ho5 hb5 hso hgs5
      go_wp2_with fail
      go_loopw [4, 27] (fun jv iv wr => ∃ k m : Nat, k ≤ n ∧ m ≤ k ∧ iv = .int .i64 (k : Int) ∧ Hid (Below w5.heap.size w5 wr) ∧ Hid (wr.ownsRow w5.heap.size 62 2 jv m (vgp ((S.take k).foldl jstep [])))) (fun _ iv _ => n - (intOf iv).toNat)
      case atStart => exact ⟨0, 0, Nat.zero_le _, Nat.le_refl _, rfl, hidn (Below.refl _ _), hidn (World.ownsRow_nil _ _ _ _)⟩
      case round =>
        obtain ⟨k2, m, hk2, hmk, rfl, HX, HJ⟩ := hrel
        obtain ⟨wp, hwp⟩ : ∃ wp, wp = wr := ⟨_, rfl⟩
        subst hwp
        obtain ⟨aj, cj, hu4⟩ := own_slice HJ.out
        subst hu4
        by_cases hlt : k2 < n
        · have hlt3 : (k2 : Int) < (n : Int) := by omega
          obtain ⟨b, off, rfl, hb, hcl⟩ := HGS.out.pos (by omega)
          have c0 : wp.cell? ⟨b, off + k2 * 2, none⟩ = some (.int .i64 (gpD S k2).f) := (HX.out.cell (p := ⟨b, off + k2 * 2, none⟩) hb).trans (hcl k2 hlt).1
          have c1 : wp.cell? ⟨b, off + k2 * 2 + 1, none⟩ = some (.int .i64 (gpD S k2).t) := (HX.out.cell (p := ⟨b, off + k2 * 2 + 1, none⟩) hb).trans (hcl k2 hlt).2
          have HFM := hidn (fold_more S k2 (by rw [HSL.out]; exact hlt))
          obtain ⟨sf, hsf⟩ : ∃ x, x = (gpD S k2).f := ⟨_, rfl⟩
          obtain ⟨st, hst⟩ : ∃ x, x = (gpD S k2).t := ⟨_, rfl⟩
          rw [← hsf] at c0
          rw [← hst] at c1
          have HG : Hid (gpD S k2 = ⟨sf, st⟩) := hidn (by rw [hsf, hst])
          have hmem : ∀ i, i < S.length → gpD S i ∈ S := fun i hi => by
            unfold gpD
            rw [List.getD_eq_getElem?_getD, List.getElem?_eq_getElem hi]
            exact List.getElem_mem hi
          have HSK : Hid (GpOK ⟨sf, st⟩) := hidn (by
            have := (HSO.out.2.1 _ (hmem k2 (by rw [HSL.out]; exact hlt))).2
            rwa [HG.out] at this)
          obtain ⟨w6, hw6⟩ : ∃ w6, w6 = wp.alloc (.cells #[.int .i64 sf, .int .i64 st] 62) := ⟨_, rfl⟩
          have b6 : Below wp.heap.size wp w6 := by rw [hw6]; exact (Below.refl _ wp).alloc (Nat.le_refl _) _
          have q6 : w6.heap[wp.heap.size]? = some (.cells #[.int .i64 sf, .int .i64 st] 62 (0, 0)) := by rw [hw6]; exact heap_alloc_new wp _
          have s6 : wp.heap.size < w6.heap.size := (Array.getElem?_eq_some_iff.1 q6).1
          have HJK : Hid (∀ x ∈ (S.take k2).foldl jstep [], GpOK x) := hidn (fold_ok _ _ (by simp) (fun x hx => (HSO.out.2.1 x (List.mem_of_mem_take hx)).2))
          have HW6 := hidn hw6
          have HQ6 := hidn q6
          have HB6 : Hid (Below w5.heap.size w5 w6) := hidn (HX.out.trans (b6.mono HX.out.size))
          have HJ6 := hidn (own_skip HJ.out b6)
          have HS6 := hidn s6
          obtain ⟨J, hJ⟩ : ∃ J, J = (S.take k2).foldl jstep [] := ⟨_, rfl⟩
          rw [← hJ] at HJ HFM HJK HJ6
          clear hcl hsf hst hw6 b6 q6 s6 hmem hJ
          rcases List.eq_nil_or_concat J with hn | ⟨A, c, hn⟩
          · subst hn
            obtain rfl : m = 0 := by have := HJ.out.1; simp [vgp] at this; omega
            have HN : Hid ((S.take (k2 + 1)).foldl jstep [] = [] ++ [⟨sf, st⟩]) := hidn (by rw [HFM.out, HG.out]; rfl)
            obtain ⟨w7, hw7⟩ : ∃ w7, w7 = w6.drew.alloc (.cells #[.int .i64 sf, .int .i64 st] 62) := ⟨_, rfl⟩
            have b7 : Below w6.heap.size w6 w7 := by rw [hw7]; exact ((Below.refl _ w6).drew).alloc (Nat.le_refl _) _
            have q7 : w7.heap[w6.heap.size]? = some (.cells #[.int .i64 sf, .int .i64 st] 62 (0, 0)) := by rw [hw7]; exact heap_alloc_new w6.drew _
            obtain ⟨g, c', w8, hr, ho8, hg8⟩ := app_gap1 (own_skip HJ6.out b7) (Nat.le_trans HB6.out.size b7.size) (by omega) (⟨sf, st⟩ : Gp) ⟨w6.heap.size, 0, none⟩ (cell_of_row _ _ _ _ _ _ q7) (cell_of_row _ _ 1 _ _ _ q7)
            have HR := hidn hr
            have HW7 := hidn hw7
            have HW7' : Hid (w7 = (w6.alloc (.cells #[.int .i64 sf, .int .i64 st] 62)).drew) := hidn HW7.out
            have HB8 : Hid (Below w5.heap.size w5 w8) := hidn ((HB6.out.trans (b7.mono HB6.out.size)).grown hg8 (Nat.le_trans HB6.out.size b7.size) (fun k hk => (HJ6.out.lt k hk).1))
            have HJ8 : Hid (w8.ownsRow w5.heap.size 62 2 (.slice (some ⟨g, 0, none⟩) (0 + 1) c') (0 + 1) (vgp ((S.take (k2 + 1)).foldl jstep []))) := hidn (by rw [HN.out]; exact ho8)
            have e0 : w6.cell? ⟨wp.heap.size, 0, none⟩ = some (.int .i64 sf) := cell_of_row _ _ _ _ _ _ HQ6.out
            have e1 : w6.cell? ⟨wp.heap.size, 1, none⟩ = some (.int .i64 st) := cell_of_row _ _ _ _ _ _ HQ6.out
            clear hr hw7 b7 q7 ho8 hg8
            go_wp2_with fail
            rw [← HW6.out]
            refine wp_region_noPanic ?_
            refine wp_region_held_drew (S := fun w' => Below w6.heap.size w6 w') (by kernel_rfl) ((Below.refl _ w6).drew) (fun hHeld => ?_)
            refine drawn_take (i := 0) (v := .int .i64 (-1)) (some 34) rfl rfl (by kernel_rfl) (by kernel_rfl) (by kernel_rfl) (fun _ _ _ h => h) (Or.inl ⟨by kernel_rfl, fun wq hw => by go_simp⟩) hHeld ?_
            simp only [Act.put, List.setIfInBounds_toArray, List.set_cons_succ, List.set_cons_zero]
            refine drawn_take (i := 1) (v := .bool false) (some 35) rfl rfl (by kernel_rfl) (by kernel_rfl) (by kernel_rfl) (fun _ _ _ h => h) (Or.inl ⟨by kernel_rfl, fun wq hw => by go_simp⟩) hHeld ?_
            simp only [Act.put, List.setIfInBounds_toArray, List.set_cons_succ, List.set_cons_zero]
            refine drawn_take (i := 2) (v := .bool false) (some 36) rfl rfl (by kernel_rfl) (by kernel_rfl) (by kernel_rfl) (fun _ _ _ h => h) (Or.inl ⟨by kernel_rfl, fun wq hw => by go_simp⟩) hHeld ?_
            simp only [Act.put, List.setIfInBounds_toArray, List.set_cons_succ, List.set_cons_zero]
            refine drawn_take (i := 3) (v := undef) (some 37) rfl rfl (by kernel_rfl) (by kernel_rfl) (by kernel_rfl) (fun _ _ _ h => h) (Or.inr ⟨by kernel_rfl, rfl⟩) hHeld ?_
            simp only [Act.put, List.setIfInBounds_toArray, List.set_cons_succ, List.set_cons_zero]
            refine drawn_take (i := 4) (v := undef) (some 38) rfl rfl (by kernel_rfl) (by kernel_rfl) (by kernel_rfl) (fun _ _ _ h => h) (Or.inr ⟨by kernel_rfl, rfl⟩) hHeld ?_
            simp only [Act.put, List.setIfInBounds_toArray, List.set_cons_succ, List.set_cons_zero]
            refine drawn_take (i := 5) (v := undef) (some 39) rfl rfl (by kernel_rfl) (by kernel_rfl) (by kernel_rfl) (fun _ _ _ h => h) (Or.inr ⟨by kernel_rfl, rfl⟩) hHeld ?_
            simp only [Act.put, List.setIfInBounds_toArray, List.set_cons_succ, List.set_cons_zero]
            refine drawn_take (i := 6) (v := undef) (some 40) rfl rfl (by kernel_rfl) (by kernel_rfl) (by kernel_rfl) (fun _ _ _ h => h) (Or.inr ⟨by kernel_rfl, rfl⟩) hHeld ?_
            simp only [Act.put, List.setIfInBounds_toArray, List.set_cons_succ, List.set_cons_zero]
            refine drawn_take (i := 7) (v := undef) (some 41) rfl rfl (by kernel_rfl) (by kernel_rfl) (by kernel_rfl) (fun _ _ _ h => h) (Or.inr ⟨by kernel_rfl, rfl⟩) hHeld ?_
            simp only [Act.put, List.setIfInBounds_toArray, List.set_cons_succ, List.set_cons_zero]
            refine drawn_take (i := 8) (v := undef) (some 42) rfl rfl (by kernel_rfl) (by kernel_rfl) (by kernel_rfl) (fun _ _ _ h => h) (Or.inr ⟨by kernel_rfl, rfl⟩) hHeld ?_
            simp only [Act.put, List.setIfInBounds_toArray, List.set_cons_succ, List.set_cons_zero]
            refine drawn_take (i := 9) (v := .bool false) (some 43) rfl rfl (by kernel_rfl) (by kernel_rfl) (by kernel_rfl) (fun _ _ _ h => h) (Or.inl ⟨by kernel_rfl, fun wq hw => by go_simp⟩) hHeld ?_
            simp only [Act.put, List.setIfInBounds_toArray, List.set_cons_succ, List.set_cons_zero]
            refine wpAnyH_done (by kernel_rfl) ?_ _
            refine NoPanic.normal ?_
            clear hHeld
            go_wp2_with (at_builtin; first | rw [← HW7.out] | rw [← HW7'.out]; refine wpList_app_run2 rfl (.tmp 56) (.tmp 58) 23 23 rfl rfl (.slice aj 0 cj) (.slice (some ⟨w6.heap.size, 0, none⟩) 1 1) _ rfl rfl HR.out ?_)
            go_roundw
            case rel => exact ⟨k2 + 1, 0 + 1, by omega, by omega, by first | rfl | simp, HB8, HJ8⟩
            case measure => simp [intOf]; omega
          · rw [List.concat_eq_append] at hn
            subst hn
            obtain ⟨p, hp⟩ : ∃ p, p = A.length := ⟨_, rfl⟩
            obtain rfl : m = p + 1 := by have := HJ.out.1; rw [vgp_len] at this; simp at this; omega
            obtain ⟨cf, ct⟩ := c
            have HCK : Hid (GpOK ⟨cf, ct⟩) := hidn (HJK.out _ (by simp))
            obtain ⟨q, hq⟩ : ∃ q, aj = some ⟨q, 0, none⟩ := by
              rcases HJ.out.2 with ⟨h1, h2⟩ | ⟨q, _, _, h1, _⟩
              · omega
              · injection h1 with h3; exact ⟨q, h3⟩
            subst hq
            have hq5 : w5.heap.size ≤ q := (HJ.out.lt q rfl).1
            obtain ⟨v0, v1⟩ := vgp_get (A ++ [⟨cf, ct⟩]) p (by simp; omega)
            rw [show gpD (A ++ [⟨cf, ct⟩]) p = ⟨cf, ct⟩ from by rw [hp]; exact gpD_last A _] at v0 v1
            have HRD : Hid (∀ w', Below w6.heap.size w6 w' → w'.cell? ⟨q, p * 2, none⟩ = some (.int .i64 cf) ∧ w'.cell? ⟨q, p * 2 + 1, none⟩ = some (.int .i64 ct) ∧ w'.cell? ⟨wp.heap.size, 0, none⟩ = some (.int .i64 sf) ∧ w'.cell? ⟨wp.heap.size, 1, none⟩ = some (.int .i64 st) ∧ w'.frozen? ⟨q, p * 2 + 1, none⟩ = false) := hidn (fun w' hb => by
              have ho' := own_skip HJ6.out hb
              have k0 := ho'.cells (g := q) rfl _ _ v0
              have k1 := ho'.cells (g := q) rfl _ _ v1
              rw [add_none, Nat.zero_add] at k0 k1
              obtain ⟨_, _, cur, hcur⟩ := own_blk ho'
              have q6' := (hb.block _ HS6.out).trans HQ6.out
              exact ⟨k0, k1, cell_of_row _ _ _ _ _ _ q6', cell_of_row _ _ _ _ _ _ q6', unfrozen_of_block hcur _⟩)
            obtain ⟨bb, hbb⟩ : ∃ bb, bb = goesB ⟨cf, ct⟩ ⟨sf, st⟩ := ⟨_, rfl⟩
            have HGO := hidn (goesOn_any ⟨cf, ct⟩ ⟨sf, st⟩ w6.drew HCK.out.2.2.2 HCK.out.2.2.1 HSK.out.2.1)
            rw [← hbb] at HGO
            have HBB := hidn hbb
            have HP := hidn hp
            have e0 : w6.cell? ⟨wp.heap.size, 0, none⟩ = some (.int .i64 sf) := cell_of_row _ _ _ _ _ _ HQ6.out
            have e1 : w6.cell? ⟨wp.heap.size, 1, none⟩ = some (.int .i64 st) := cell_of_row _ _ _ _ _ _ HQ6.out
            clear hbb v0 v1 hp
            go_wp2_with fail
            rw [← HW6.out]
            refine wp_region_noPanic ?_
            refine wp_region_held_drew (S := fun w' => Below w6.heap.size w6 w') (by kernel_rfl) ((Below.refl _ w6).drew) (fun hHeld => ?_)
            refine drawn_take (i := 0) (v := .int .i64 (p : Int)) (some 34) rfl rfl (by kernel_rfl) (by kernel_rfl) (by kernel_rfl) (fun _ _ _ h => h) (Or.inl ⟨by kernel_rfl, fun wq hw => by go_simp⟩) hHeld ?_
            simp only [Act.put, List.setIfInBounds_toArray, List.set_cons_succ, List.set_cons_zero]
            refine drawn_take (i := 1) (v := .bool true) (some 35) rfl rfl (by kernel_rfl) (by kernel_rfl) (by kernel_rfl) (fun _ _ _ h => h) (Or.inl ⟨by kernel_rfl, fun wq hw => by go_simp⟩) hHeld ?_
            simp only [Act.put, List.setIfInBounds_toArray, List.set_cons_succ, List.set_cons_zero]
            refine drawn_take (i := 2) (v := .bool true) (some 36) rfl rfl (by kernel_rfl) (by kernel_rfl) (by kernel_rfl) (fun _ _ _ h => h) (Or.inl ⟨by kernel_rfl, fun wq hw => by go_simp⟩) hHeld ?_
            simp only [Act.put, List.setIfInBounds_toArray, List.set_cons_succ, List.set_cons_zero]
            refine drawn_take (i := 3) (v := .slice (some ⟨q, 0, none⟩) (p + 1) cj) (some 37) rfl rfl (by kernel_rfl) (by kernel_rfl) (by kernel_rfl) (fun _ _ _ h => h) (Or.inl ⟨by kernel_rfl, fun wq hw => by go_simp⟩) hHeld ?_
            simp only [Act.put, List.setIfInBounds_toArray, List.set_cons_succ, List.set_cons_zero]
            refine drawn_take (i := 4) (v := .int .i64 (p : Int)) (some 38) rfl rfl (by kernel_rfl) (by kernel_rfl) (by kernel_rfl) (fun _ _ _ h => h) (Or.inl ⟨by kernel_rfl, fun wq hw => by go_simp⟩) hHeld ?_
            simp only [Act.put, List.setIfInBounds_toArray, List.set_cons_succ, List.set_cons_zero]
            refine drawn_take (i := 5) (v := .pointer (some ⟨q, p * 2, none⟩)) (some 39) rfl rfl (by kernel_rfl) (by kernel_rfl) (by kernel_rfl) (fun _ _ _ h => h) (Or.inl ⟨by kernel_rfl, fun wq hw => by go_simp; intro h8; exfalso; omega⟩) hHeld ?_
            simp only [Act.put, List.setIfInBounds_toArray, List.set_cons_succ, List.set_cons_zero]
            refine drawn_take (i := 6) (v := .agg #[.int .i64 cf, .int .i64 ct]) (some 40) rfl rfl (by kernel_rfl) (by kernel_rfl) (by kernel_rfl) (fun _ _ _ h => h) (Or.inl ⟨by kernel_rfl, fun wq hw => by obtain ⟨q1, q2, q3, q4, q5⟩ := HRD.out _ hw; go_simp⟩) hHeld ?_
            simp only [Act.put, List.setIfInBounds_toArray, List.set_cons_succ, List.set_cons_zero]
            refine drawn_take (i := 7) (v := .agg #[.int .i64 sf, .int .i64 st]) (some 41) rfl rfl (by kernel_rfl) (by kernel_rfl) (by kernel_rfl) (fun _ _ _ h => h) (Or.inl ⟨by kernel_rfl, fun wq hw => by obtain ⟨q1, q2, q3, q4, q5⟩ := HRD.out _ hw; go_simp⟩) hHeld ?_
            simp only [Act.put, List.setIfInBounds_toArray, List.set_cons_succ, List.set_cons_zero]
            refine wpAnyH_ready (rs := [8]) (by kernel_rfl) (by simp) ?_
            refine rdy_callw (i := 8) rfl (by kernel_rfl) (some 42) rfl 37 #[.agg #[.int .i64 cf, .int .i64 ct], .agg #[.int .i64 sf, .int .i64 st]] (callG2 (x := 40) (y := 41) rfl (fun _ _ => rfl) (by kernel_rfl) (by kernel_rfl)) (fun r w9 => r = .bool bb ∧ Below w6.heap.size w6 w9) (HGO.out.mono (by rintro e w9 ⟨rfl, h9⟩; exact ⟨_, rfl, rfl, ((Below.refl _ w6).drew).trans h9⟩)) (fun r w9 hR => ?_) rdy_nil
            obtain ⟨rfl, h9⟩ := hR
            refine ⟨h9, fun hHeld => ?_⟩
            simp only [Act.put, List.setIfInBounds_toArray, List.set_cons_succ, List.set_cons_zero]
            refine drawn_take (i := 9) (v := .bool bb) (some 43) rfl rfl (by kernel_rfl) (by kernel_rfl) (by kernel_rfl) (fun _ _ _ h => h) (Or.inl ⟨by kernel_rfl, fun wq hw => by go_simp⟩) hHeld ?_
            simp only [Act.put, List.setIfInBounds_toArray, List.set_cons_succ, List.set_cons_zero]
            refine wpAnyH_done (by kernel_rfl) ?_ _
            refine NoPanic.normal ?_
            clear hHeld
            have HB9 := hidn h9
            have HBX : Hid (Below w5.heap.size w5 w9) := hidn (HB6.out.trans (h9.mono HB6.out.size))
            have HJ9 := hidn (own_skip HJ6.out h9)
            obtain ⟨z0, z1, z2, z3, z4⟩ := HRD.out w9 h9
            clear h9
            cases bb
            · have HN : Hid ((S.take (k2 + 1)).foldl jstep [] = A ++ [⟨cf, ct⟩] ++ [⟨sf, st⟩]) := hidn (by rw [HFM.out, HG.out, jstep_no A _ _ HBB.out.symm])
              obtain ⟨w7, hw7⟩ : ∃ w7, w7 = w9.alloc (.cells #[.int .i64 sf, .int .i64 st] 62) := ⟨_, rfl⟩
              have b7 : Below w9.heap.size w9 w7 := by rw [hw7]; exact (Below.refl _ w9).alloc (Nat.le_refl _) _
              have q7 : w7.heap[w9.heap.size]? = some (.cells #[.int .i64 sf, .int .i64 st] 62 (0, 0)) := by rw [hw7]; exact heap_alloc_new w9 _
              obtain ⟨g, c', w8, hr, ho8, hg8⟩ := app_gap1 (own_skip HJ9.out b7) (Nat.le_trans HBX.out.size b7.size) (by omega) (⟨sf, st⟩ : Gp) ⟨w9.heap.size, 0, none⟩ (cell_of_row _ _ _ _ _ _ q7) (cell_of_row _ _ 1 _ _ _ q7)
              have HR := hidn hr
              have HW7 := hidn hw7
              have HB8 : Hid (Below w5.heap.size w5 w8) := hidn ((HBX.out.trans (b7.mono HBX.out.size)).grown hg8 (Nat.le_trans HBX.out.size b7.size) (fun k hk => (HJ9.out.lt k hk).1))
              have HJ8 : Hid (w8.ownsRow w5.heap.size 62 2 (.slice (some ⟨g, 0, none⟩) (p + 1 + 1) c') (p + 1 + 1) (vgp ((S.take (k2 + 1)).foldl jstep []))) := hidn (by rw [HN.out]; exact ho8)
              clear hr hw7 b7 q7 ho8 hg8 z0 z1 z4
              go_wp2_with (at_builtin; rw [← HW7.out]; refine wpList_app_run2 rfl (.tmp 56) (.tmp 58) 23 23 rfl rfl (.slice (some ⟨q, 0, none⟩) (p + 1) cj) (.slice (some ⟨w9.heap.size, 0, none⟩) 1 1) _ rfl rfl HR.out ?_)
              go_roundw
              case rel => exact ⟨k2 + 1, p + 1 + 1, by omega, by omega, by first | rfl | simp, HB8, HJ8⟩
              case measure => simp [intOf]; omega
            · obtain ⟨x, hx⟩ : ∃ x, x = max ct st := ⟨_, rfl⟩
              have HN : Hid ((S.take (k2 + 1)).foldl jstep [] = A ++ [⟨cf, x⟩]) := hidn (by rw [HFM.out, HG.out, jstep_yes A _ _ HBB.out.symm, hx])
              have m1 : max ct st = x := hx.symm
              have m3 : (if ct < st then st else ct) = x := by rw [hx]; split <;> omega
              have HBY : Hid (Below w5.heap.size w5 ((w9.setCell ⟨q, p * 2 + 1, none⟩ (.int .i64 x)).drew)) := hidn ((HBX.out.setCell (p := ⟨q, p * 2 + 1, none⟩) hq5 _).drew)
              have HJY : Hid ((w9.setCell ⟨q, p * 2 + 1, none⟩ (.int .i64 x)).drew.ownsRow w5.heap.size 62 2 (.slice (some ⟨q, 0, none⟩) (p + 1) cj) (p + 1) (vgp ((S.take (k2 + 1)).foldl jstep []))) := hidn (by
                have h6 := (HJ9.out.stored (p * 2 + 1) (.int .i64 x)).1
                rw [vgp_set A _ x p HP.out] at h6
                rw [HN.out]
                exact own_skip h6 ((Below.refl _ _).drew))
              clear hx
              go_wp2_with fail
              go_region
              go_wp2_with fail
              go_roundw
              case rel => exact ⟨k2 + 1, p + 1, by omega, by omega, by first | rfl | simp, HBY, HJY⟩
              case measure => simp [intOf]; omega
        · obtain rfl : k2 = n := by omega
          have hlt3 : ¬ (k2 : Int) < (k2 : Int) := by omega
          have HTK2 : Hid ((S.take k2).foldl jstep [] = joinG S) := hidn (by rw [List.take_of_length_le (by rw [HSL.out]; omega), fold_join])
          clear hlt
          go_wp2_with fail
          go_ret
          exact ⟨_, m, S, rfl, HSO.out, own_lowG (by rw [← HTK2.out]; exact HJ.out) hsz5.out, HB5.out.trans (HX.out.mono hsz5.out)⟩
end Go.Proofs.Ytccjgciknaooaaa
