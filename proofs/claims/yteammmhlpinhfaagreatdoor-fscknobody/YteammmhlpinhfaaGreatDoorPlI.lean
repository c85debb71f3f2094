/- plan.Can. -/
import Derived.Test.YteammmhlpinhfaaGreatDoorPlH
import Derived.Test.YteammmhlpinhfaaGreatDoorPlShelf
import Derived.Lib.OwnBridge
import Derived.Lib.SlicesCompact
namespace Go.Proofs.YteammmhlpinhfaaGreatDoor
open Go.RowKit Go.Joins
set_option linter.unusedVariables false

theorem compact_nodup (xs : List Int) : ((Lib.compact (xs.mergeSort fun x y => decide (x ≤ y))).length = xs.length) ↔ nodupB xs = true := by
  rw [nodupB_iff]
  have hp := List.mergeSort_perm xs fun x y => decide (x ≤ y)
  have hs := List.pairwise_mergeSort (le := fun x y : Int => decide (x ≤ y)) (fun a b c h1 h2 => by simp at *; omega) (fun a b => by simp; omega) xs
  generalize xs.mergeSort (fun x y => decide (x ≤ y)) = s at *
  rw [← hp.length_eq, ← hp.nodup_iff]
  have hlen : (Lib.compact s).length = ((List.range s.length).filter (Lib.keeps s.toArray)).length := by simp [Lib.compact, Lib.compactUpTo]
  rw [hlen, show s.length = (List.range s.length).length from by simp, List.length_range, List.length_filter_eq_length_iff.trans Iff.rfl |> fun e => (show (((List.range s.length).filter (Lib.keeps s.toArray)).length = s.length ↔ ∀ a ∈ List.range s.length, Lib.keeps s.toArray a = true) from by
    have := e
    rw [List.length_range] at this
    exact this)]
  rw [List.Nodup, List.pairwise_iff_getElem]
  rw [List.pairwise_iff_getElem] at hs
  have gb : ∀ (j : Nat) (hj : j < s.length), s.toArray[j]! = s[j] := fun j hj => by simp [getElem!_pos, hj]
  constructor
  · intro h i j hi hj hij
    have h1 := h j (List.mem_range.2 hj)
    simp only [Lib.keeps, decide_eq_true_eq] at h1
    have h2 : s.toArray[j]! ≠ s.toArray[j - 1]! := by
      rcases h1 with h1 | h1
      · omega
      · exact h1
    rw [gb j hj, gb (j - 1) (by omega)] at h2
    have h3 := of_decide_eq_true (hs (j - 1) j (by omega) hj (by omega))
    by_cases hij2 : i = j - 1
    · subst hij2; omega
    · have h4 := of_decide_eq_true (hs i (j - 1) hi (by omega) (by omega))
      omega
  · intro h j hj
    rw [List.mem_range] at hj
    simp only [Lib.keeps, decide_eq_true_eq]
    by_cases h0 : j = 0
    · exact .inl h0
    · refine .inr ?_
      rw [gb j hj, gb (j - 1) (by omega)]
      exact fun e => h (j - 1) j (by omega) hj (by omega) e.symm

theorem below_grow {B : Nat} {w0 w : World} (h : Below B w0 w) (hB : B ≤ w.heap.size) (os : Array Obj) : Below B w0 (Sort.grow w os) :=
  ⟨h.os, h.tape, h.output, by have := h.size; simp only [Sort.grow, Array.size_append]; omega, fun k hk => by
    rw [← h.block k hk]
    simp only [Sort.grow]
    exact Array.getElem?_append_left (by omega)⟩

set_option maxHeartbeats 1000000 in
set_option maxRecDepth 100000 in
theorem can_any (a : Option Addr) (len cap : Nat) (l : List Fo) (w : World) (h : Fls w a len l) (hm : len ≤ 1000000) (hc : len ≤ cap) :
    Calls Tryz.prog 43 #[.slice a len cap] w fun e w' => e = .returned (.bool (pcL l)) ∧ Below w.heap.size w w' := by
  have hlen := hidn h.1
  obtain ⟨Z, hZ⟩ : ∃ Z, Z = pcL l := ⟨_, rfl⟩
  rw [← hZ]
  have HZ := hidn hZ
  clear hZ
  go_enter Tryz.func43, Tryz.ntmps43
  go_wp2_with fail
  go_loopw [8] (fun iv wr => ∃ (k : Nat), k ≤ len ∧ iv = .int .i64 (k : Int) ∧ Hid (pcTo l k = true) ∧ Below w.heap.size w wr) (fun iv _ => len - (intOf iv).toNat)
  case atStart => exact ⟨0, Nat.zero_le _, rfl, hidn rfl, Below.refl _ _⟩
  case round =>
    obtain ⟨k, hk, rfl, hO, hb⟩ := hrel
    by_cases hlt : k < len
    · have hlt2 : (k : Int) < (len : Int) := by omega
      obtain ⟨d, hd⟩ : ∃ d, l[k]? = some d := ⟨_, List.getElem?_eq_getElem (by rw [hlen.out]; exact hlt)⟩
      obtain ⟨b, off, rfl, hbk, c0, c1, c2, c3, c4, c5, c6, c7, hms⟩ := (h.below hb).at hd
      have HD : Hid (l[k]? = some d) := hidn hd
      clear hd
      have HF : Hid ((standF d && rkOk l k d) = false → Z = false) := hidn (fun e => by rw [HZ.out]; exact pcL_false HD.out e)
      have HK : Hid ((standF d && rkOk l k d) = true → pcTo l (k + 1) = true) := hidn (fun e => by rw [pcTo_succ, hO.out, pcAt_of HD.out, e]; rfl)
      obtain ⟨wA, hwA⟩ : ∃ wA, wA = wr.alloc (.cells #[.int .i64 d.nu, .int .i64 d.ge, .int .i64 d.lv, .int .i64 d.rk, .int .i64 d.mn, .int .i64 d.mx, .int .i64 d.bt, .slice d.pa d.pl d.pc] 40) := ⟨_, rfl⟩
      have bA : Below wr.heap.size wr wA := by rw [hwA]; exact (Below.refl _ wr).alloc (Nat.le_refl _) _
      have BA := hb.trans (bA.mono hb.size)
      have qA : wA.heap[wr.heap.size]? = some (.cells #[.int .i64 d.nu, .int .i64 d.ge, .int .i64 d.lv, .int .i64 d.rk, .int .i64 d.mn, .int .i64 d.mx, .int .i64 d.bt, .slice d.pa d.pl d.pc] 40 (0, 0)) := by rw [hwA]; exact heap_alloc_new wr _
      have hAs : wr.heap.size < wA.heap.size := (Array.getElem?_eq_some_iff.1 qA).1
      have e3 : wA.cell? ⟨wr.heap.size, 3, none⟩ = some (.int .i64 d.rk) := cell_of_row _ _ _ _ _ _ qA
      have HCS := hidn (canStand_any d wA)
      have HWA := hidn hwA
      clear hwA
      go_wp2_with fail
      rw [← HWA.out]
      refine HCS.out.mono ?_
      rintro e w1 ⟨rfl, b1⟩
      have B1 := BA.trans (b1.mono BA.size)
      have f3 : w1.cell? ⟨wr.heap.size, 3, none⟩ = some (.int .i64 d.rk) := (b1.cell hAs).trans e3
      have D1 : Below w.heap.size w w1.drew := B1.drew
      clear qA e3
      cases hs : standF d with
      | false =>
        have HZ2 := hidn (HF.out (by rw [hs]; rfl))
        clear HF HK hs
        go_wp2_with fail
        exact bodyPost_ret (v := .bool false) (by simp [results, Tryz.results43, go_sem]) rfl ⟨by rw [HZ2.out], B1⟩
      | true =>
        rw [hs] at HF HK
        clear hs
        by_cases hk0 : 0 < k
        · have hk1 : (0 : Int) < (k : Int) := by omega
          obtain ⟨j, hj⟩ : ∃ j, k = j + 1 := ⟨k - 1, by omega⟩
          obtain ⟨g, hg⟩ : ∃ g, l[j]? = some g := ⟨_, List.getElem?_eq_getElem (by rw [hlen.out]; omega)⟩
          obtain ⟨b8, off8, e8, hb8, -, -, -, g3, -⟩ := (h.below B1).at hg
          cases e8
          have hkj : (k : Int) - 1 = (j : Int) := by omega
          have hjl : (j : Int) < (len : Int) := by omega
          have hjl2 : j < len := by omega
          have HR : Hid (rkOk l k d = decide (g.rk < d.rk)) := hidn (by rw [hj]; exact rkOk_succ hg)
          rw [HR.out] at HF HK
          clear hj hg
          by_cases hr : g.rk < d.rk
          · have hr' : ¬ (d.rk ≤ g.rk) := by omega
            have HK2 := hidn (HK.out (by simp [hr]))
            go_wp2_with fail
            go_region
            go_wp2_with fail
            exact ⟨⟨k + 1, by omega, by simp, HK2, D1⟩, by simp [intOf]; omega⟩
          · have hr' : d.rk ≤ g.rk := by omega
            have HZ2 := hidn (HF.out (by simp [hr]))
            go_wp2_with fail
            go_region
            go_wp2_with fail
            exact bodyPost_ret (v := .bool false) (by simp [results, Tryz.results43, go_sem]) rfl ⟨by rw [HZ2.out], D1⟩
        · have hk1 : ¬ (0 : Int) < (k : Int) := by omega
          have HK2 := hidn (HK.out (by rw [show k = 0 from by omega]; rfl))
          go_wp2_with fail
          go_region
          go_wp2_with fail
          exact ⟨⟨k + 1, by omega, by simp, HK2, D1⟩, by simp [intOf]; omega⟩
    · have hlt2 : ¬ (k : Int) < (len : Int) := by omega
      have hT : Hid (pcTo l l.length = true) := hidn (by
        have e : k = l.length := by rw [hlen.out]; omega
        rw [← e]
        exact hO.out)
      have HNU := hidn (numbers_any a len cap l wr (h.below hb) hm)
      obtain ⟨xs, hxs⟩ : ∃ xs, xs = l.map Fo.nu := ⟨_, rfl⟩
      have hxl : xs.length = len := by rw [hxs, List.length_map, hlen.out]
      have HZN : Hid (Z = nodupB xs) := hidn (by rw [HZ.out, hxs]; unfold pcL; rw [hT.out]; rfl)
      rw [← hxs] at HNU
      clear hxs
      go_wp2_with fail
      refine HNU.out.mono ?_
      rintro e w1 ⟨rfl, o1, b1⟩
      have B1 := hb.trans (b1.mono hb.size)
      obtain ⟨g, cp, e9, hg1, hg2, -, -, -, hH⟩ := Lib.holds_of_ownsRow (enc := Value.int .i64) (zs := xs) o1 (by simp)
      obtain rfl : g = wr.heap.size := by
        injection e9 with e1 _ e3
        injection e1 with e1
        injection e1 with e1
        exact e1.symm
      clear e9
      have HS := hidn (Tryz.slices_Sort_int wr.heap.size 0 len xs w1 hH hg2 (by omega))
      rw [hxl] at HS
      go_wp2_with fail
      refine HS.out.mono ?_
      rintro e w2 ⟨rfl, n2, os2, hw2⟩
      obtain ⟨ys, hys⟩ : ∃ ys, ys = xs.mergeSort fun x y => decide (x ≤ y) := ⟨_, rfl⟩
      have hyl : ys.length = len := by rw [hys, List.length_mergeSort, hxl]
      rw [← hys] at hw2
      have hH1 : Sort.Holds (Value.int .i64) (Sort.ahead w1 n2) wr.heap.size 0 xs.toArray := hH
      have hH2 : Sort.Holds (Value.int .i64) w2 wr.heap.size 0 ys.toArray := by
        rw [hw2]
        refine Sort.holds_grow _ _ _ _ _ _ (by simpa using hg2) ?_
        exact Sort.holds_putRow _ _ _ _ xs.toArray ys.toArray hH1 (by simp [hyl, hxl])
      have b2 : Below wr.heap.size w1 w2 := by
        rw [hw2]
        refine below_grow (Lib.below_putRow (Below.refl _ _) (Nat.le_refl _)) ?_ _
        simpa using Nat.le_of_lt hg2
      have B2 := B1.trans (b2.mono hb.size)
      have HC := hidn (Tryz.slices_Compact_int wr.heap.size 0 len ys w2 hH2 (by omega) (by omega))
      rw [hyl] at HC
      obtain ⟨m, hmm⟩ : ∃ m, m = (Lib.compact ys).length := ⟨_, rfl⟩
      rw [← hmm] at HC
      have HM : Hid ((m = len) ↔ nodupB xs = true) := hidn (by rw [hmm, hys, ← hxl]; exact compact_nodup xs)
      clear hmm hys hw2 hxl hyl
      go_wp2_with fail
      refine HC.out.mono ?_
      rintro e w3 ⟨rfl, q3, hw3⟩
      have b3 : Below wr.heap.size w2 w3 := by rw [hw3]; exact Lib.below_putRow (Below.refl _ _) (Nat.le_refl _)
      have B3 := B2.trans (b3.mono hb.size)
      clear hw3
      by_cases hml : m = len
      · have hml2 : ((m : Int) == (len : Int)) = true := by simp [hml]
        have HZ2 : Hid (Z = true) := hidn (by rw [HZN.out]; exact HM.out.1 hml)
        clear hml
        go_wp2_with fail
        exact bodyPost_ret (v := .bool true) (by simp [results, Tryz.results43, go_sem]) rfl ⟨by rw [HZ2.out], B3⟩
      · have hml2 : ((m : Int) == (len : Int)) = false := by simp; omega
        have HZ2 : Hid (Z = false) := hidn (by rw [HZN.out, Bool.eq_false_iff]; exact fun e => hml (HM.out.2 e))
        clear hml
        go_wp2_with fail
        exact bodyPost_ret (v := .bool false) (by simp [results, Tryz.results43, go_sem]) rfl ⟨by rw [HZ2.out], B3⟩

end Go.Proofs.YteammmhlpinhfaaGreatDoor
