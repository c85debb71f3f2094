/- MergeLast: one list alone, and with a lesser one. -/
import Derived.Test.YtccjgciknaooaaaHkA
namespace Go.Proofs.Ytccjgciknaooaaa
open Go.RowKit Go.Joins
set_option linter.unusedVariables false
set_option linter.unusedSimpArgs false

theorem cell_fr {W W' : World} {p : Addr} (h : W'.heap[p.block]? = W.heap[p.block]?) : W'.cell? p = W.cell? p := by
  unfold World.cell?
  rw [h]

theorem gps_nil (W : World) : Gps W none 0 [] := ⟨rfl, Nat.zero_le _, fun _ => rfl, by simp⟩
theorem gp_ok0 : ∀ i, GpOK (gpD [] i) := fun i => by
  unfold gpD GpOK
  simp
theorem rks_one {W : World} {b m cap : Nat} {rank : Int} {a : Option Addr} {L : List Sam} (h0 : W.heap[b]? = some (.cells #[.int .i64 rank, .slice a m cap] 47 (0, 0))) (hs : Sm W a m L) (hc : m ≤ cap) : Rks W (some ⟨b, 0, none⟩) 1 [⟨rank, a, m, cap, L⟩] := by
  refine ⟨rfl, by unfold maxLen; omega, fun j r hj => ?_, fun _ => ⟨b, 0, rfl, fun j r hj => ?_⟩⟩
  · match j, hj with
    | 0, hj => cases hj; exact ⟨hs, hc⟩
  · match j, hj with
    | 0, hj => cases hj; exact ⟨cell_of_row _ _ _ _ _ _ h0, cell_of_row _ _ _ _ _ _ h0⟩
theorem rks_pair {W : World} {b m cap m2 cap2 : Nat} {rank r2 : Int} {a a2 : Option Addr} {L L2 : List Sam} (h0 : W.heap[b]? = some (.cells #[.int .i64 rank, .slice a m cap, .int .i64 r2, .slice a2 m2 cap2] 47 (0, 0))) (hs : Sm W a m L) (hc : m ≤ cap) (hs2 : Sm W a2 m2 L2) (hc2 : m2 ≤ cap2) : Rks W (some ⟨b, 0, none⟩) 2 [⟨rank, a, m, cap, L⟩, ⟨r2, a2, m2, cap2, L2⟩] := by
  refine ⟨rfl, by unfold maxLen; omega, fun j r hj => ?_, fun _ => ⟨b, 0, rfl, fun j r hj => ?_⟩⟩
  · match j, hj with
    | 0, hj => cases hj; exact ⟨hs, hc⟩
    | 1, hj => cases hj; exact ⟨hs2, hc2⟩
  · match j, hj with
    | 0, hj => cases hj; exact ⟨cell_of_row _ _ _ _ _ _ h0, cell_of_row _ _ _ _ _ _ h0⟩
    | 1, hj => cases hj; exact ⟨cell_of_row _ _ _ _ _ _ h0, cell_of_row _ _ _ _ _ _ h0⟩

set_option maxHeartbeats 4000000 in
set_option maxRecDepth 100000 in
theorem allF_any (b : Nat) (a : Option Addr) (len c : Nat) (l : List Sam) (w : World) (hc : CurB w b (.slice a len c)) (h : Sm w a len l) (hm : len ≤ 1000000) :
    Calls Try.prog 11 #[.pointer (some ⟨b, 0, none⟩)] w fun e w' => ∃ v, e = .returned v ∧ w'.ownsRow w.heap.size 36 2 v len (vsm l) ∧ CurB w' b (.slice none 0 0) ∧ (∀ n, n ≤ w.heap.size → n ≤ b → Below n w w') ∧ ∀ k, k < w.heap.size → k ≠ b → w'.heap[k]? = w.heap[k]? := by
  have h0 : w.cell? ⟨b, 0, none⟩ = some (.slice a len c) := cell_of_row w b 0 _ _ _ hc
  have hbs := (Array.getElem?_eq_some_iff.1 hc).1
  have HC := hidn (samClone_any a len c l w h hm)
  have HQ := hidn hc
  clear hc h
  go_enter Try.func11, Try.ntmps11
  go_wp2_with fail
  refine HC.out.mono ?_
  rintro e w1 ⟨v1, rfl, o1, b1⟩
  have q1 : CurB w1 b (.slice a len c) := (b1.block b hbs).trans HQ.out
  have h1 : w1.cell? ⟨b, 0, none⟩ = some (.slice a len c) := cell_of_row w1 b 0 _ _ _ q1
  have u1 := unfrozen_of_block q1 0
  have HE : Hid (CurB (w1.setCell ⟨b, 0, none⟩ (.slice none 0 0)) b (.slice none 0 0)) := hidn (block_setCell q1 _)
  have HO : Hid ((w1.setCell ⟨b, 0, none⟩ (.slice none 0 0)).ownsRow w.heap.size 36 2 v1 len (vsm l)) := hidn (own_stay o1 (fun k hk => Below.heap_setCell _ ⟨b, 0, none⟩ _ _ (fun e => by
    have h9 := (o1.lt k hk).1
    have e9 : k = b := e
    omega)))
  have HB : Hid (∀ n, n ≤ w.heap.size → n ≤ b → Below n w (w1.setCell ⟨b, 0, none⟩ (.slice none 0 0))) := hidn (fun n hn hnb => (b1.mono hn).setCell (p := ⟨b, 0, none⟩) hnb _)
  have HFM : Hid (∀ k, k < w.heap.size → k ≠ b → (w1.setCell ⟨b, 0, none⟩ (.slice none 0 0)).heap[k]? = w.heap[k]?) := hidn (fun k hk h9 => (Below.heap_setCell _ ⟨b, 0, none⟩ _ _ h9).trans (b1.block k hk))
  obtain ⟨av, cv, rfl⟩ := own_slice o1
  clear o1 b1 q1 HC HQ
  go_wp2_with fail
  go_ret
  exact ⟨_, rfl, HO.out, HE.out, HB.out, HFM.out⟩

set_option maxHeartbeats 16000000 in
set_option maxRecDepth 100000 in
theorem mergeLast_walk (a : Option Addr) (len cap : Nat) (l : List Sam) (rank : Int) (b : Option Addr) (len2 cap2 : Nat) (o : List Sam) (w : World) (h : Sm w a len l) (hlc : len ≤ cap) (hr : -9223372036854775808 ≤ rank ∧ rank ≤ 9223372036854775807) (h2 : Sm w b len2 o) (hlc2 : len2 ≤ cap2) :
    Calls Try.prog 5 #[.slice a len cap, .int .i64 rank, .slice b len2 cap2] w fun e w' => e = .returned (.bool true) ∧ Below w.heap.size w w' := by
  obtain ⟨m, hm⟩ : ∃ m, m = min len 30 := ⟨_, rfl⟩
  obtain ⟨n, hn⟩ : ∃ n, n = min len2 30 := ⟨_, rfl⟩
  have m1 : min (len : Int) 30 = (m : Int) := by omega
  have m2 : (if (30 : Int) < (len : Int) then (30 : Int) else (len : Int)) = (m : Int) := by split <;> omega
  have m3 : (if 30 < len then (30 : Int) else (len : Int)) = (m : Int) := by split <;> omega
  have n1 : min (len2 : Int) 30 = (n : Int) := by omega
  have n2 : (if (30 : Int) < (len2 : Int) then (30 : Int) else (len2 : Int)) = (n : Int) := by split <;> omega
  have n3 : (if 30 < len2 then (30 : Int) else (len2 : Int)) = (n : Int) := by split <;> omega
  have hmc : m ≤ cap := by omega
  have hnc : n ≤ cap2 := by omega
  have hm30 : m ≤ 30 := by omega
  have hn30 : n ≤ 30 := by omega
  have HSL0 := hidn (h.take m (by omega))
  have HSO0 := hidn (h2.take n (by omega))
  obtain ⟨L, hL⟩ : ∃ L, L = l.take m := ⟨_, rfl⟩
  obtain ⟨O, hO⟩ : ∃ O, O = o.take n := ⟨_, rfl⟩
  rw [← hL] at HSL0
  rw [← hO] at HSO0
  have HSL := hidn HSL0.out
  have HSO := hidn HSO0.out
  have HNL : Hid (L.length = m) := hidn HSL.out.1
  have HNO : Hid (O.length = n) := hidn HSO.out.1
  have hokl : ∀ s ∈ L, SamOK s := fun s hs => by
    obtain ⟨i, hi, he⟩ := mem_at.1 hs
    rw [← he]; exact HSL.out.2.2.1 i
  have hoko : ∀ s ∈ O, SamOK s := fun s hs => by
    obtain ⟨i, hi, he⟩ := mem_at.1 hs
    rw [← he]; exact HSO.out.2.2.1 i
  have HOKL := hidn hokl
  have HOKO := hidn hoko
  have HRK := hidn hr
  clear h h2 hm hn hL hO HSL0 HSO0 hokl hoko hr
  go_enter Try.func5, Try.ntmps5
  go_wp2_with fail
  refine wp_region_noPanic ?_
  refine wp_region_held_drew (S := fun w' => Below w.heap.size w w') (by kernel_rfl) ((Below.refl _ w).drew) (fun hHeld => ?_)
  refine drawn_take (i := 0) (v := .slice a len cap) (some 16) rfl rfl (by kernel_rfl) (by kernel_rfl) (by kernel_rfl) (fun _ _ _ h => h) (Or.inl ⟨by kernel_rfl, fun wq hw => by go_simp⟩) hHeld ?_
  simp only [Act.put, List.setIfInBounds_toArray, List.set_cons_succ, List.set_cons_zero]
  refine drawn_take (i := 1) (v := .slice a len cap) (some 17) rfl rfl (by kernel_rfl) (by kernel_rfl) (by kernel_rfl) (fun _ _ _ h => h) (Or.inl ⟨by kernel_rfl, fun wq hw => by go_simp⟩) hHeld ?_
  simp only [Act.put, List.setIfInBounds_toArray, List.set_cons_succ, List.set_cons_zero]
  refine drawn_take (i := 2) (v := .int .i64 (len : Int)) (some 18) rfl rfl (by kernel_rfl) (by kernel_rfl) (by kernel_rfl) (fun _ _ _ h => h) (Or.inl ⟨by kernel_rfl, fun wq hw => by go_simp⟩) hHeld ?_
  simp only [Act.put, List.setIfInBounds_toArray, List.set_cons_succ, List.set_cons_zero]
  refine drawn_take (i := 3) (v := .int .i64 (m : Int)) (some 19) rfl rfl (by kernel_rfl) (by kernel_rfl) (by kernel_rfl) (fun _ _ _ h => h) (Or.inl ⟨by kernel_rfl, fun wq hw => by go_simp <;> omega⟩) hHeld ?_
  simp only [Act.put, List.setIfInBounds_toArray, List.set_cons_succ, List.set_cons_zero]
  refine drawn_take (i := 4) (v := .slice a m cap) (some 20) rfl rfl (by kernel_rfl) (by kernel_rfl) (by kernel_rfl) (fun _ _ _ h => h) (Or.inl ⟨by kernel_rfl, fun wq hw => sm_slH (N := len) (x := .tmp 16) (z := .tmp 19) rfl (by kernel_rfl) (by kernel_rfl) hmc⟩) hHeld ?_
  simp only [Act.put, List.setIfInBounds_toArray, List.set_cons_succ, List.set_cons_zero]
  refine drawn_take (i := 5) (v := .slice b len2 cap2) (some 21) rfl rfl (by kernel_rfl) (by kernel_rfl) (by kernel_rfl) (fun _ _ _ h => h) (Or.inl ⟨by kernel_rfl, fun wq hw => by go_simp⟩) hHeld ?_
  simp only [Act.put, List.setIfInBounds_toArray, List.set_cons_succ, List.set_cons_zero]
  refine drawn_take (i := 6) (v := .slice b len2 cap2) (some 22) rfl rfl (by kernel_rfl) (by kernel_rfl) (by kernel_rfl) (fun _ _ _ h => h) (Or.inl ⟨by kernel_rfl, fun wq hw => by go_simp⟩) hHeld ?_
  simp only [Act.put, List.setIfInBounds_toArray, List.set_cons_succ, List.set_cons_zero]
  refine drawn_take (i := 7) (v := .int .i64 (len2 : Int)) (some 23) rfl rfl (by kernel_rfl) (by kernel_rfl) (by kernel_rfl) (fun _ _ _ h => h) (Or.inl ⟨by kernel_rfl, fun wq hw => by go_simp⟩) hHeld ?_
  simp only [Act.put, List.setIfInBounds_toArray, List.set_cons_succ, List.set_cons_zero]
  refine drawn_take (i := 8) (v := .int .i64 (n : Int)) (some 24) rfl rfl (by kernel_rfl) (by kernel_rfl) (by kernel_rfl) (fun _ _ _ h => h) (Or.inl ⟨by kernel_rfl, fun wq hw => by go_simp <;> omega⟩) hHeld ?_
  simp only [Act.put, List.setIfInBounds_toArray, List.set_cons_succ, List.set_cons_zero]
  refine drawn_take (i := 9) (v := .slice b n cap2) (some 25) rfl rfl (by kernel_rfl) (by kernel_rfl) (by kernel_rfl) (fun _ _ _ h => h) (Or.inl ⟨by kernel_rfl, fun wq hw => sm_slH (N := len2) (x := .tmp 21) (z := .tmp 24) rfl (by kernel_rfl) (by kernel_rfl) hnc⟩) hHeld ?_
  simp only [Act.put, List.setIfInBounds_toArray, List.set_cons_succ, List.set_cons_zero]
  refine drawn_take (i := 10) (v := .slice a m cap) (some 0) rfl rfl (by kernel_rfl) (by kernel_rfl) (by kernel_rfl) (fun _ _ _ h => h) (Or.inl ⟨by kernel_rfl, fun wq hw => by go_simp⟩) hHeld ?_
  simp only [Act.put, List.setIfInBounds_toArray, List.set_cons_succ, List.set_cons_zero]
  refine drawn_take (i := 11) (v := .slice b n cap2) (some 2) rfl rfl (by kernel_rfl) (by kernel_rfl) (by kernel_rfl) (fun _ _ _ h => h) (Or.inl ⟨by kernel_rfl, fun wq hw => by go_simp⟩) hHeld ?_
  simp only [Act.put, List.setIfInBounds_toArray, List.set_cons_succ, List.set_cons_zero]
  refine wpAnyH_done (by kernel_rfl) ?_ _
  refine NoPanic.normal ?_
  clear hHeld
  obtain ⟨w1, hw1⟩ : ∃ w1, w1 = w.drew := ⟨_, rfl⟩
  rw [← hw1]
  have HB1 : Hid (Below w.heap.size w w1) := hidn (by rw [hw1]; exact (Below.refl _ w).drew)
  clear hw1 m1 m2 m3 n1 n2 n3
  by_cases hrm : rank = (-9223372036854775808)
  · have HA := hidn (awake26 w1)
    go_wp2_with fail
    refine HA.out.mono ?_
    rintro e WX ⟨rfl, bx⟩
    have HBX := hidn (HB1.out.trans (bx.mono HB1.out.size))
    clear bx
    go_wp2_with fail
    go_ret
    exact ⟨rfl, HBX.out⟩
  · obtain ⟨w2, hw2⟩ : ∃ w2, w2 = w1.alloc (.cells #[.int .i64 rank, .slice a m cap] 47) := ⟨_, rfl⟩
    have b2 : Below w1.heap.size w1 w2 := by rw [hw2]; exact (Below.refl _ w1).alloc (Nat.le_refl _) _
    have q2 : w2.heap[w1.heap.size]? = some (.cells #[.int .i64 rank, .slice a m cap] 47 (0, 0)) := by rw [hw2]; exact heap_alloc_new w1 _
    have HB2 := hidn (HB1.out.trans (b2.mono HB1.out.size))
    have HMG := hidn (refMerged_any (some ⟨w1.heap.size, 0, none⟩) 1 1 [⟨rank, a, m, cap, L⟩] (-9223372036854775808) none 0 0 [] w2 (rks_one q2 (HSL.out.below HB2.out) hmc) (by omega) (by simp only [totZ]; rw [HNL.out]; omega) (gps_nil _))
    have HW2 := hidn hw2
    clear hw2 b2 q2
    go_wp2_with fail
    rw [← HW2.out]
    refine HMG.out.mono ?_
    intro e w3 hq
    rcases hq with ⟨hbd, rfl, b3⟩ | ⟨hbd, v3, T3, rfl, ht3, hl3, ho3, b3⟩
    · have HB3 := hidn (HB2.out.trans (b3.mono HB2.out.size))
      have HBD := hidn hbd
      clear hbd b3 HMG
      go_wp2_with fail
      go_loopw [9, 39] (fun tv iv wr => ∃ k q : Nat, k ≤ n ∧ q ≤ k ∧ iv = .int .i64 (k : Int) ∧ Hid (Below w3.heap.size w3 wr) ∧ Hid (wr.ownsRow w3.heap.size 36 2 tv q (vsm (lowS L (O.take k))))) (fun _ iv _ => n - (intOf iv).toNat)
      case atStart => exact ⟨0, 0, Nat.zero_le _, Nat.le_refl _, rfl, hidn (Below.refl _ _), hidn (World.ownsRow_nil _ _ _ _)⟩
      case round =>
        obtain ⟨k, q, hk, hqk, rfl, HB, HO⟩ := hrel
        obtain ⟨wo, hwo⟩ : ∃ wo, wo = wr := ⟨_, rfl⟩
        subst hwo
        have HBW := hidn (HB3.out.trans (HB.out.mono HB3.out.size))
        by_cases hlt : k < n
        · have hlt2 : (k : Int) < (n : Int) := by omega
          obtain ⟨ob, oo, hob, hbs, hcl⟩ := HSO.out.pos (by omega)
          subst hob
          have c0 : wo.cell? ⟨ob, oo + k * 2, none⟩ = some (.int .i64 (samD O k).t) := (HBW.out.cell (p := ⟨ob, oo + k * 2, none⟩) hbs).trans (hcl k hlt).1
          have c1 : wo.cell? ⟨ob, oo + k * 2 + 1, none⟩ = some (.int .u64 ((samD O k).v : Int)) := (HBW.out.cell (p := ⟨ob, oo + k * 2 + 1, none⟩) hbs).trans (hcl k hlt).2
          have HMR := hidn (lowS_more L O k (by rw [HNO.out]; exact hlt))
          obtain ⟨ts, hts⟩ : ∃ x, x = (samD O k).t := ⟨_, rfl⟩
          obtain ⟨vs, hvs⟩ : ∃ x, x = (samD O k).v := ⟨_, rfl⟩
          rw [← hts] at c0 HMR
          rw [← hvs] at c1
          have HSV : Hid ((⟨ts, vs⟩ : Sam) = samD O k) := hidn (by rw [hts, hvs])
          obtain ⟨w5, hw5⟩ : ∃ w5, w5 = wo.alloc (.cells #[.int .i64 ts, .int .u64 (vs : Int)] 36) := ⟨_, rfl⟩
          have b5 : Below wo.heap.size wo w5 := by rw [hw5]; exact (Below.refl _ wo).alloc (Nat.le_refl _) _
          have q5 : w5.heap[wo.heap.size]? = some (.cells #[.int .i64 ts, .int .u64 (vs : Int)] 36 (0, 0)) := by rw [hw5]; exact heap_alloc_new wo _
          have HQ5 := hidn q5
          have HB5 := hidn (HB.out.trans (b5.mono HB.out.size))
          have HO5 := hidn (own_skip HO.out b5)
          have HC := hidn (hasT_any wo.heap.size a m cap L ts w5 (cell_of_row _ _ _ _ _ _ q5) (HSL.out.below (HB3.out.trans (HB5.out.mono HB3.out.size))))
          obtain ⟨hb, hhb⟩ : ∃ hb, hb = hasT L ts := ⟨_, rfl⟩
          rw [← hhb] at HC HMR
          have HW5 := hidn hw5
          clear hcl hts hvs hhb hw5 b5 q5
          go_wp2_with fail
          rw [← HW5.out]
          refine HC.out.mono ?_
          rintro e w6 ⟨rfl, b6⟩
          have HB6 := hidn (HB5.out.trans (b6.mono HB5.out.size))
          have HO6 := hidn (own_skip HO5.out b6)
          have q6 := (b6.block _ (Array.getElem?_eq_some_iff.1 HQ5.out).1).trans HQ5.out
          have e0 : w6.cell? ⟨wo.heap.size, 0, none⟩ = some (.int .i64 ts) := cell_of_row _ _ _ _ _ _ q6
          have e1 : w6.cell? ⟨wo.heap.size, 1, none⟩ = some (.int .u64 (vs : Int)) := cell_of_row _ _ _ _ _ _ q6
          clear b6 q6
          cases hb
          · have HON : Hid (w6.ownsRow w3.heap.size 36 2 u9 q (vsm (lowS L (O.take (k + 1))))) := hidn (by
              have z := HMR.out
              simp at z
              rw [z]; exact HO6.out)
            go_wp2_with fail
            go_roundw
            case rel => exact ⟨k + 1, q, by omega, by omega, by first | rfl | simp, HB6, HON⟩
            case measure => simp [intOf]; omega
          · obtain ⟨w7, hw7⟩ : ∃ w7, w7 = w6.alloc (.cells #[.int .i64 ts, .int .u64 (vs : Int)] 36) := ⟨_, rfl⟩
            have b7 : Below w6.heap.size w6 w7 := by rw [hw7]; exact (Below.refl _ w6).alloc (Nat.le_refl _) _
            have q7 : w7.heap[w6.heap.size]? = some (.cells #[.int .i64 ts, .int .u64 (vs : Int)] 36 (0, 0)) := by rw [hw7]; exact heap_alloc_new w6 _
            obtain ⟨g, c', w8, hr, ho8, hg8⟩ := app_sam1 (own_skip HO6.out b7) (Nat.le_trans HB6.out.size b7.size) (by omega) (⟨ts, vs⟩ : Sam) ⟨w6.heap.size, 0, none⟩ (cell_of_row _ _ _ _ _ _ q7) (cell_of_row _ _ 1 _ _ _ q7)
            have HR := hidn hr
            have HW7 := hidn hw7
            have HB8 : Hid (Below w3.heap.size w3 w8) := hidn ((HB6.out.trans (b7.mono HB6.out.size)).grown hg8 (Nat.le_trans HB6.out.size b7.size) (fun k hk => (HO6.out.lt k hk).1))
            have HON : Hid (w8.ownsRow w3.heap.size 36 2 (.slice (some ⟨g, 0, none⟩) (q + 1) c') (q + 1) (vsm (lowS L (O.take (k + 1))))) := hidn (by
              have z := HMR.out
              simp at z
              rw [z, ← HSV.out]; exact ho8)
            clear hr hw7 b7 q7 ho8 hg8
            go_wp2_with (at_builtin; rw [← HW7.out]; refine wpList_app_run2 rfl (.tmp 46) (.tmp 48) 25 25 rfl rfl u9 (.slice (some ⟨w6.heap.size, 0, none⟩) 1 1) _ rfl rfl HR.out ?_)
            go_roundw
            case rel => exact ⟨k + 1, q + 1, by omega, by omega, by first | rfl | simp, HB8, HON⟩
            case measure => simp [intOf]; omega
        · have hlt2 : ¬ (k : Int) < (n : Int) := by omega
          have HTK : Hid (O.take k = O) := hidn (List.take_of_length_le (by rw [HNO.out]; omega))
          have HON : Hid (wo.ownsRow w3.heap.size 36 2 u9 q (vsm (lowS L O))) := hidn (by have z := HO.out; rwa [HTK.out] at z)
          obtain ⟨fa, fc, hv, hfc, hF⟩ := sm_of_own HON.out (samD_ok (fun s hs => HOKO.out s (List.mem_filter.1 hs).1))
          subst hv
          have HF := hidn hF
          obtain ⟨w9, hw9⟩ : ∃ w9, w9 = wo.alloc (.cells #[.int .i64 rank, .slice a m cap] 47) := ⟨_, rfl⟩
          have b9 : Below wo.heap.size wo w9 := by rw [hw9]; exact (Below.refl _ wo).alloc (Nat.le_refl _) _
          have q9 : w9.heap[wo.heap.size]? = some (.cells #[.int .i64 rank, .slice a m cap] 47 (0, 0)) := by rw [hw9]; exact heap_alloc_new wo _
          have HB39 := hidn (HB.out.trans (b9.mono HB.out.size))
          have HB9 := hidn (HB3.out.trans (HB39.out.mono HB3.out.size))
          have HF9 := hidn (hF.below b9)
          have HOA := hidn (open_any (some ⟨wo.heap.size, 0, none⟩) 1 1 [⟨rank, a, m, cap, L⟩] (-9223372036854775808) none 0 0 [] w9 (rks_one q9 (HSL.out.below HB9.out) hmc) (by omega) (by simp only [totZ]; rw [HNL.out]; omega) (gps_nil _) (by omega) gp_ok0)
          have HW9 := hidn hw9
          clear hF hw9 b9 q9
          go_wp2_with fail
          rw [← HW9.out]
          refine HOA.out.mono ?_
          intro e w10 hq
          have HQ10 := hidn hq
          clear hq
          rcases HQ10.out with ⟨_, rfl, ba⟩ | ⟨hb9, _⟩
          · have HBA := hidn ba
            clear ba HQ10
            obtain ⟨w11, hw11⟩ : ∃ w11, w11 = w10.alloc (.cells #[.int .i64 rank, .slice a m cap, .int .i64 (-9223372036854775808), .slice fa q fc] 47) := ⟨_, rfl⟩
            have b11 : Below w10.heap.size w10 w11 := by rw [hw11]; exact (Below.refl _ w10).alloc (Nat.le_refl _) _
            have q11 : w11.heap[w10.heap.size]? = some (.cells #[.int .i64 rank, .slice a m cap, .int .i64 (-9223372036854775808), .slice fa q fc] 47 (0, 0)) := by rw [hw11]; exact heap_alloc_new w10 _
            have HB10 := hidn (HB9.out.trans (HBA.out.mono HB9.out.size))
            have HB11 := hidn (HB10.out.trans (b11.mono HB10.out.size))
            have hql : q ≤ 30 := by omega
            have HLL : Hid ((lowS L O).length = q) := hidn HF.out.1
            have HOB := hidn (open_any (some ⟨w10.heap.size, 0, none⟩) 2 2 [⟨rank, a, m, cap, L⟩, ⟨(-9223372036854775808), fa, q, fc, lowS L O⟩] (-9223372036854775808) none 0 0 [] w11 (rks_pair q11 (HSL.out.below HB11.out) hmc ((HF9.out.below HBA.out).below b11) hfc) (by omega) (by simp only [totZ]; rw [HNL.out, HLL.out]; omega) (gps_nil _) (by omega) gp_ok0)
            have HW11 := hidn hw11
            have HP11 := hidn b11
            clear hw11 b11 q11
            go_wp2_with fail
            rw [← HW11.out]
            refine HOB.out.mono ?_
            intro e w12 hq
            have HQ12 := hidn hq
            clear hq
            rcases HQ12.out with ⟨_, rfl, bb⟩ | ⟨hb9, _⟩
            · have HBB := hidn bb
              clear bb HQ12
              have HB12 := hidn (HB11.out.trans (HBB.out.mono HB11.out.size))
              have HA := hidn (awake26 w12)
              go_wp2_with fail
              refine HA.out.mono ?_
              rintro e WX ⟨rfl, bx⟩
              have HBX := hidn (HB12.out.trans (bx.mono HB12.out.size))
              clear bx
              go_wp2_with fail
              go_ret
              exact ⟨rfl, HBX.out⟩
            · have h9 := badM_at (l := [⟨rank, a, m, cap, L⟩, ⟨(-9223372036854775808), fa, q, fc, lowS L O⟩]) (k := 0) rfl (show riseB L = false by
                cases hc : riseB L
                · rfl
                · have h8 := HBD.out
                  rw [badM_no (l := [⟨rank, a, m, cap, L⟩]) (by simp) (fun k r hk => by
                    match k, hk with
                    | 0, hk => cases hk; exact hc)] at h8
                  cases h8)
              rw [hb9] at h9
              cases h9
          · rw [HBD.out] at hb9
            cases hb9
    · have hup : UpZ L := upZ_of ((badM_of hbd).2 0 _ rfl)
      have hlo : ∀ y ∈ L, (-9223372036854775808) ≤ y.t := fun y hy => (HOKL.out y hy).1
      have h1 : TellP [⟨rank, a, m, cap, L⟩] (-9223372036854775808) [] L := tell_one hup hlo
      have e3 : T3 = L := ht3.same h1
      have e3 := e3.symm
      subst e3
      obtain ⟨a3, c3, rfl, _, hs3⟩ := sm_of_own ho3 (samD_ok HOKL.out)
      have HB3 := hidn (HB2.out.trans (b3.mono HB2.out.size))
      have HS3 := hidn hs3
      have HBD := hidn hbd
      have HT1 := hidn h1
      have HUPL := hidn hup
      have HLO := hidn hlo
      clear hbd b3 HMG ht3 hl3 ho3 hs3 hup hlo h1
      go_wp2_with fail
      go_loopw [9, 39] (fun tv iv wr => ∃ k q : Nat, k ≤ n ∧ q ≤ k ∧ iv = .int .i64 (k : Int) ∧ Hid (Below w3.heap.size w3 wr) ∧ Hid (wr.ownsRow w3.heap.size 36 2 tv q (vsm (lowS L (O.take k))))) (fun _ iv _ => n - (intOf iv).toNat)
      case atStart => exact ⟨0, 0, Nat.zero_le _, Nat.le_refl _, rfl, hidn (Below.refl _ _), hidn (World.ownsRow_nil _ _ _ _)⟩
      case round =>
        obtain ⟨k, q, hk, hqk, rfl, HB, HO⟩ := hrel
        obtain ⟨wo, hwo⟩ : ∃ wo, wo = wr := ⟨_, rfl⟩
        subst hwo
        have HBW := hidn (HB3.out.trans (HB.out.mono HB3.out.size))
        by_cases hlt : k < n
        · have hlt2 : (k : Int) < (n : Int) := by omega
          obtain ⟨ob, oo, hob, hbs, hcl⟩ := HSO.out.pos (by omega)
          subst hob
          have c0 : wo.cell? ⟨ob, oo + k * 2, none⟩ = some (.int .i64 (samD O k).t) := (HBW.out.cell (p := ⟨ob, oo + k * 2, none⟩) hbs).trans (hcl k hlt).1
          have c1 : wo.cell? ⟨ob, oo + k * 2 + 1, none⟩ = some (.int .u64 ((samD O k).v : Int)) := (HBW.out.cell (p := ⟨ob, oo + k * 2 + 1, none⟩) hbs).trans (hcl k hlt).2
          have HMR := hidn (lowS_more L O k (by rw [HNO.out]; exact hlt))
          obtain ⟨ts, hts⟩ : ∃ x, x = (samD O k).t := ⟨_, rfl⟩
          obtain ⟨vs, hvs⟩ : ∃ x, x = (samD O k).v := ⟨_, rfl⟩
          rw [← hts] at c0 HMR
          rw [← hvs] at c1
          have HSV : Hid ((⟨ts, vs⟩ : Sam) = samD O k) := hidn (by rw [hts, hvs])
          obtain ⟨w5, hw5⟩ : ∃ w5, w5 = wo.alloc (.cells #[.int .i64 ts, .int .u64 (vs : Int)] 36) := ⟨_, rfl⟩
          have b5 : Below wo.heap.size wo w5 := by rw [hw5]; exact (Below.refl _ wo).alloc (Nat.le_refl _) _
          have q5 : w5.heap[wo.heap.size]? = some (.cells #[.int .i64 ts, .int .u64 (vs : Int)] 36 (0, 0)) := by rw [hw5]; exact heap_alloc_new wo _
          have HQ5 := hidn q5
          have HB5 := hidn (HB.out.trans (b5.mono HB.out.size))
          have HO5 := hidn (own_skip HO.out b5)
          have HC := hidn (hasT_any wo.heap.size a m cap L ts w5 (cell_of_row _ _ _ _ _ _ q5) (HSL.out.below (HB3.out.trans (HB5.out.mono HB3.out.size))))
          obtain ⟨hb, hhb⟩ : ∃ hb, hb = hasT L ts := ⟨_, rfl⟩
          rw [← hhb] at HC HMR
          have HW5 := hidn hw5
          clear hcl hts hvs hhb hw5 b5 q5
          go_wp2_with fail
          rw [← HW5.out]
          refine HC.out.mono ?_
          rintro e w6 ⟨rfl, b6⟩
          have HB6 := hidn (HB5.out.trans (b6.mono HB5.out.size))
          have HO6 := hidn (own_skip HO5.out b6)
          have q6 := (b6.block _ (Array.getElem?_eq_some_iff.1 HQ5.out).1).trans HQ5.out
          have e0 : w6.cell? ⟨wo.heap.size, 0, none⟩ = some (.int .i64 ts) := cell_of_row _ _ _ _ _ _ q6
          have e1 : w6.cell? ⟨wo.heap.size, 1, none⟩ = some (.int .u64 (vs : Int)) := cell_of_row _ _ _ _ _ _ q6
          clear b6 q6
          cases hb
          · have HON : Hid (w6.ownsRow w3.heap.size 36 2 u9 q (vsm (lowS L (O.take (k + 1))))) := hidn (by
              have z := HMR.out
              simp at z
              rw [z]; exact HO6.out)
            go_wp2_with fail
            go_roundw
            case rel => exact ⟨k + 1, q, by omega, by omega, by first | rfl | simp, HB6, HON⟩
            case measure => simp [intOf]; omega
          · obtain ⟨w7, hw7⟩ : ∃ w7, w7 = w6.alloc (.cells #[.int .i64 ts, .int .u64 (vs : Int)] 36) := ⟨_, rfl⟩
            have b7 : Below w6.heap.size w6 w7 := by rw [hw7]; exact (Below.refl _ w6).alloc (Nat.le_refl _) _
            have q7 : w7.heap[w6.heap.size]? = some (.cells #[.int .i64 ts, .int .u64 (vs : Int)] 36 (0, 0)) := by rw [hw7]; exact heap_alloc_new w6 _
            obtain ⟨g, c', w8, hr, ho8, hg8⟩ := app_sam1 (own_skip HO6.out b7) (Nat.le_trans HB6.out.size b7.size) (by omega) (⟨ts, vs⟩ : Sam) ⟨w6.heap.size, 0, none⟩ (cell_of_row _ _ _ _ _ _ q7) (cell_of_row _ _ 1 _ _ _ q7)
            have HR := hidn hr
            have HW7 := hidn hw7
            have HB8 : Hid (Below w3.heap.size w3 w8) := hidn ((HB6.out.trans (b7.mono HB6.out.size)).grown hg8 (Nat.le_trans HB6.out.size b7.size) (fun k hk => (HO6.out.lt k hk).1))
            have HON : Hid (w8.ownsRow w3.heap.size 36 2 (.slice (some ⟨g, 0, none⟩) (q + 1) c') (q + 1) (vsm (lowS L (O.take (k + 1))))) := hidn (by
              have z := HMR.out
              simp at z
              rw [z, ← HSV.out]; exact ho8)
            clear hr hw7 b7 q7 ho8 hg8
            go_wp2_with (at_builtin; rw [← HW7.out]; refine wpList_app_run2 rfl (.tmp 46) (.tmp 48) 25 25 rfl rfl u9 (.slice (some ⟨w6.heap.size, 0, none⟩) 1 1) _ rfl rfl HR.out ?_)
            go_roundw
            case rel => exact ⟨k + 1, q + 1, by omega, by omega, by first | rfl | simp, HB8, HON⟩
            case measure => simp [intOf]; omega
        · have hlt2 : ¬ (k : Int) < (n : Int) := by omega
          have HTK : Hid (O.take k = O) := hidn (List.take_of_length_le (by rw [HNO.out]; omega))
          have HON : Hid (wo.ownsRow w3.heap.size 36 2 u9 q (vsm (lowS L O))) := hidn (by have z := HO.out; rwa [HTK.out] at z)
          obtain ⟨fa, fc, hv, hfc, hF⟩ := sm_of_own HON.out (samD_ok (fun s hs => HOKO.out s (List.mem_filter.1 hs).1))
          subst hv
          have HF := hidn hF
          obtain ⟨w9, hw9⟩ : ∃ w9, w9 = wo.alloc (.cells #[.int .i64 rank, .slice a m cap] 47) := ⟨_, rfl⟩
          have b9 : Below wo.heap.size wo w9 := by rw [hw9]; exact (Below.refl _ wo).alloc (Nat.le_refl _) _
          have q9 : w9.heap[wo.heap.size]? = some (.cells #[.int .i64 rank, .slice a m cap] 47 (0, 0)) := by rw [hw9]; exact heap_alloc_new wo _
          have HB39 := hidn (HB.out.trans (b9.mono HB.out.size))
          have HB9 := hidn (HB3.out.trans (HB39.out.mono HB3.out.size))
          have HF9 := hidn (hF.below b9)
          have HOA := hidn (open_any (some ⟨wo.heap.size, 0, none⟩) 1 1 [⟨rank, a, m, cap, L⟩] (-9223372036854775808) none 0 0 [] w9 (rks_one q9 (HSL.out.below HB9.out) hmc) (by omega) (by simp only [totZ]; rw [HNL.out]; omega) (gps_nil _) (by omega) gp_ok0)
          have HW9 := hidn hw9
          clear hF hw9 b9 q9
          go_wp2_with fail
          rw [← HW9.out]
          refine HOA.out.mono ?_
          intro e w10 hq
          have HQ10 := hidn hq
          clear hq
          rcases HQ10.out with ⟨hb9, _⟩ | ⟨_, b1, a1, c1, T1, rfl, ht1, _, _, hle1, hcu1, hsm1, _, _, ba⟩
          · rw [HBD.out] at hb9
            cases hb9
          · have e1 : T1 = L := ht1.same HT1.out
            have e1 := e1.symm
            subst e1
            have HBA := hidn ba
            have HLE1 := hidn hle1
            have HCU1 := hidn hcu1
            have HSM1 := hidn hsm1
            clear ba HQ10 ht1 hle1 hcu1 hsm1
            obtain ⟨w11, hw11⟩ : ∃ w11, w11 = w10.alloc (.cells #[.int .i64 rank, .slice a m cap, .int .i64 (-9223372036854775808), .slice fa q fc] 47) := ⟨_, rfl⟩
            have b11 : Below w10.heap.size w10 w11 := by rw [hw11]; exact (Below.refl _ w10).alloc (Nat.le_refl _) _
            have q11 : w11.heap[w10.heap.size]? = some (.cells #[.int .i64 rank, .slice a m cap, .int .i64 (-9223372036854775808), .slice fa q fc] 47 (0, 0)) := by rw [hw11]; exact heap_alloc_new w10 _
            have HB10 := hidn (HB9.out.trans (HBA.out.mono HB9.out.size))
            have HB11 := hidn (HB10.out.trans (b11.mono HB10.out.size))
            have hql : q ≤ 30 := by omega
            have HLL : Hid ((lowS L O).length = q) := hidn HF.out.1
            have HOB := hidn (open_any (some ⟨w10.heap.size, 0, none⟩) 2 2 [⟨rank, a, m, cap, L⟩, ⟨(-9223372036854775808), fa, q, fc, lowS L O⟩] (-9223372036854775808) none 0 0 [] w11 (rks_pair q11 (HSL.out.below HB11.out) hmc ((HF9.out.below HBA.out).below b11) hfc) (by omega) (by simp only [totZ]; rw [HNL.out, HLL.out]; omega) (gps_nil _) (by omega) gp_ok0)
            have HW11 := hidn hw11
            have HP11 := hidn b11
            clear hw11 b11 q11
            go_wp2_with fail
            rw [← HW11.out]
            refine HOB.out.mono ?_
            intro e w12 hq
            have HQ12 := hidn hq
            clear hq
            rcases HQ12.out with ⟨_, rfl, bb⟩ | ⟨_, b2, a2, c2, T2, rfl, ht2, _, _, hle2, hcu2, hsm2, _, hba2, bb⟩
            · have HBB := hidn bb
              clear bb HQ12
              have HB12 := hidn (HB11.out.trans (HBB.out.mono HB11.out.size))
              have HA := hidn (awake26 w12)
              go_wp2_with fail
              refine HA.out.mono ?_
              rintro e WX ⟨rfl, bx⟩
              have HBX := hidn (HB12.out.trans (bx.mono HB12.out.size))
              clear bx
              go_wp2_with fail
              go_ret
              exact ⟨rfl, HBX.out⟩
            · have e2 : T2 = L := ht2.same (tell_two HUPL.out (by show (-9223372036854775808) < rank; have h9 := HRK.out.1; omega) (fun y hy => hasT_mem (List.mem_filter.1 hy).2) HLO.out)
              have e2 := e2.symm
              subst e2
              have HBB := hidn bb
              have HLE2 := hidn hle2
              have HCU2 := hidn hcu2
              have HSM2 := hidn hsm2
              have HA2 := hidn hba2
              clear bb HQ12 ht2 hle2 hcu2 hsm2 hba2
              have HB12 := hidn (HB11.out.trans (HBB.out.mono HB11.out.size))
              have HBAB := hidn (HP11.out.trans (HBB.out.mono HP11.out.size))
              have hb1s : b1 < w10.heap.size := (Array.getElem?_eq_some_iff.1 HCU1.out).1
              have hb12 : w10.heap.size ≤ b2 := Nat.le_trans HP11.out.size HLE2.out
              have hw1b : w.heap.size ≤ b1 := Nat.le_trans HB9.out.size HLE1.out
              have HCA := hidn ((HBAB.out.block b1 hb1s).trans HCU1.out)
              have HS1 := hidn (HSM1.out.below HBAB.out)
              have HAL := hidn (allF_any b1 a1 L.length c1 L w12 HCA.out HS1.out (by rw [HNL.out]; omega))
              go_wp2_with fail
              refine HAL.out.mono ?_
              rintro e w13 ⟨v13, rfl, o13, _, b13, f13⟩
              obtain ⟨a13, c13, rfl, _, hs13⟩ := sm_of_own o13 (samD_ok HOKL.out)
              have hb2s : b2 < w12.heap.size := (Array.getElem?_eq_some_iff.1 HCU2.out).1
              have HCB : Hid (CurB w13 b2 (.slice a2 L.length c2)) := hidn ((f13 b2 hb2s (by omega)).trans HCU2.out)
              have HS2 : Hid (Sm w13 a2 L.length L) := hidn (by
                refine ⟨HSM2.out.1, HSM2.out.2.1, HSM2.out.2.2.1, HSM2.out.2.2.2.1, fun x hx j hj => ?_⟩
                obtain ⟨y1, y2⟩ := HSM2.out.2.2.2.2 x hx j hj
                obtain ⟨vb, vo, hv, _, _⟩ := HSM2.out.pos (by omega)
                obtain rfl : x = ⟨vb, vo, none⟩ := by rw [hv] at hx; injection hx with hx; exact hx.symm
                have h9 : w11.heap.size ≤ vb := HA2.out _ hx
                have hp := HP11.out.size
                have hk1 : ((⟨vb, vo, none⟩ : Addr).add (j * 2)).block ≠ b1 := fun e => by
                  rw [add_none] at e
                  have e2 : vb = b1 := e
                  omega
                have hk2 : ((⟨vb, vo, none⟩ : Addr).add (j * 2 + 1)).block ≠ b1 := fun e => by
                  rw [add_none] at e
                  have e2 : vb = b1 := e
                  omega
                exact ⟨(cell_fr (f13 _ (block_lt_of_cell y1) hk1)).trans y1, (cell_fr (f13 _ (block_lt_of_cell y2) hk2)).trans y2⟩)
              have HB13 := hidn (HB12.out.trans (b13 _ HB12.out.size hw1b))
              have HE := hidn (seq_any a13 a L.length c13 m cap L L w13 hs13 (HSL.out.below HB13.out))
              rw [dcd_true rfl] at HE
              have h3b : w3.heap.size ≤ b1 := Nat.le_trans HB39.out.size HLE1.out
              have hb3w : Below w3.heap.size w3 w12 := HB39.out.trans ((HBA.out.trans (HBAB.out.mono HBA.out.size)).mono HB39.out.size)
              have HS33 : Hid (Sm w13 a3 L.length L) := hidn (HS3.out.below (hb3w.trans (b13 _ hb3w.size h3b)))
              have hw2b : w.heap.size ≤ b2 := by omega
              clear o13 b13 f13 hs13 HAL hb3w h3b
              go_wp2_with fail
              refine HE.out.mono ?_
              rintro e w14 ⟨rfl, b14⟩
              have HB14 := hidn (HB13.out.trans (b14.mono HB13.out.size))
              have HS34 := hidn (HS33.out.below b14)
              have HAL2 := hidn (allF_any b2 a2 L.length c2 L w14 ((b14.block b2 (Array.getElem?_eq_some_iff.1 HCB.out).1).trans HCB.out) (HS2.out.below b14) (by rw [HNL.out]; omega))
              have h3b2 : w3.heap.size ≤ b2 := by have := HB39.out.size; have := HLE1.out; omega
              have h314 : w3.heap.size ≤ w14.heap.size := by have := HB39.out.size; have := HLE1.out; have := b14.size; have := (Array.getElem?_eq_some_iff.1 HCB.out).1; omega
              clear b14
              go_wp2_with fail
              refine HAL2.out.mono ?_
              rintro e w15 ⟨v15, rfl, o15, _, b15, f15⟩
              obtain ⟨a15, c15, rfl, _, hs15⟩ := sm_of_own o15 (samD_ok HOKL.out)
              have HB15 := hidn (HB14.out.trans (b15 _ HB14.out.size hw2b))
              have HE2 := hidn (seq_any a15 a L.length c15 m cap L L w15 hs15 (HSL.out.below HB15.out))
              rw [dcd_true rfl] at HE2
              have HS35 : Hid (Sm w15 a3 L.length L) := hidn (by
                refine ⟨HS34.out.1, HS34.out.2.1, HS34.out.2.2.1, HS34.out.2.2.2.1, fun x hx j hj => ?_⟩
                obtain ⟨y1, y2⟩ := HS34.out.2.2.2.2 x hx j hj
                obtain ⟨z1, z2⟩ := HS3.out.2.2.2.2 x hx j hj
                have k1 := block_lt_of_cell z1
                have k2 := block_lt_of_cell z2
                exact ⟨(cell_fr (f15 _ (block_lt_of_cell y1) (by omega))).trans y1, (cell_fr (f15 _ (block_lt_of_cell y2) (by omega))).trans y2⟩)
              clear o15 b15 f15 hs15 HAL2
              go_wp2_with fail
              refine HE2.out.mono ?_
              rintro e w16 ⟨rfl, b16⟩
              have HB16 := hidn (HB15.out.trans (b16.mono HB15.out.size))
              have HE3 := hidn (seq_any a3 a L.length c3 m cap L L w16 (HS35.out.below b16) (HSL.out.below HB16.out))
              rw [dcd_true rfl] at HE3
              clear b16
              go_wp2_with fail
              refine HE3.out.mono ?_
              rintro e w17 ⟨rfl, b17⟩
              have HB17 := hidn (HB16.out.trans (b17.mono HB16.out.size))
              have HA := hidn (awake26 w17)
              clear b17
              go_wp2_with fail
              refine HA.out.mono ?_
              rintro e w18 ⟨rfl, b18⟩
              have HB18 := hidn (HB17.out.trans (b18.mono HB17.out.size))
              clear b18
              go_wp2_with fail
              go_ret
              exact ⟨rfl, HB18.out⟩
end Go.Proofs.Ytccjgciknaooaaa
