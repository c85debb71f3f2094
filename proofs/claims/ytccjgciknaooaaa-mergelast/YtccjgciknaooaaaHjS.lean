/- merge: the document's Set, at a time that is new. -/
import Derived.Test.YtccjgciknaooaaaHjT
import Derived.BigRegion
namespace Go.Proofs.Ytccjgciknaooaaa
open Go.RowKit Go.Joins
set_option linter.unusedVariables false

set_option maxHeartbeats 8000000 in
set_option maxRecDepth 100000 in
theorem set_any (fa : Option Addr) (N fc : Nat) (S : List Sam) (ts : Int) (vs : Nat) (w : World) (hF : Sm w fa N S) (hfc : N ≤ fc) (hN : N ≤ 2000) (hu : UpS S) (hnew : ∀ y ∈ S, y.t ≠ ts) (hok : SamOK ⟨ts, vs⟩) :
    Calls Try.prog 21 #[.slice fa N fc, .agg #[.int .i64 ts, .int .u64 (vs : Int)]] w fun e w' => ∃ (v : Value) (T : List Sam), e = .returned v ∧ UpS T ∧ (∀ y, y ∈ T ↔ y = ⟨ts, vs⟩ ∨ y ∈ S) ∧ w'.ownsRow w.heap.size 36 2 v (N + 1) (vsm T) ∧ Below w.heap.size w w' := by
  have HF := hidn hF
  have HN := hidn hF.1
  have HU := hidn hu
  have HNW := hidn hnew
  have HOK := hidn hok
  obtain ⟨w1, hw1⟩ : ∃ w1, w1 = w.alloc (.cells #[.int .i64 ts, .int .u64 (vs : Int)] 36) := ⟨_, rfl⟩
  have b1 : Below w.heap.size w w1 := by rw [hw1]; exact (Below.refl _ w).alloc (Nat.le_refl _) _
  have q1 : w1.heap[w.heap.size]? = some (.cells #[.int .i64 ts, .int .u64 (vs : Int)] 36 (0, 0)) := by rw [hw1]; exact heap_alloc_new w _
  have HW1 := hidn hw1
  have HB1 := hidn b1
  have HQ1 := hidn q1
  clear hF hu hnew hok hw1 b1 q1
  go_enter Try.func21, Try.ntmps21
  go_wp2_with fail
  rw [← HW1.out]
  go_loopw [5] (fun iv wr => ∃ p : Nat, p ≤ N ∧ iv = .int .i64 (p : Int) ∧ Hid (∀ i, p ≤ i → i < N → ts ≤ (samD S i).t) ∧ Hid (Below w1.heap.size w1 wr)) (fun iv _ => (intOf iv).toNat)
  case atStart => exact ⟨N, Nat.le_refl _, rfl, hidn (fun i h1 h2 => by omega), hidn (Below.refl _ _)⟩
  case round =>
    obtain ⟨p, hpN, rfl, HD, HB3⟩ := hrel
    obtain ⟨w5, hw5⟩ : ∃ w5, w5 = wr := ⟨wr, rfl⟩
    subst hw5
    have HB5 := hidn (HB1.out.trans (HB3.out.mono HB1.out.size))
    have HF5 := hidn (HF.out.below HB5.out)
    have HQ5 := hidn ((HB3.out.block _ (Array.getElem?_eq_some_iff.1 HQ1.out).1).trans HQ1.out)
    have z0 : w5.cell? ⟨w.heap.size, 0, none⟩ = some (.int .i64 ts) := cell_of_row _ _ _ _ _ _ HQ5.out
    by_cases hgo : ∃ q, p = q + 1 ∧ ts ≤ (samD S q).t
    · obtain ⟨q, hpq, hgx⟩ := hgo
      obtain ⟨xb, xo, hfa, hxb, hxc⟩ := HF5.out.pos (by omega)
      have cx := (hxc q (by omega)).1
      obtain ⟨x, hx⟩ : ∃ x, x = (samD S q).t := ⟨_, rfl⟩
      rw [← hx] at cx hgx
      have HDQ : Hid (∀ i, q ≤ i → i < N → ts ≤ (samD S i).t) := hidn (fun i h1 h2 => by
        by_cases hiq : i = q
        · subst hiq; rw [← hx]; exact hgx
        · exact HD.out i (by omega) h2)
      have hp1 : (0 : Int) < (p : Int) := by omega
      have hqi : (p : Int) - 1 = (q : Int) := by omega
      have hqN : (q : Int) < (N : Int) := by omega
      have hqp : q < p := by omega
      have hqN2 : q < N := by omega
      subst hfa
      have HRD : Hid (∀ W, Below w5.heap.size w5 W → W.cell? ⟨xb, xo + q * 2, none⟩ = some (.int .i64 x) ∧ W.cell? ⟨w.heap.size, 0, none⟩ = some (.int .i64 ts)) := hidn (fun W hW => ⟨(hW.cell (block_lt_of_cell cx)).trans cx, (hW.cell (block_lt_of_cell z0)).trans z0⟩)
      have HWQ : Hid (IntKind.i64.wrap (q : Int) = (q : Int)) := hidn (by unfold IntKind.wrap IntKind.bits IntKind.signed; simp; omega)
      clear hx hxc hpq HD cx
      go_wp2_with fail
      refine wp_region_noPanic ?_
      refine wp_region_held_drew (S := fun w' => Below w5.heap.size w5 w') (by kernel_rfl) ((Below.refl _ w5).drew) (fun hHeld => ?_)
      refine drawn_take (i := 0) (v := .int .i64 (p : Int)) (some 9) rfl rfl (by kernel_rfl) (by kernel_rfl) (by kernel_rfl) (fun _ _ _ h => h) (Or.inl ⟨by kernel_rfl, fun wq hw => by go_simp⟩) hHeld ?_
      simp only [Act.put, List.setIfInBounds_toArray, List.set_cons_succ, List.set_cons_zero]
      refine drawn_take (i := 1) (v := .bool true) (some 10) rfl rfl (by kernel_rfl) (by kernel_rfl) (by kernel_rfl) (fun _ _ _ h => h) (Or.inl ⟨by kernel_rfl, fun wq hw => by go_simp <;> omega⟩) hHeld ?_
      simp only [Act.put, List.setIfInBounds_toArray, List.set_cons_succ, List.set_cons_zero]
      refine drawn_take (i := 2) (v := .bool true) (some 11) rfl rfl (by kernel_rfl) (by kernel_rfl) (by kernel_rfl) (fun _ _ _ h => h) (Or.inl ⟨by kernel_rfl, fun wq hw => by go_simp⟩) hHeld ?_
      simp only [Act.put, List.setIfInBounds_toArray, List.set_cons_succ, List.set_cons_zero]
      refine drawn_take (i := 3) (v := .slice (some ⟨xb, xo, none⟩) N fc) (some 12) rfl rfl (by kernel_rfl) (by kernel_rfl) (by kernel_rfl) (fun _ _ _ h => h) (Or.inl ⟨by kernel_rfl, fun wq hw => by go_simp⟩) hHeld ?_
      simp only [Act.put, List.setIfInBounds_toArray, List.set_cons_succ, List.set_cons_zero]
      refine drawn_take (i := 4) (v := .int .i64 (p : Int)) (some 13) rfl rfl (by kernel_rfl) (by kernel_rfl) (by kernel_rfl) (fun _ _ _ h => h) (Or.inl ⟨by kernel_rfl, fun wq hw => by go_simp⟩) hHeld ?_
      simp only [Act.put, List.setIfInBounds_toArray, List.set_cons_succ, List.set_cons_zero]
      refine drawn_take (i := 5) (v := .int .i64 (q : Int)) (some 14) rfl rfl (by kernel_rfl) (by kernel_rfl) (by kernel_rfl) (fun _ _ _ h => h) (Or.inl ⟨by kernel_rfl, fun wq hw => by go_simp; exact HWQ.out⟩) hHeld ?_
      simp only [Act.put, List.setIfInBounds_toArray, List.set_cons_succ, List.set_cons_zero]
      refine drawn_take (i := 6) (v := .pointer (some ⟨xb, xo + q * 2, none⟩)) (some 15) rfl rfl (by kernel_rfl) (by kernel_rfl) (by kernel_rfl) (fun _ _ _ h => h) (Or.inl ⟨by kernel_rfl, fun wq hw => by go_simp <;> (intro h8; exfalso; omega)⟩) hHeld ?_
      simp only [Act.put, List.setIfInBounds_toArray, List.set_cons_succ, List.set_cons_zero]
      refine drawn_take (i := 7) (v := .pointer (some ⟨xb, xo + q * 2, none⟩)) (some 16) rfl rfl (by kernel_rfl) (by kernel_rfl) (by kernel_rfl) (fun _ _ _ h => h) (Or.inl ⟨by kernel_rfl, fun wq hw => by go_simp⟩) hHeld ?_
      simp only [Act.put, List.setIfInBounds_toArray, List.set_cons_succ, List.set_cons_zero]
      refine drawn_take (i := 8) (v := .int .i64 x) (some 17) rfl rfl (by kernel_rfl) (by kernel_rfl) (by kernel_rfl) (fun _ _ _ h => h) (Or.inl ⟨by kernel_rfl, fun wq hw => by obtain ⟨q1, q2⟩ := HRD.out _ hw; go_simp⟩) hHeld ?_
      simp only [Act.put, List.setIfInBounds_toArray, List.set_cons_succ, List.set_cons_zero]
      refine drawn_take (i := 9) (v := .pointer (some ⟨w.heap.size, 0, none⟩)) (some 18) rfl rfl (by kernel_rfl) (by kernel_rfl) (by kernel_rfl) (fun _ _ _ h => h) (Or.inl ⟨by kernel_rfl, fun wq hw => by go_simp⟩) hHeld ?_
      simp only [Act.put, List.setIfInBounds_toArray, List.set_cons_succ, List.set_cons_zero]
      refine drawn_take (i := 10) (v := .int .i64 ts) (some 19) rfl rfl (by kernel_rfl) (by kernel_rfl) (by kernel_rfl) (fun _ _ _ h => h) (Or.inl ⟨by kernel_rfl, fun wq hw => by obtain ⟨q1, q2⟩ := HRD.out _ hw; go_simp⟩) hHeld ?_
      simp only [Act.put, List.setIfInBounds_toArray, List.set_cons_succ, List.set_cons_zero]
      refine drawn_take (i := 11) (v := .bool true) (some 20) rfl rfl (by kernel_rfl) (by kernel_rfl) (by kernel_rfl) (fun _ _ _ h => h) (Or.inl ⟨by kernel_rfl, fun wq hw => by go_simp <;> omega⟩) hHeld ?_
      simp only [Act.put, List.setIfInBounds_toArray, List.set_cons_succ, List.set_cons_zero]
      refine drawn_take (i := 12) (v := .bool true) (some 21) rfl rfl (by kernel_rfl) (by kernel_rfl) (by kernel_rfl) (fun _ _ _ h => h) (Or.inl ⟨by kernel_rfl, fun wq hw => by go_simp⟩) hHeld ?_
      simp only [Act.put, List.setIfInBounds_toArray, List.set_cons_succ, List.set_cons_zero]
      refine wpAnyH_done (by kernel_rfl) ?_ _
      refine NoPanic.normal ?_
      clear hHeld
      go_wp2_with fail
      first
        | (go_roundw
           case rel => exact ⟨q, by omega, by first | rfl | simp, HDQ, hidn (HB3.out.drew)⟩
           case measure => simp [intOf]; omega)
        | (refine ⟨⟨q, by omega, by simp, HDQ, hidn (HB3.out.drew)⟩, ?_⟩
           simp [intOf]
           omega)
    · have HST := hidn (set_ok (s := (⟨ts, vs⟩ : Sam)) (p := p) (by rw [HN.out]; exact hpN) HU.out HNW.out (by
        by_cases hp0 : p = 0
        · exact .inl hp0
        · right
          have : ¬ ts ≤ (samD S (p - 1)).t := fun h9 => hgo ⟨p - 1, by omega, h9⟩
          show _ < ts
          omega) (fun i h1 h2 => HD.out i h1 (by rw [← HN.out]; exact h2)))
      obtain ⟨kn1, hkn1⟩ : ∃ kn1, kn1 = p + 1 := ⟨_, rfl⟩
      obtain ⟨m2, hm2⟩ : ∃ m2, m2 = N - p := ⟨_, rfl⟩
      obtain ⟨c2, hc2⟩ : ∃ c2, c2 = fc - p := ⟨_, rfl⟩
      obtain ⟨a2, ha2⟩ : ∃ a2 : Option Addr, a2 = (if fc = p then fa else fa.map (·.add (p * 2))) := ⟨_, rfl⟩
      obtain ⟨n9, hn9⟩ : ∃ n9, n9 = kn1 + m2 := ⟨_, rfl⟩
      have HN9 : Hid (n9 = N + 1) := hidn (by omega)
      have hn9k : n9 ≤ 2001 := by omega
      have HA2 := hidn ha2
      have HM2 := hidn hm2
      have HC2 := hidn hc2
      have hfp : p ≤ fc := by omega
      clear ha2 hc2 HD
      by_cases hp0 : p = 0
      · by_cases hpn : p = N
        · have hpn2 : ¬ (p : Int) < (N : Int) := by omega
          have hp1 : ¬ (0 : Int) < (p : Int) := by omega
          clear hgo hp0 hpn
          go_wp2_with fail
          refine wp_region_noPanic ?_
          refine wp_region_held_drew (S := fun w' => Below w5.heap.size w5 w') (by kernel_rfl) ((Below.refl _ w5).drew) (fun hHeld => ?_)
          refine drawn_take (i := 0) (v := .int .i64 (p : Int)) (some 9) rfl rfl (by kernel_rfl) (by kernel_rfl) (by kernel_rfl) (fun _ _ _ h => h) (Or.inl ⟨by kernel_rfl, fun wq hw => by go_simp⟩) hHeld ?_
          simp only [Act.put, List.setIfInBounds_toArray, List.set_cons_succ, List.set_cons_zero]
          refine drawn_take (i := 1) (v := .bool false) (some 10) rfl rfl (by kernel_rfl) (by kernel_rfl) (by kernel_rfl) (fun _ _ _ h => h) (Or.inl ⟨by kernel_rfl, fun wq hw => by go_simp <;> omega⟩) hHeld ?_
          simp only [Act.put, List.setIfInBounds_toArray, List.set_cons_succ, List.set_cons_zero]
          refine drawn_take (i := 2) (v := .bool false) (some 11) rfl rfl (by kernel_rfl) (by kernel_rfl) (by kernel_rfl) (fun _ _ _ h => h) (Or.inl ⟨by kernel_rfl, fun wq hw => by go_simp⟩) hHeld ?_
          simp only [Act.put, List.setIfInBounds_toArray, List.set_cons_succ, List.set_cons_zero]
          refine drawn_take (i := 3) (v := undef) (some 12) rfl rfl (by kernel_rfl) (by kernel_rfl) (by kernel_rfl) (fun _ _ _ h => h) (Or.inr ⟨by kernel_rfl, rfl⟩) hHeld ?_
          simp only [Act.put, List.setIfInBounds_toArray, List.set_cons_succ, List.set_cons_zero]
          refine drawn_take (i := 4) (v := undef) (some 13) rfl rfl (by kernel_rfl) (by kernel_rfl) (by kernel_rfl) (fun _ _ _ h => h) (Or.inr ⟨by kernel_rfl, rfl⟩) hHeld ?_
          simp only [Act.put, List.setIfInBounds_toArray, List.set_cons_succ, List.set_cons_zero]
          refine drawn_take (i := 5) (v := undef) (some 14) rfl rfl (by kernel_rfl) (by kernel_rfl) (by kernel_rfl) (fun _ _ _ h => h) (Or.inr ⟨by kernel_rfl, rfl⟩) hHeld ?_
          simp only [Act.put, List.setIfInBounds_toArray, List.set_cons_succ, List.set_cons_zero]
          refine drawn_take (i := 6) (v := undef) (some 15) rfl rfl (by kernel_rfl) (by kernel_rfl) (by kernel_rfl) (fun _ _ _ h => h) (Or.inr ⟨by kernel_rfl, rfl⟩) hHeld ?_
          simp only [Act.put, List.setIfInBounds_toArray, List.set_cons_succ, List.set_cons_zero]
          refine drawn_take (i := 7) (v := undef) (some 16) rfl rfl (by kernel_rfl) (by kernel_rfl) (by kernel_rfl) (fun _ _ _ h => h) (Or.inr ⟨by kernel_rfl, rfl⟩) hHeld ?_
          simp only [Act.put, List.setIfInBounds_toArray, List.set_cons_succ, List.set_cons_zero]
          refine drawn_take (i := 8) (v := undef) (some 17) rfl rfl (by kernel_rfl) (by kernel_rfl) (by kernel_rfl) (fun _ _ _ h => h) (Or.inr ⟨by kernel_rfl, rfl⟩) hHeld ?_
          simp only [Act.put, List.setIfInBounds_toArray, List.set_cons_succ, List.set_cons_zero]
          refine drawn_take (i := 9) (v := undef) (some 18) rfl rfl (by kernel_rfl) (by kernel_rfl) (by kernel_rfl) (fun _ _ _ h => h) (Or.inr ⟨by kernel_rfl, rfl⟩) hHeld ?_
          simp only [Act.put, List.setIfInBounds_toArray, List.set_cons_succ, List.set_cons_zero]
          refine drawn_take (i := 10) (v := undef) (some 19) rfl rfl (by kernel_rfl) (by kernel_rfl) (by kernel_rfl) (fun _ _ _ h => h) (Or.inr ⟨by kernel_rfl, rfl⟩) hHeld ?_
          simp only [Act.put, List.setIfInBounds_toArray, List.set_cons_succ, List.set_cons_zero]
          refine drawn_take (i := 11) (v := undef) (some 20) rfl rfl (by kernel_rfl) (by kernel_rfl) (by kernel_rfl) (fun _ _ _ h => h) (Or.inr ⟨by kernel_rfl, rfl⟩) hHeld ?_
          simp only [Act.put, List.setIfInBounds_toArray, List.set_cons_succ, List.set_cons_zero]
          refine drawn_take (i := 12) (v := .bool false) (some 21) rfl rfl (by kernel_rfl) (by kernel_rfl) (by kernel_rfl) (fun _ _ _ h => h) (Or.inl ⟨by kernel_rfl, fun wq hw => by go_simp⟩) hHeld ?_
          simp only [Act.put, List.setIfInBounds_toArray, List.set_cons_succ, List.set_cons_zero]
          refine wpAnyH_done (by kernel_rfl) ?_ _
          refine NoPanic.normal ?_
          clear hHeld
          obtain ⟨w6, hw6⟩ : ∃ w6, w6 = w5.drew := ⟨_, rfl⟩
          rw [← hw6]
          have b56 : Hid (Below w5.heap.size w5 w6) := hidn (by rw [hw6]; exact (Below.refl _ w5).drew)
          clear hw6
          go_wp2_with fail
          refine wp_region_noPanic ?_
          refine wp_region_held_drew (S := fun w' => Below w6.heap.size w6 w') (by kernel_rfl) ((Below.refl _ w6).drew) (fun hHeld => ?_)
          refine drawn_take (i := 0) (v := .int .i64 (p : Int)) (some 24) rfl rfl (by kernel_rfl) (by kernel_rfl) (by kernel_rfl) (fun _ _ _ h => h) (Or.inl ⟨by kernel_rfl, fun wq hw => by go_simp⟩) hHeld ?_
          simp only [Act.put, List.setIfInBounds_toArray, List.set_cons_succ, List.set_cons_zero]
          refine drawn_take (i := 1) (v := .slice fa N fc) (some 25) rfl rfl (by kernel_rfl) (by kernel_rfl) (by kernel_rfl) (fun _ _ _ h => h) (Or.inl ⟨by kernel_rfl, fun wq hw => by go_simp⟩) hHeld ?_
          simp only [Act.put, List.setIfInBounds_toArray, List.set_cons_succ, List.set_cons_zero]
          refine drawn_take (i := 2) (v := .int .i64 (N : Int)) (some 26) rfl rfl (by kernel_rfl) (by kernel_rfl) (by kernel_rfl) (fun _ _ _ h => h) (Or.inl ⟨by kernel_rfl, fun wq hw => by go_simp⟩) hHeld ?_
          simp only [Act.put, List.setIfInBounds_toArray, List.set_cons_succ, List.set_cons_zero]
          refine drawn_take (i := 3) (v := .bool false) (some 27) rfl rfl (by kernel_rfl) (by kernel_rfl) (by kernel_rfl) (fun _ _ _ h => h) (Or.inl ⟨by kernel_rfl, fun wq hw => by go_simp <;> omega⟩) hHeld ?_
          simp only [Act.put, List.setIfInBounds_toArray, List.set_cons_succ, List.set_cons_zero]
          refine drawn_take (i := 4) (v := .bool false) (some 28) rfl rfl (by kernel_rfl) (by kernel_rfl) (by kernel_rfl) (fun _ _ _ h => h) (Or.inl ⟨by kernel_rfl, fun wq hw => by go_simp⟩) hHeld ?_
          simp only [Act.put, List.setIfInBounds_toArray, List.set_cons_succ, List.set_cons_zero]
          refine drawn_take (i := 5) (v := undef) (some 29) rfl rfl (by kernel_rfl) (by kernel_rfl) (by kernel_rfl) (fun _ _ _ h => h) (Or.inr ⟨by kernel_rfl, rfl⟩) hHeld ?_
          simp only [Act.put, List.setIfInBounds_toArray, List.set_cons_succ, List.set_cons_zero]
          refine drawn_take (i := 6) (v := undef) (some 30) rfl rfl (by kernel_rfl) (by kernel_rfl) (by kernel_rfl) (fun _ _ _ h => h) (Or.inr ⟨by kernel_rfl, rfl⟩) hHeld ?_
          simp only [Act.put, List.setIfInBounds_toArray, List.set_cons_succ, List.set_cons_zero]
          refine drawn_take (i := 7) (v := undef) (some 31) rfl rfl (by kernel_rfl) (by kernel_rfl) (by kernel_rfl) (fun _ _ _ h => h) (Or.inr ⟨by kernel_rfl, rfl⟩) hHeld ?_
          simp only [Act.put, List.setIfInBounds_toArray, List.set_cons_succ, List.set_cons_zero]
          refine drawn_take (i := 8) (v := undef) (some 32) rfl rfl (by kernel_rfl) (by kernel_rfl) (by kernel_rfl) (fun _ _ _ h => h) (Or.inr ⟨by kernel_rfl, rfl⟩) hHeld ?_
          simp only [Act.put, List.setIfInBounds_toArray, List.set_cons_succ, List.set_cons_zero]
          refine drawn_take (i := 9) (v := undef) (some 33) rfl rfl (by kernel_rfl) (by kernel_rfl) (by kernel_rfl) (fun _ _ _ h => h) (Or.inr ⟨by kernel_rfl, rfl⟩) hHeld ?_
          simp only [Act.put, List.setIfInBounds_toArray, List.set_cons_succ, List.set_cons_zero]
          refine drawn_take (i := 10) (v := undef) (some 34) rfl rfl (by kernel_rfl) (by kernel_rfl) (by kernel_rfl) (fun _ _ _ h => h) (Or.inr ⟨by kernel_rfl, rfl⟩) hHeld ?_
          simp only [Act.put, List.setIfInBounds_toArray, List.set_cons_succ, List.set_cons_zero]
          refine drawn_take (i := 11) (v := undef) (some 35) rfl rfl (by kernel_rfl) (by kernel_rfl) (by kernel_rfl) (fun _ _ _ h => h) (Or.inr ⟨by kernel_rfl, rfl⟩) hHeld ?_
          simp only [Act.put, List.setIfInBounds_toArray, List.set_cons_succ, List.set_cons_zero]
          refine drawn_take (i := 12) (v := undef) (some 36) rfl rfl (by kernel_rfl) (by kernel_rfl) (by kernel_rfl) (fun _ _ _ h => h) (Or.inr ⟨by kernel_rfl, rfl⟩) hHeld ?_
          simp only [Act.put, List.setIfInBounds_toArray, List.set_cons_succ, List.set_cons_zero]
          refine drawn_take (i := 13) (v := .bool false) (some 37) rfl rfl (by kernel_rfl) (by kernel_rfl) (by kernel_rfl) (fun _ _ _ h => h) (Or.inl ⟨by kernel_rfl, fun wq hw => by go_simp⟩) hHeld ?_
          simp only [Act.put, List.setIfInBounds_toArray, List.set_cons_succ, List.set_cons_zero]
          refine wpAnyH_done (by kernel_rfl) ?_ _
          refine NoPanic.normal ?_
          clear hHeld
          obtain ⟨w7, hw7⟩ : ∃ w7, w7 = w6.drew := ⟨_, rfl⟩
          rw [← hw7]
          have HB7 : Hid (Below w5.heap.size w5 w7) := hidn (b56.out.trans (show Below w5.heap.size w6 w7 by rw [hw7]; exact ((Below.refl _ w6).drew).mono b56.out.size))
          clear hw7
          obtain ⟨n0, hn0⟩ : ∃ n0, n0 = w7.heap.size := ⟨_, rfl⟩
          have HNE := hidn hn0
          have HSA : Hid (∀ W, Below n0 w7 W → Sm W fa p (S.take p)) := hidn (fun W hW => ((HF5.out.below HB7.out).below (by rw [← HNE.out]; exact hW)).take p hpN)
          have HSB : Hid (∀ W, Below n0 w7 W → Sm W a2 m2 (S.drop p)) := hidn (fun W hW => by rw [HA2.out, HM2.out]; exact smLow ((HF5.out.below HB7.out).below (by rw [← HNE.out]; exact hW)) hfc hpN)
          have HBX : Hid (∀ W, Below n0 w7 W → W.cell? ⟨w.heap.size, 0, none⟩ = some (.int .i64 ts) ∧ W.cell? ⟨w.heap.size, 1, none⟩ = some (.int .u64 (vs : Int))) := hidn (fun W hW => by
            have q8 := (HB7.out.block _ (Array.getElem?_eq_some_iff.1 HQ5.out).1).trans HQ5.out
            have q9 := (hW.block _ (by rw [HNE.out]; exact (Array.getElem?_eq_some_iff.1 q8).1)).trans q8
            exact ⟨cell_of_row _ _ _ _ _ _ q9, cell_of_row _ _ _ _ _ _ q9⟩)
          clear hn0
          go_wp2_with fail
          refine sm_cut (fun li wx => ∃ (x46 x50 x52 x53 : Value) (ga : Option Addr) (gc : Nat) (u : Unit), li = [(47, .slice fa N fc), (48, .int .i64 (p : Int)), (49, .slice fa p fc), (51, .agg #[.int .i64 ts, .int .u64 (vs : Int)]), (54, .slice fa N fc), (55, .int .i64 (p : Int)), (56, .slice a2 m2 c2), (46, x46), (50, x50), (52, x52), (53, x53), (57, .slice ga n9 gc), (4, .slice ga n9 gc)] ∧ Below n0 w7 wx ∧ wx.ownsRow n0 36 2 (.slice ga n9 gc) n9 ([] ++ vsm (S.take p) ++ vsm [(⟨ts, vs⟩ : Sam)] ++ vsm (S.drop p))) ?_ ?_
          · obtain ⟨Wd, hWd⟩ : ∃ Wd, Wd = w7.drew := ⟨_, rfl⟩
            have hK0 : Below n0 w7 Wd := by rw [hWd]; exact (Below.refl n0 w7).drew
            have hle0 : n0 ≤ Wd.heap.size := by rw [hWd, HNE.out]; exact Nat.le_refl _
            refine wp_region_noPanic ?_
            refine wp_region_held_drew (S := Below n0 w7) (by kernel_rfl) ((Below.refl n0 w7).drew) (fun hHeld => ?_)
            rw [← hWd] at hHeld ⊢
            clear hWd
            refine drawn_take (i := 1) (v := .slice fa N fc) (some 47) rfl rfl (by kernel_rfl) (by kernel_rfl) (by kernel_rfl) (fun _ _ _ h => h) (Or.inl ⟨by kernel_rfl, fun wq hw => by go_simp⟩) hHeld ?_
            simp only [Act.put, List.setIfInBounds_toArray, List.set_cons_succ, List.set_cons_zero]
            refine drawn_take (i := 2) (v := .int .i64 (p : Int)) (some 48) rfl rfl (by kernel_rfl) (by kernel_rfl) (by kernel_rfl) (fun _ _ _ h => h) (Or.inl ⟨by kernel_rfl, fun wq hw => by go_simp⟩) hHeld ?_
            simp only [Act.put, List.setIfInBounds_toArray, List.set_cons_succ, List.set_cons_zero]
            refine drawn_take (i := 3) (v := .slice fa p fc) (some 49) rfl rfl (by kernel_rfl) (by kernel_rfl) (by kernel_rfl) (fun _ _ _ h => h) (Or.inl ⟨by kernel_rfl, fun wq hw => sm_slH (N := N) (x := .tmp 47) (z := .tmp 48) rfl (by kernel_rfl) (by kernel_rfl) hfp⟩) hHeld ?_
            simp only [Act.put, List.setIfInBounds_toArray, List.set_cons_succ, List.set_cons_zero]
            refine drawn_take (i := 5) (v := .agg #[.int .i64 ts, .int .u64 (vs : Int)]) (some 51) rfl rfl (by kernel_rfl) (by kernel_rfl) (by kernel_rfl) (fun _ _ _ h => h) (Or.inl ⟨by kernel_rfl, fun wq hw => by obtain ⟨q1, q2⟩ := HBX.out _ hw; go_simp⟩) hHeld ?_
            simp only [Act.put, List.setIfInBounds_toArray, List.set_cons_succ, List.set_cons_zero]
            refine drawn_take (i := 8) (v := .slice fa N fc) (some 54) rfl rfl (by kernel_rfl) (by kernel_rfl) (by kernel_rfl) (fun _ _ _ h => h) (Or.inl ⟨by kernel_rfl, fun wq hw => by go_simp⟩) hHeld ?_
            simp only [Act.put, List.setIfInBounds_toArray, List.set_cons_succ, List.set_cons_zero]
            refine drawn_take (i := 9) (v := .int .i64 (p : Int)) (some 55) rfl rfl (by kernel_rfl) (by kernel_rfl) (by kernel_rfl) (fun _ _ _ h => h) (Or.inl ⟨by kernel_rfl, fun wq hw => by go_simp⟩) hHeld ?_
            simp only [Act.put, List.setIfInBounds_toArray, List.set_cons_succ, List.set_cons_zero]
            refine drawn_take (i := 10) (v := .slice a2 m2 c2) (some 56) rfl rfl (by kernel_rfl) (by kernel_rfl) (by kernel_rfl) (fun _ _ _ h => h) (Or.inl ⟨by kernel_rfl, fun wq hw => sm_slL (x := .tmp 54) (z := .tmp 55) rfl (by kernel_rfl) (by kernel_rfl) hpN HA2 HM2 HC2⟩) hHeld ?_
            simp only [Act.put, List.setIfInBounds_toArray, List.set_cons_succ, List.set_cons_zero]
            obtain ⟨X1, hX1⟩ : ∃ W, W = Wd.alloc (.cells #[] 36) := ⟨_, rfl⟩
            have b1 : Below Wd.heap.size Wd X1 := by rw [hX1]; exact (Below.refl _ Wd).alloc (Nat.le_refl _) _
            have q1 : X1.heap[Wd.heap.size]? = some (.cells #[] 36 (0, 0)) := by rw [hX1]; exact heap_alloc_new Wd _
            have l1 : n0 ≤ X1.heap.size := Nat.le_trans hle0 b1.size
            have k1 : Below n0 w7 X1 := hK0.trans (b1.mono hle0)
            have o1 := sm_empty q1 hle0
            obtain ⟨X11, hX11⟩ : ∃ W, W = Wd.alloc (.cells #[.int .i64 ts, .int .u64 (vs : Int)] 36) := ⟨_, rfl⟩
            have b11 : Below Wd.heap.size Wd X11 := by rw [hX11]; exact (Below.refl _ Wd).alloc (Nat.le_refl _) _
            have e11 : X11.heap[Wd.heap.size]? = some (.cells #[.int .i64 ts, .int .u64 (vs : Int)] 36 (0, 0)) := by rw [hX11]; exact heap_alloc_new Wd _
            have l11 : n0 ≤ X11.heap.size := Nat.le_trans hle0 b11.size
            have k11 : Below n0 w7 X11 := hK0.trans (b11.mono hle0)
            refine wpAnyH_ready (rs := [0, 6]) (by kernel_rfl) (by simp) ?_
            refine rdy_val (i := 0) rfl rfl (some 46) rfl (.slice (some ⟨Wd.heap.size, 0, none⟩) 0 0) X1 (by rw [hX1]; exact sm_mk0 rfl) k1 (fun hHeld => ?br16a) (rdy_val (i := 6) rfl rfl (some 52) rfl (.slice (some ⟨Wd.heap.size, 0, none⟩) 1 1) X11 (by rw [hX11]; exact sm_mk1 (x := .tmp 51) rfl (by kernel_rfl)) k11 (fun hHeld => ?br16b) rdy_nil)
            case br16a =>
              simp only [Act.put, List.setIfInBounds_toArray, List.set_cons_succ, List.set_cons_zero]
              obtain ⟨ga2, gc2, X2, r2, o2, g2⟩ := smApp X1 n0 (.slice (some ⟨Wd.heap.size, 0, none⟩) 0 0) 0 [] o1 l1 fa p fc (S.take p) (HSA.out X1 k1) p (by omega) (by omega)
              have l2 : n0 ≤ X2.heap.size := Nat.le_trans l1 g2.size
              have k2 : Below n0 w7 X2 := k1.grown g2 l1 (fun b hb => (o1.lt b hb).1)
              obtain ⟨X6, hX6⟩ : ∃ W, W = X1.alloc (.cells #[.int .i64 ts, .int .u64 (vs : Int)] 36) := ⟨_, rfl⟩
              have b6 : Below X1.heap.size X1 X6 := by rw [hX6]; exact (Below.refl _ X1).alloc (Nat.le_refl _) _
              have e6 : X6.heap[X1.heap.size]? = some (.cells #[.int .i64 ts, .int .u64 (vs : Int)] 36 (0, 0)) := by rw [hX6]; exact heap_alloc_new X1 _
              have l6 : n0 ≤ X6.heap.size := Nat.le_trans l1 b6.size
              have k6 : Below n0 w7 X6 := k1.trans (b6.mono l1)
              have o6 := own_skip o1 b6
              have d6 : Wd.heap.size ≠ X1.heap.size := by have := (Array.getElem?_eq_some_iff.1 q1).1; omega
              refine wpAnyH_ready (rs := [4, 6]) (by kernel_rfl) (by simp) ?_
              refine rdy_val (i := 4) rfl rfl (some 50) rfl (.slice ga2 p gc2) X2 (sm_appr (x := .tmp 46) (y := .tmp 49) rfl (by kernel_rfl) (by kernel_rfl) r2) k2 (fun hHeld => ?br10a) (rdy_val (i := 6) rfl rfl (some 52) rfl (.slice (some ⟨X1.heap.size, 0, none⟩) 1 1) X6 (by rw [hX6]; exact sm_mk1 (x := .tmp 51) rfl (by kernel_rfl)) k6 (fun hHeld => ?br10b) rdy_nil)
              case br10a =>
                simp only [Act.put, List.setIfInBounds_toArray, List.set_cons_succ, List.set_cons_zero]
                obtain ⟨X3, hX3⟩ : ∃ W, W = X2.alloc (.cells #[.int .i64 ts, .int .u64 (vs : Int)] 36) := ⟨_, rfl⟩
                have b3 : Below X2.heap.size X2 X3 := by rw [hX3]; exact (Below.refl _ X2).alloc (Nat.le_refl _) _
                have e3 : X3.heap[X2.heap.size]? = some (.cells #[.int .i64 ts, .int .u64 (vs : Int)] 36 (0, 0)) := by rw [hX3]; exact heap_alloc_new X2 _
                have l3 : n0 ≤ X3.heap.size := Nat.le_trans l2 b3.size
                have k3 : Below n0 w7 X3 := k2.trans (b3.mono l2)
                have o3 := own_skip o2 b3
                refine wpAnyH_ready (rs := [6]) (by kernel_rfl) (by simp) ?_
                refine rdy_val (i := 6) rfl rfl (some 52) rfl (.slice (some ⟨X2.heap.size, 0, none⟩) 1 1) X3 (by rw [hX3]; exact sm_mk1 (x := .tmp 51) rfl (by kernel_rfl)) k3 (fun hHeld => ?_) rdy_nil
                simp only [Act.put, List.setIfInBounds_toArray, List.set_cons_succ, List.set_cons_zero]
                obtain ⟨ga4, gc4, X4, r4, o4, g4⟩ := smApp X3 n0 (.slice ga2 p gc2) p ([] ++ vsm (S.take p)) o3 l3 (some ⟨X2.heap.size, 0, none⟩) 1 1 [(⟨ts, vs⟩ : Sam)] (sm_n1 HOK.out e3) kn1 (by omega) (by omega)
                have l4 : n0 ≤ X4.heap.size := Nat.le_trans l3 g4.size
                have k4 : Below n0 w7 X4 := k3.grown g4 l3 (fun b hb => (o3.lt b hb).1)
                refine wpAnyH_ready (rs := [7]) (by kernel_rfl) (by simp) ?_
                refine rdy_val (i := 7) rfl rfl (some 53) rfl (.slice ga4 kn1 gc4) X4 (sm_appr (x := .tmp 50) (y := .tmp 52) rfl (by kernel_rfl) (by kernel_rfl) r4) k4 (fun hHeld => ?_) rdy_nil
                simp only [Act.put, List.setIfInBounds_toArray, List.set_cons_succ, List.set_cons_zero]
                obtain ⟨ga5, gc5, X5, r5, o5, g5⟩ := smApp X4 n0 (.slice ga4 kn1 gc4) kn1 ([] ++ vsm (S.take p) ++ vsm [(⟨ts, vs⟩ : Sam)]) o4 l4 a2 m2 c2 (S.drop p) (HSB.out X4 k4) n9 (by omega) (by omega)
                have l5 : n0 ≤ X5.heap.size := Nat.le_trans l4 g5.size
                have k5 : Below n0 w7 X5 := k4.grown g5 l4 (fun b hb => (o4.lt b hb).1)
                refine wpAnyH_ready (rs := [11]) (by kernel_rfl) (by simp) ?_
                refine rdy_val (i := 11) rfl rfl (some 57) rfl (.slice ga5 n9 gc5) X5 (sm_appr (x := .tmp 53) (y := .tmp 56) rfl (by kernel_rfl) (by kernel_rfl) r5) k5 (fun hHeld => ?_) rdy_nil
                simp only [Act.put, List.setIfInBounds_toArray, List.set_cons_succ, List.set_cons_zero]
                refine drawn_take (i := 12) (v := (.slice ga5 n9 gc5)) (some 4) rfl rfl (by kernel_rfl) (by kernel_rfl) (by kernel_rfl) (fun _ _ _ h => h) (Or.inl ⟨by kernel_rfl, fun wq hw => by go_simp⟩) hHeld ?_
                simp only [Act.put, List.setIfInBounds_toArray, List.set_cons_succ, List.set_cons_zero]
                refine wpAnyH_done (by kernel_rfl) ?_ _
                refine NoPanic.normal ?_
                clear hHeld
                exact ⟨rfl, _, ⟨.slice (some ⟨Wd.heap.size, 0, none⟩) 0 0, .slice ga2 p gc2, .slice (some ⟨X2.heap.size, 0, none⟩) 1 1, .slice ga4 kn1 gc4, _, _, (), rfl, k5, o5⟩, by kernel_rfl⟩
              case br10b =>
                simp only [Act.put, List.setIfInBounds_toArray, List.set_cons_succ, List.set_cons_zero]
                obtain ⟨ga7, gc7, X7, r7, o7, g7⟩ := smApp X6 n0 (.slice (some ⟨Wd.heap.size, 0, none⟩) 0 0) 0 [] o6 l6 fa p fc (S.take p) (HSA.out X6 k6) p (by omega) (by omega)
                have l7 : n0 ≤ X7.heap.size := Nat.le_trans l6 g7.size
                have k7 : Below n0 w7 X7 := k6.grown g7 l6 (fun b hb => (o6.lt b hb).1)
                have e7 := (g7.block X1.heap.size (Array.getElem?_eq_some_iff.1 e6).1 (fun e => d6 (Option.some.inj e).symm)).trans e6
                refine wpAnyH_ready (rs := [4]) (by kernel_rfl) (by simp) ?_
                refine rdy_val (i := 4) rfl rfl (some 50) rfl (.slice ga7 p gc7) X7 (sm_appr (x := .tmp 46) (y := .tmp 49) rfl (by kernel_rfl) (by kernel_rfl) r7) k7 (fun hHeld => ?_) rdy_nil
                simp only [Act.put, List.setIfInBounds_toArray, List.set_cons_succ, List.set_cons_zero]
                obtain ⟨ga8, gc8, X8, r8, o8, g8⟩ := smApp X7 n0 (.slice ga7 p gc7) p ([] ++ vsm (S.take p)) o7 l7 (some ⟨X1.heap.size, 0, none⟩) 1 1 [(⟨ts, vs⟩ : Sam)] (sm_n1 HOK.out e7) kn1 (by omega) (by omega)
                have l8 : n0 ≤ X8.heap.size := Nat.le_trans l7 g8.size
                have k8 : Below n0 w7 X8 := k7.grown g8 l7 (fun b hb => (o7.lt b hb).1)
                refine wpAnyH_ready (rs := [7]) (by kernel_rfl) (by simp) ?_
                refine rdy_val (i := 7) rfl rfl (some 53) rfl (.slice ga8 kn1 gc8) X8 (sm_appr (x := .tmp 50) (y := .tmp 52) rfl (by kernel_rfl) (by kernel_rfl) r8) k8 (fun hHeld => ?_) rdy_nil
                simp only [Act.put, List.setIfInBounds_toArray, List.set_cons_succ, List.set_cons_zero]
                obtain ⟨ga9, gc9, X9, r9, o9, g9⟩ := smApp X8 n0 (.slice ga8 kn1 gc8) kn1 ([] ++ vsm (S.take p) ++ vsm [(⟨ts, vs⟩ : Sam)]) o8 l8 a2 m2 c2 (S.drop p) (HSB.out X8 k8) n9 (by omega) (by omega)
                have l9 : n0 ≤ X9.heap.size := Nat.le_trans l8 g9.size
                have k9 : Below n0 w7 X9 := k8.grown g9 l8 (fun b hb => (o8.lt b hb).1)
                refine wpAnyH_ready (rs := [11]) (by kernel_rfl) (by simp) ?_
                refine rdy_val (i := 11) rfl rfl (some 57) rfl (.slice ga9 n9 gc9) X9 (sm_appr (x := .tmp 53) (y := .tmp 56) rfl (by kernel_rfl) (by kernel_rfl) r9) k9 (fun hHeld => ?_) rdy_nil
                simp only [Act.put, List.setIfInBounds_toArray, List.set_cons_succ, List.set_cons_zero]
                refine drawn_take (i := 12) (v := (.slice ga9 n9 gc9)) (some 4) rfl rfl (by kernel_rfl) (by kernel_rfl) (by kernel_rfl) (fun _ _ _ h => h) (Or.inl ⟨by kernel_rfl, fun wq hw => by go_simp⟩) hHeld ?_
                simp only [Act.put, List.setIfInBounds_toArray, List.set_cons_succ, List.set_cons_zero]
                refine wpAnyH_done (by kernel_rfl) ?_ _
                refine NoPanic.normal ?_
                clear hHeld
                exact ⟨rfl, _, ⟨.slice (some ⟨Wd.heap.size, 0, none⟩) 0 0, .slice ga7 p gc7, .slice (some ⟨X1.heap.size, 0, none⟩) 1 1, .slice ga8 kn1 gc8, _, _, (), rfl, k9, o9⟩, by kernel_rfl⟩
            case br16b =>
              simp only [Act.put, List.setIfInBounds_toArray, List.set_cons_succ, List.set_cons_zero]
              obtain ⟨X12, hX12⟩ : ∃ W, W = X11.alloc (.cells #[] 36) := ⟨_, rfl⟩
              have b12 : Below X11.heap.size X11 X12 := by rw [hX12]; exact (Below.refl _ X11).alloc (Nat.le_refl _) _
              have q12 : X12.heap[X11.heap.size]? = some (.cells #[] 36 (0, 0)) := by rw [hX12]; exact heap_alloc_new X11 _
              have l12 : n0 ≤ X12.heap.size := Nat.le_trans l11 b12.size
              have k12 : Below n0 w7 X12 := k11.trans (b12.mono l11)
              have o12 := sm_empty q12 l11
              have e12 := (b12.block Wd.heap.size (Array.getElem?_eq_some_iff.1 e11).1).trans e11
              have d12 : X11.heap.size ≠ Wd.heap.size := by have := (Array.getElem?_eq_some_iff.1 e11).1; omega
              refine wpAnyH_ready (rs := [0]) (by kernel_rfl) (by simp) ?_
              refine rdy_val (i := 0) rfl rfl (some 46) rfl (.slice (some ⟨X11.heap.size, 0, none⟩) 0 0) X12 (by rw [hX12]; exact sm_mk0 rfl) k12 (fun hHeld => ?_) rdy_nil
              simp only [Act.put, List.setIfInBounds_toArray, List.set_cons_succ, List.set_cons_zero]
              obtain ⟨ga13, gc13, X13, r13, o13, g13⟩ := smApp X12 n0 (.slice (some ⟨X11.heap.size, 0, none⟩) 0 0) 0 [] o12 l12 fa p fc (S.take p) (HSA.out X12 k12) p (by omega) (by omega)
              have l13 : n0 ≤ X13.heap.size := Nat.le_trans l12 g13.size
              have k13 : Below n0 w7 X13 := k12.grown g13 l12 (fun b hb => (o12.lt b hb).1)
              have e13 := (g13.block Wd.heap.size (Array.getElem?_eq_some_iff.1 e12).1 (fun e => d12 (Option.some.inj e).symm)).trans e12
              refine wpAnyH_ready (rs := [4]) (by kernel_rfl) (by simp) ?_
              refine rdy_val (i := 4) rfl rfl (some 50) rfl (.slice ga13 p gc13) X13 (sm_appr (x := .tmp 46) (y := .tmp 49) rfl (by kernel_rfl) (by kernel_rfl) r13) k13 (fun hHeld => ?_) rdy_nil
              simp only [Act.put, List.setIfInBounds_toArray, List.set_cons_succ, List.set_cons_zero]
              obtain ⟨ga14, gc14, X14, r14, o14, g14⟩ := smApp X13 n0 (.slice ga13 p gc13) p ([] ++ vsm (S.take p)) o13 l13 (some ⟨Wd.heap.size, 0, none⟩) 1 1 [(⟨ts, vs⟩ : Sam)] (sm_n1 HOK.out e13) kn1 (by omega) (by omega)
              have l14 : n0 ≤ X14.heap.size := Nat.le_trans l13 g14.size
              have k14 : Below n0 w7 X14 := k13.grown g14 l13 (fun b hb => (o13.lt b hb).1)
              refine wpAnyH_ready (rs := [7]) (by kernel_rfl) (by simp) ?_
              refine rdy_val (i := 7) rfl rfl (some 53) rfl (.slice ga14 kn1 gc14) X14 (sm_appr (x := .tmp 50) (y := .tmp 52) rfl (by kernel_rfl) (by kernel_rfl) r14) k14 (fun hHeld => ?_) rdy_nil
              simp only [Act.put, List.setIfInBounds_toArray, List.set_cons_succ, List.set_cons_zero]
              obtain ⟨ga15, gc15, X15, r15, o15, g15⟩ := smApp X14 n0 (.slice ga14 kn1 gc14) kn1 ([] ++ vsm (S.take p) ++ vsm [(⟨ts, vs⟩ : Sam)]) o14 l14 a2 m2 c2 (S.drop p) (HSB.out X14 k14) n9 (by omega) (by omega)
              have l15 : n0 ≤ X15.heap.size := Nat.le_trans l14 g15.size
              have k15 : Below n0 w7 X15 := k14.grown g15 l14 (fun b hb => (o14.lt b hb).1)
              refine wpAnyH_ready (rs := [11]) (by kernel_rfl) (by simp) ?_
              refine rdy_val (i := 11) rfl rfl (some 57) rfl (.slice ga15 n9 gc15) X15 (sm_appr (x := .tmp 53) (y := .tmp 56) rfl (by kernel_rfl) (by kernel_rfl) r15) k15 (fun hHeld => ?_) rdy_nil
              simp only [Act.put, List.setIfInBounds_toArray, List.set_cons_succ, List.set_cons_zero]
              refine drawn_take (i := 12) (v := (.slice ga15 n9 gc15)) (some 4) rfl rfl (by kernel_rfl) (by kernel_rfl) (by kernel_rfl) (fun _ _ _ h => h) (Or.inl ⟨by kernel_rfl, fun wq hw => by go_simp⟩) hHeld ?_
              simp only [Act.put, List.setIfInBounds_toArray, List.set_cons_succ, List.set_cons_zero]
              refine wpAnyH_done (by kernel_rfl) ?_ _
              refine NoPanic.normal ?_
              clear hHeld
              exact ⟨rfl, _, ⟨.slice (some ⟨X11.heap.size, 0, none⟩) 0 0, .slice ga13 p gc13, .slice (some ⟨Wd.heap.size, 0, none⟩) 1 1, .slice ga14 kn1 gc14, _, _, (), rfl, k15, o15⟩, by kernel_rfl⟩
          · rintro li w8 ⟨x46, x50, x52, x53, ga, gc, _, rfl, hB8, ho8⟩
            have hs5 : w.heap.size ≤ w7.heap.size := Nat.le_trans HB5.out.size HB7.out.size
            have HOO : Hid (w8.ownsRow w.heap.size 36 2 (.slice ga n9 gc) (N + 1) (vsm (S.take p ++ [⟨ts, vs⟩] ++ S.drop p))) := hidn (by
              rw [vsm_app, vsm_app, ← HN9.out]
              exact own_lowG ho8 (by rw [HNE.out]; exact hs5))
            have HBF : Hid (Below w.heap.size w w8) := hidn (HB5.out.trans ((HB7.out.trans (show Below w5.heap.size w7 w8 from (show Below w7.heap.size w7 w8 by rw [← HNE.out]; exact hB8).mono HB7.out.size)).mono HB5.out.size))
            clear hB8 ho8
            simp only [smPutAll, List.foldl_cons, List.foldl_nil, Act.put, List.setIfInBounds_toArray, List.set_cons_succ, List.set_cons_zero]
            go_wp2_with fail
            go_ret
            exact ⟨_, _, rfl, HST.out.1, HST.out.2, HOO.out, HBF.out⟩
        · have hpn2 : (p : Int) < (N : Int) := by omega
          have hp1 : ¬ (0 : Int) < (p : Int) := by omega
          obtain ⟨xb, xo, hfa, hxb, hxc⟩ := HF5.out.pos (by omega)
          obtain ⟨y, hy⟩ : ∃ y, y = (samD S p).t := ⟨_, rfl⟩
          have cy := (hxc p (by omega)).1
          rw [← hy] at cy
          have hmm : samD S p ∈ S := by rw [samD_at (show p < S.length by rw [HN.out]; omega)]; exact List.getElem_mem _
          have hny : ¬ y = ts := fun h9 => HNW.out _ hmm (hy.symm.trans h9)
          have HRY : Hid (∀ W, Below w5.heap.size w5 W → W.cell? ⟨xb, xo + p * 2, none⟩ = some (.int .i64 y) ∧ W.cell? ⟨w.heap.size, 0, none⟩ = some (.int .i64 ts)) := hidn (fun W hW => ⟨(hW.cell (block_lt_of_cell cy)).trans cy, (hW.cell (block_lt_of_cell z0)).trans z0⟩)
          clear hy cy
          clear hxc
          subst hfa
          clear hgo hp0 hpn
          go_wp2_with fail
          refine wp_region_noPanic ?_
          refine wp_region_held_drew (S := fun w' => Below w5.heap.size w5 w') (by kernel_rfl) ((Below.refl _ w5).drew) (fun hHeld => ?_)
          refine drawn_take (i := 0) (v := .int .i64 (p : Int)) (some 9) rfl rfl (by kernel_rfl) (by kernel_rfl) (by kernel_rfl) (fun _ _ _ h => h) (Or.inl ⟨by kernel_rfl, fun wq hw => by go_simp⟩) hHeld ?_
          simp only [Act.put, List.setIfInBounds_toArray, List.set_cons_succ, List.set_cons_zero]
          refine drawn_take (i := 1) (v := .bool false) (some 10) rfl rfl (by kernel_rfl) (by kernel_rfl) (by kernel_rfl) (fun _ _ _ h => h) (Or.inl ⟨by kernel_rfl, fun wq hw => by go_simp <;> omega⟩) hHeld ?_
          simp only [Act.put, List.setIfInBounds_toArray, List.set_cons_succ, List.set_cons_zero]
          refine drawn_take (i := 2) (v := .bool false) (some 11) rfl rfl (by kernel_rfl) (by kernel_rfl) (by kernel_rfl) (fun _ _ _ h => h) (Or.inl ⟨by kernel_rfl, fun wq hw => by go_simp⟩) hHeld ?_
          simp only [Act.put, List.setIfInBounds_toArray, List.set_cons_succ, List.set_cons_zero]
          refine drawn_take (i := 3) (v := undef) (some 12) rfl rfl (by kernel_rfl) (by kernel_rfl) (by kernel_rfl) (fun _ _ _ h => h) (Or.inr ⟨by kernel_rfl, rfl⟩) hHeld ?_
          simp only [Act.put, List.setIfInBounds_toArray, List.set_cons_succ, List.set_cons_zero]
          refine drawn_take (i := 4) (v := undef) (some 13) rfl rfl (by kernel_rfl) (by kernel_rfl) (by kernel_rfl) (fun _ _ _ h => h) (Or.inr ⟨by kernel_rfl, rfl⟩) hHeld ?_
          simp only [Act.put, List.setIfInBounds_toArray, List.set_cons_succ, List.set_cons_zero]
          refine drawn_take (i := 5) (v := undef) (some 14) rfl rfl (by kernel_rfl) (by kernel_rfl) (by kernel_rfl) (fun _ _ _ h => h) (Or.inr ⟨by kernel_rfl, rfl⟩) hHeld ?_
          simp only [Act.put, List.setIfInBounds_toArray, List.set_cons_succ, List.set_cons_zero]
          refine drawn_take (i := 6) (v := undef) (some 15) rfl rfl (by kernel_rfl) (by kernel_rfl) (by kernel_rfl) (fun _ _ _ h => h) (Or.inr ⟨by kernel_rfl, rfl⟩) hHeld ?_
          simp only [Act.put, List.setIfInBounds_toArray, List.set_cons_succ, List.set_cons_zero]
          refine drawn_take (i := 7) (v := undef) (some 16) rfl rfl (by kernel_rfl) (by kernel_rfl) (by kernel_rfl) (fun _ _ _ h => h) (Or.inr ⟨by kernel_rfl, rfl⟩) hHeld ?_
          simp only [Act.put, List.setIfInBounds_toArray, List.set_cons_succ, List.set_cons_zero]
          refine drawn_take (i := 8) (v := undef) (some 17) rfl rfl (by kernel_rfl) (by kernel_rfl) (by kernel_rfl) (fun _ _ _ h => h) (Or.inr ⟨by kernel_rfl, rfl⟩) hHeld ?_
          simp only [Act.put, List.setIfInBounds_toArray, List.set_cons_succ, List.set_cons_zero]
          refine drawn_take (i := 9) (v := undef) (some 18) rfl rfl (by kernel_rfl) (by kernel_rfl) (by kernel_rfl) (fun _ _ _ h => h) (Or.inr ⟨by kernel_rfl, rfl⟩) hHeld ?_
          simp only [Act.put, List.setIfInBounds_toArray, List.set_cons_succ, List.set_cons_zero]
          refine drawn_take (i := 10) (v := undef) (some 19) rfl rfl (by kernel_rfl) (by kernel_rfl) (by kernel_rfl) (fun _ _ _ h => h) (Or.inr ⟨by kernel_rfl, rfl⟩) hHeld ?_
          simp only [Act.put, List.setIfInBounds_toArray, List.set_cons_succ, List.set_cons_zero]
          refine drawn_take (i := 11) (v := undef) (some 20) rfl rfl (by kernel_rfl) (by kernel_rfl) (by kernel_rfl) (fun _ _ _ h => h) (Or.inr ⟨by kernel_rfl, rfl⟩) hHeld ?_
          simp only [Act.put, List.setIfInBounds_toArray, List.set_cons_succ, List.set_cons_zero]
          refine drawn_take (i := 12) (v := .bool false) (some 21) rfl rfl (by kernel_rfl) (by kernel_rfl) (by kernel_rfl) (fun _ _ _ h => h) (Or.inl ⟨by kernel_rfl, fun wq hw => by go_simp⟩) hHeld ?_
          simp only [Act.put, List.setIfInBounds_toArray, List.set_cons_succ, List.set_cons_zero]
          refine wpAnyH_done (by kernel_rfl) ?_ _
          refine NoPanic.normal ?_
          clear hHeld
          obtain ⟨w6, hw6⟩ : ∃ w6, w6 = w5.drew := ⟨_, rfl⟩
          rw [← hw6]
          have b56 : Hid (Below w5.heap.size w5 w6) := hidn (by rw [hw6]; exact (Below.refl _ w5).drew)
          clear hw6
          go_wp2_with fail
          refine wp_region_noPanic ?_
          refine wp_region_held_drew (S := fun w' => Below w6.heap.size w6 w') (by kernel_rfl) ((Below.refl _ w6).drew) (fun hHeld => ?_)
          refine drawn_take (i := 0) (v := .int .i64 (p : Int)) (some 24) rfl rfl (by kernel_rfl) (by kernel_rfl) (by kernel_rfl) (fun _ _ _ h => h) (Or.inl ⟨by kernel_rfl, fun wq hw => by go_simp⟩) hHeld ?_
          simp only [Act.put, List.setIfInBounds_toArray, List.set_cons_succ, List.set_cons_zero]
          refine drawn_take (i := 1) (v := .slice (some ⟨xb, xo, none⟩) N fc) (some 25) rfl rfl (by kernel_rfl) (by kernel_rfl) (by kernel_rfl) (fun _ _ _ h => h) (Or.inl ⟨by kernel_rfl, fun wq hw => by go_simp⟩) hHeld ?_
          simp only [Act.put, List.setIfInBounds_toArray, List.set_cons_succ, List.set_cons_zero]
          refine drawn_take (i := 2) (v := .int .i64 (N : Int)) (some 26) rfl rfl (by kernel_rfl) (by kernel_rfl) (by kernel_rfl) (fun _ _ _ h => h) (Or.inl ⟨by kernel_rfl, fun wq hw => by go_simp⟩) hHeld ?_
          simp only [Act.put, List.setIfInBounds_toArray, List.set_cons_succ, List.set_cons_zero]
          refine drawn_take (i := 3) (v := .bool true) (some 27) rfl rfl (by kernel_rfl) (by kernel_rfl) (by kernel_rfl) (fun _ _ _ h => h) (Or.inl ⟨by kernel_rfl, fun wq hw => by go_simp <;> omega⟩) hHeld ?_
          simp only [Act.put, List.setIfInBounds_toArray, List.set_cons_succ, List.set_cons_zero]
          refine drawn_take (i := 4) (v := .bool true) (some 28) rfl rfl (by kernel_rfl) (by kernel_rfl) (by kernel_rfl) (fun _ _ _ h => h) (Or.inl ⟨by kernel_rfl, fun wq hw => by go_simp⟩) hHeld ?_
          simp only [Act.put, List.setIfInBounds_toArray, List.set_cons_succ, List.set_cons_zero]
          refine drawn_take (i := 5) (v := .slice (some ⟨xb, xo, none⟩) N fc) (some 29) rfl rfl (by kernel_rfl) (by kernel_rfl) (by kernel_rfl) (fun _ _ _ h => h) (Or.inl ⟨by kernel_rfl, fun wq hw => by go_simp⟩) hHeld ?_
          simp only [Act.put, List.setIfInBounds_toArray, List.set_cons_succ, List.set_cons_zero]
          refine drawn_take (i := 6) (v := .int .i64 (p : Int)) (some 30) rfl rfl (by kernel_rfl) (by kernel_rfl) (by kernel_rfl) (fun _ _ _ h => h) (Or.inl ⟨by kernel_rfl, fun wq hw => by go_simp⟩) hHeld ?_
          simp only [Act.put, List.setIfInBounds_toArray, List.set_cons_succ, List.set_cons_zero]
          refine drawn_take (i := 7) (v := .pointer (some ⟨xb, xo + p * 2, none⟩)) (some 31) rfl rfl (by kernel_rfl) (by kernel_rfl) (by kernel_rfl) (fun _ _ _ h => h) (Or.inl ⟨by kernel_rfl, fun wq hw => by go_simp <;> (intro h8; exfalso; omega)⟩) hHeld ?_
          simp only [Act.put, List.setIfInBounds_toArray, List.set_cons_succ, List.set_cons_zero]
          refine drawn_take (i := 8) (v := .pointer (some ⟨xb, xo + p * 2, none⟩)) (some 32) rfl rfl (by kernel_rfl) (by kernel_rfl) (by kernel_rfl) (fun _ _ _ h => h) (Or.inl ⟨by kernel_rfl, fun wq hw => by go_simp⟩) hHeld ?_
          simp only [Act.put, List.setIfInBounds_toArray, List.set_cons_succ, List.set_cons_zero]
          refine drawn_take (i := 9) (v := .int .i64 y) (some 33) rfl rfl (by kernel_rfl) (by kernel_rfl) (by kernel_rfl) (fun _ _ _ h => h) (Or.inl ⟨by kernel_rfl, fun wq hw => by obtain ⟨q1, q2⟩ := HRY.out _ (b56.out.trans (hw.mono b56.out.size)); go_simp⟩) hHeld ?_
          simp only [Act.put, List.setIfInBounds_toArray, List.set_cons_succ, List.set_cons_zero]
          refine drawn_take (i := 10) (v := .pointer (some ⟨w.heap.size, 0, none⟩)) (some 34) rfl rfl (by kernel_rfl) (by kernel_rfl) (by kernel_rfl) (fun _ _ _ h => h) (Or.inl ⟨by kernel_rfl, fun wq hw => by go_simp⟩) hHeld ?_
          simp only [Act.put, List.setIfInBounds_toArray, List.set_cons_succ, List.set_cons_zero]
          refine drawn_take (i := 11) (v := .int .i64 ts) (some 35) rfl rfl (by kernel_rfl) (by kernel_rfl) (by kernel_rfl) (fun _ _ _ h => h) (Or.inl ⟨by kernel_rfl, fun wq hw => by obtain ⟨q1, q2⟩ := HRY.out _ (b56.out.trans (hw.mono b56.out.size)); go_simp⟩) hHeld ?_
          simp only [Act.put, List.setIfInBounds_toArray, List.set_cons_succ, List.set_cons_zero]
          refine drawn_take (i := 12) (v := .bool false) (some 36) rfl rfl (by kernel_rfl) (by kernel_rfl) (by kernel_rfl) (fun _ _ _ h => h) (Or.inl ⟨by kernel_rfl, fun wq hw => by go_simp <;> omega⟩) hHeld ?_
          simp only [Act.put, List.setIfInBounds_toArray, List.set_cons_succ, List.set_cons_zero]
          refine drawn_take (i := 13) (v := .bool false) (some 37) rfl rfl (by kernel_rfl) (by kernel_rfl) (by kernel_rfl) (fun _ _ _ h => h) (Or.inl ⟨by kernel_rfl, fun wq hw => by go_simp⟩) hHeld ?_
          simp only [Act.put, List.setIfInBounds_toArray, List.set_cons_succ, List.set_cons_zero]
          refine wpAnyH_done (by kernel_rfl) ?_ _
          refine NoPanic.normal ?_
          clear hHeld
          obtain ⟨w7, hw7⟩ : ∃ w7, w7 = w6.drew := ⟨_, rfl⟩
          rw [← hw7]
          have HB7 : Hid (Below w5.heap.size w5 w7) := hidn (b56.out.trans (show Below w5.heap.size w6 w7 by rw [hw7]; exact ((Below.refl _ w6).drew).mono b56.out.size))
          clear hw7
          obtain ⟨n0, hn0⟩ : ∃ n0, n0 = w7.heap.size := ⟨_, rfl⟩
          have HNE := hidn hn0
          have HSA : Hid (∀ W, Below n0 w7 W → Sm W (some ⟨xb, xo, none⟩) p (S.take p)) := hidn (fun W hW => ((HF5.out.below HB7.out).below (by rw [← HNE.out]; exact hW)).take p hpN)
          have HSB : Hid (∀ W, Below n0 w7 W → Sm W a2 m2 (S.drop p)) := hidn (fun W hW => by rw [HA2.out, HM2.out]; exact smLow ((HF5.out.below HB7.out).below (by rw [← HNE.out]; exact hW)) hfc hpN)
          have HBX : Hid (∀ W, Below n0 w7 W → W.cell? ⟨w.heap.size, 0, none⟩ = some (.int .i64 ts) ∧ W.cell? ⟨w.heap.size, 1, none⟩ = some (.int .u64 (vs : Int))) := hidn (fun W hW => by
            have q8 := (HB7.out.block _ (Array.getElem?_eq_some_iff.1 HQ5.out).1).trans HQ5.out
            have q9 := (hW.block _ (by rw [HNE.out]; exact (Array.getElem?_eq_some_iff.1 q8).1)).trans q8
            exact ⟨cell_of_row _ _ _ _ _ _ q9, cell_of_row _ _ _ _ _ _ q9⟩)
          clear hn0
          go_wp2_with fail
          refine sm_cut (fun li wx => ∃ (x46 x50 x52 x53 : Value) (ga : Option Addr) (gc : Nat) (u : Unit), li = [(47, .slice (some ⟨xb, xo, none⟩) N fc), (48, .int .i64 (p : Int)), (49, .slice (some ⟨xb, xo, none⟩) p fc), (51, .agg #[.int .i64 ts, .int .u64 (vs : Int)]), (54, .slice (some ⟨xb, xo, none⟩) N fc), (55, .int .i64 (p : Int)), (56, .slice a2 m2 c2), (46, x46), (50, x50), (52, x52), (53, x53), (57, .slice ga n9 gc), (4, .slice ga n9 gc)] ∧ Below n0 w7 wx ∧ wx.ownsRow n0 36 2 (.slice ga n9 gc) n9 ([] ++ vsm (S.take p) ++ vsm [(⟨ts, vs⟩ : Sam)] ++ vsm (S.drop p))) ?_ ?_
          · obtain ⟨Wd, hWd⟩ : ∃ Wd, Wd = w7.drew := ⟨_, rfl⟩
            have hK0 : Below n0 w7 Wd := by rw [hWd]; exact (Below.refl n0 w7).drew
            have hle0 : n0 ≤ Wd.heap.size := by rw [hWd, HNE.out]; exact Nat.le_refl _
            refine wp_region_noPanic ?_
            refine wp_region_held_drew (S := Below n0 w7) (by kernel_rfl) ((Below.refl n0 w7).drew) (fun hHeld => ?_)
            rw [← hWd] at hHeld ⊢
            clear hWd
            refine drawn_take (i := 1) (v := .slice (some ⟨xb, xo, none⟩) N fc) (some 47) rfl rfl (by kernel_rfl) (by kernel_rfl) (by kernel_rfl) (fun _ _ _ h => h) (Or.inl ⟨by kernel_rfl, fun wq hw => by go_simp⟩) hHeld ?_
            simp only [Act.put, List.setIfInBounds_toArray, List.set_cons_succ, List.set_cons_zero]
            refine drawn_take (i := 2) (v := .int .i64 (p : Int)) (some 48) rfl rfl (by kernel_rfl) (by kernel_rfl) (by kernel_rfl) (fun _ _ _ h => h) (Or.inl ⟨by kernel_rfl, fun wq hw => by go_simp⟩) hHeld ?_
            simp only [Act.put, List.setIfInBounds_toArray, List.set_cons_succ, List.set_cons_zero]
            refine drawn_take (i := 3) (v := .slice (some ⟨xb, xo, none⟩) p fc) (some 49) rfl rfl (by kernel_rfl) (by kernel_rfl) (by kernel_rfl) (fun _ _ _ h => h) (Or.inl ⟨by kernel_rfl, fun wq hw => sm_slH (N := N) (x := .tmp 47) (z := .tmp 48) rfl (by kernel_rfl) (by kernel_rfl) hfp⟩) hHeld ?_
            simp only [Act.put, List.setIfInBounds_toArray, List.set_cons_succ, List.set_cons_zero]
            refine drawn_take (i := 5) (v := .agg #[.int .i64 ts, .int .u64 (vs : Int)]) (some 51) rfl rfl (by kernel_rfl) (by kernel_rfl) (by kernel_rfl) (fun _ _ _ h => h) (Or.inl ⟨by kernel_rfl, fun wq hw => by obtain ⟨q1, q2⟩ := HBX.out _ hw; go_simp⟩) hHeld ?_
            simp only [Act.put, List.setIfInBounds_toArray, List.set_cons_succ, List.set_cons_zero]
            refine drawn_take (i := 8) (v := .slice (some ⟨xb, xo, none⟩) N fc) (some 54) rfl rfl (by kernel_rfl) (by kernel_rfl) (by kernel_rfl) (fun _ _ _ h => h) (Or.inl ⟨by kernel_rfl, fun wq hw => by go_simp⟩) hHeld ?_
            simp only [Act.put, List.setIfInBounds_toArray, List.set_cons_succ, List.set_cons_zero]
            refine drawn_take (i := 9) (v := .int .i64 (p : Int)) (some 55) rfl rfl (by kernel_rfl) (by kernel_rfl) (by kernel_rfl) (fun _ _ _ h => h) (Or.inl ⟨by kernel_rfl, fun wq hw => by go_simp⟩) hHeld ?_
            simp only [Act.put, List.setIfInBounds_toArray, List.set_cons_succ, List.set_cons_zero]
            refine drawn_take (i := 10) (v := .slice a2 m2 c2) (some 56) rfl rfl (by kernel_rfl) (by kernel_rfl) (by kernel_rfl) (fun _ _ _ h => h) (Or.inl ⟨by kernel_rfl, fun wq hw => sm_slL (x := .tmp 54) (z := .tmp 55) rfl (by kernel_rfl) (by kernel_rfl) hpN HA2 HM2 HC2⟩) hHeld ?_
            simp only [Act.put, List.setIfInBounds_toArray, List.set_cons_succ, List.set_cons_zero]
            obtain ⟨X1, hX1⟩ : ∃ W, W = Wd.alloc (.cells #[] 36) := ⟨_, rfl⟩
            have b1 : Below Wd.heap.size Wd X1 := by rw [hX1]; exact (Below.refl _ Wd).alloc (Nat.le_refl _) _
            have q1 : X1.heap[Wd.heap.size]? = some (.cells #[] 36 (0, 0)) := by rw [hX1]; exact heap_alloc_new Wd _
            have l1 : n0 ≤ X1.heap.size := Nat.le_trans hle0 b1.size
            have k1 : Below n0 w7 X1 := hK0.trans (b1.mono hle0)
            have o1 := sm_empty q1 hle0
            obtain ⟨X11, hX11⟩ : ∃ W, W = Wd.alloc (.cells #[.int .i64 ts, .int .u64 (vs : Int)] 36) := ⟨_, rfl⟩
            have b11 : Below Wd.heap.size Wd X11 := by rw [hX11]; exact (Below.refl _ Wd).alloc (Nat.le_refl _) _
            have e11 : X11.heap[Wd.heap.size]? = some (.cells #[.int .i64 ts, .int .u64 (vs : Int)] 36 (0, 0)) := by rw [hX11]; exact heap_alloc_new Wd _
            have l11 : n0 ≤ X11.heap.size := Nat.le_trans hle0 b11.size
            have k11 : Below n0 w7 X11 := hK0.trans (b11.mono hle0)
            refine wpAnyH_ready (rs := [0, 6]) (by kernel_rfl) (by simp) ?_
            refine rdy_val (i := 0) rfl rfl (some 46) rfl (.slice (some ⟨Wd.heap.size, 0, none⟩) 0 0) X1 (by rw [hX1]; exact sm_mk0 rfl) k1 (fun hHeld => ?br16a) (rdy_val (i := 6) rfl rfl (some 52) rfl (.slice (some ⟨Wd.heap.size, 0, none⟩) 1 1) X11 (by rw [hX11]; exact sm_mk1 (x := .tmp 51) rfl (by kernel_rfl)) k11 (fun hHeld => ?br16b) rdy_nil)
            case br16a =>
              simp only [Act.put, List.setIfInBounds_toArray, List.set_cons_succ, List.set_cons_zero]
              obtain ⟨ga2, gc2, X2, r2, o2, g2⟩ := smApp X1 n0 (.slice (some ⟨Wd.heap.size, 0, none⟩) 0 0) 0 [] o1 l1 (some ⟨xb, xo, none⟩) p fc (S.take p) (HSA.out X1 k1) p (by omega) (by omega)
              have l2 : n0 ≤ X2.heap.size := Nat.le_trans l1 g2.size
              have k2 : Below n0 w7 X2 := k1.grown g2 l1 (fun b hb => (o1.lt b hb).1)
              obtain ⟨X6, hX6⟩ : ∃ W, W = X1.alloc (.cells #[.int .i64 ts, .int .u64 (vs : Int)] 36) := ⟨_, rfl⟩
              have b6 : Below X1.heap.size X1 X6 := by rw [hX6]; exact (Below.refl _ X1).alloc (Nat.le_refl _) _
              have e6 : X6.heap[X1.heap.size]? = some (.cells #[.int .i64 ts, .int .u64 (vs : Int)] 36 (0, 0)) := by rw [hX6]; exact heap_alloc_new X1 _
              have l6 : n0 ≤ X6.heap.size := Nat.le_trans l1 b6.size
              have k6 : Below n0 w7 X6 := k1.trans (b6.mono l1)
              have o6 := own_skip o1 b6
              have d6 : Wd.heap.size ≠ X1.heap.size := by have := (Array.getElem?_eq_some_iff.1 q1).1; omega
              refine wpAnyH_ready (rs := [4, 6]) (by kernel_rfl) (by simp) ?_
              refine rdy_val (i := 4) rfl rfl (some 50) rfl (.slice ga2 p gc2) X2 (sm_appr (x := .tmp 46) (y := .tmp 49) rfl (by kernel_rfl) (by kernel_rfl) r2) k2 (fun hHeld => ?br10a) (rdy_val (i := 6) rfl rfl (some 52) rfl (.slice (some ⟨X1.heap.size, 0, none⟩) 1 1) X6 (by rw [hX6]; exact sm_mk1 (x := .tmp 51) rfl (by kernel_rfl)) k6 (fun hHeld => ?br10b) rdy_nil)
              case br10a =>
                simp only [Act.put, List.setIfInBounds_toArray, List.set_cons_succ, List.set_cons_zero]
                obtain ⟨X3, hX3⟩ : ∃ W, W = X2.alloc (.cells #[.int .i64 ts, .int .u64 (vs : Int)] 36) := ⟨_, rfl⟩
                have b3 : Below X2.heap.size X2 X3 := by rw [hX3]; exact (Below.refl _ X2).alloc (Nat.le_refl _) _
                have e3 : X3.heap[X2.heap.size]? = some (.cells #[.int .i64 ts, .int .u64 (vs : Int)] 36 (0, 0)) := by rw [hX3]; exact heap_alloc_new X2 _
                have l3 : n0 ≤ X3.heap.size := Nat.le_trans l2 b3.size
                have k3 : Below n0 w7 X3 := k2.trans (b3.mono l2)
                have o3 := own_skip o2 b3
                refine wpAnyH_ready (rs := [6]) (by kernel_rfl) (by simp) ?_
                refine rdy_val (i := 6) rfl rfl (some 52) rfl (.slice (some ⟨X2.heap.size, 0, none⟩) 1 1) X3 (by rw [hX3]; exact sm_mk1 (x := .tmp 51) rfl (by kernel_rfl)) k3 (fun hHeld => ?_) rdy_nil
                simp only [Act.put, List.setIfInBounds_toArray, List.set_cons_succ, List.set_cons_zero]
                obtain ⟨ga4, gc4, X4, r4, o4, g4⟩ := smApp X3 n0 (.slice ga2 p gc2) p ([] ++ vsm (S.take p)) o3 l3 (some ⟨X2.heap.size, 0, none⟩) 1 1 [(⟨ts, vs⟩ : Sam)] (sm_n1 HOK.out e3) kn1 (by omega) (by omega)
                have l4 : n0 ≤ X4.heap.size := Nat.le_trans l3 g4.size
                have k4 : Below n0 w7 X4 := k3.grown g4 l3 (fun b hb => (o3.lt b hb).1)
                refine wpAnyH_ready (rs := [7]) (by kernel_rfl) (by simp) ?_
                refine rdy_val (i := 7) rfl rfl (some 53) rfl (.slice ga4 kn1 gc4) X4 (sm_appr (x := .tmp 50) (y := .tmp 52) rfl (by kernel_rfl) (by kernel_rfl) r4) k4 (fun hHeld => ?_) rdy_nil
                simp only [Act.put, List.setIfInBounds_toArray, List.set_cons_succ, List.set_cons_zero]
                obtain ⟨ga5, gc5, X5, r5, o5, g5⟩ := smApp X4 n0 (.slice ga4 kn1 gc4) kn1 ([] ++ vsm (S.take p) ++ vsm [(⟨ts, vs⟩ : Sam)]) o4 l4 a2 m2 c2 (S.drop p) (HSB.out X4 k4) n9 (by omega) (by omega)
                have l5 : n0 ≤ X5.heap.size := Nat.le_trans l4 g5.size
                have k5 : Below n0 w7 X5 := k4.grown g5 l4 (fun b hb => (o4.lt b hb).1)
                refine wpAnyH_ready (rs := [11]) (by kernel_rfl) (by simp) ?_
                refine rdy_val (i := 11) rfl rfl (some 57) rfl (.slice ga5 n9 gc5) X5 (sm_appr (x := .tmp 53) (y := .tmp 56) rfl (by kernel_rfl) (by kernel_rfl) r5) k5 (fun hHeld => ?_) rdy_nil
                simp only [Act.put, List.setIfInBounds_toArray, List.set_cons_succ, List.set_cons_zero]
                refine drawn_take (i := 12) (v := (.slice ga5 n9 gc5)) (some 4) rfl rfl (by kernel_rfl) (by kernel_rfl) (by kernel_rfl) (fun _ _ _ h => h) (Or.inl ⟨by kernel_rfl, fun wq hw => by go_simp⟩) hHeld ?_
                simp only [Act.put, List.setIfInBounds_toArray, List.set_cons_succ, List.set_cons_zero]
                refine wpAnyH_done (by kernel_rfl) ?_ _
                refine NoPanic.normal ?_
                clear hHeld
                exact ⟨rfl, _, ⟨.slice (some ⟨Wd.heap.size, 0, none⟩) 0 0, .slice ga2 p gc2, .slice (some ⟨X2.heap.size, 0, none⟩) 1 1, .slice ga4 kn1 gc4, _, _, (), rfl, k5, o5⟩, by kernel_rfl⟩
              case br10b =>
                simp only [Act.put, List.setIfInBounds_toArray, List.set_cons_succ, List.set_cons_zero]
                obtain ⟨ga7, gc7, X7, r7, o7, g7⟩ := smApp X6 n0 (.slice (some ⟨Wd.heap.size, 0, none⟩) 0 0) 0 [] o6 l6 (some ⟨xb, xo, none⟩) p fc (S.take p) (HSA.out X6 k6) p (by omega) (by omega)
                have l7 : n0 ≤ X7.heap.size := Nat.le_trans l6 g7.size
                have k7 : Below n0 w7 X7 := k6.grown g7 l6 (fun b hb => (o6.lt b hb).1)
                have e7 := (g7.block X1.heap.size (Array.getElem?_eq_some_iff.1 e6).1 (fun e => d6 (Option.some.inj e).symm)).trans e6
                refine wpAnyH_ready (rs := [4]) (by kernel_rfl) (by simp) ?_
                refine rdy_val (i := 4) rfl rfl (some 50) rfl (.slice ga7 p gc7) X7 (sm_appr (x := .tmp 46) (y := .tmp 49) rfl (by kernel_rfl) (by kernel_rfl) r7) k7 (fun hHeld => ?_) rdy_nil
                simp only [Act.put, List.setIfInBounds_toArray, List.set_cons_succ, List.set_cons_zero]
                obtain ⟨ga8, gc8, X8, r8, o8, g8⟩ := smApp X7 n0 (.slice ga7 p gc7) p ([] ++ vsm (S.take p)) o7 l7 (some ⟨X1.heap.size, 0, none⟩) 1 1 [(⟨ts, vs⟩ : Sam)] (sm_n1 HOK.out e7) kn1 (by omega) (by omega)
                have l8 : n0 ≤ X8.heap.size := Nat.le_trans l7 g8.size
                have k8 : Below n0 w7 X8 := k7.grown g8 l7 (fun b hb => (o7.lt b hb).1)
                refine wpAnyH_ready (rs := [7]) (by kernel_rfl) (by simp) ?_
                refine rdy_val (i := 7) rfl rfl (some 53) rfl (.slice ga8 kn1 gc8) X8 (sm_appr (x := .tmp 50) (y := .tmp 52) rfl (by kernel_rfl) (by kernel_rfl) r8) k8 (fun hHeld => ?_) rdy_nil
                simp only [Act.put, List.setIfInBounds_toArray, List.set_cons_succ, List.set_cons_zero]
                obtain ⟨ga9, gc9, X9, r9, o9, g9⟩ := smApp X8 n0 (.slice ga8 kn1 gc8) kn1 ([] ++ vsm (S.take p) ++ vsm [(⟨ts, vs⟩ : Sam)]) o8 l8 a2 m2 c2 (S.drop p) (HSB.out X8 k8) n9 (by omega) (by omega)
                have l9 : n0 ≤ X9.heap.size := Nat.le_trans l8 g9.size
                have k9 : Below n0 w7 X9 := k8.grown g9 l8 (fun b hb => (o8.lt b hb).1)
                refine wpAnyH_ready (rs := [11]) (by kernel_rfl) (by simp) ?_
                refine rdy_val (i := 11) rfl rfl (some 57) rfl (.slice ga9 n9 gc9) X9 (sm_appr (x := .tmp 53) (y := .tmp 56) rfl (by kernel_rfl) (by kernel_rfl) r9) k9 (fun hHeld => ?_) rdy_nil
                simp only [Act.put, List.setIfInBounds_toArray, List.set_cons_succ, List.set_cons_zero]
                refine drawn_take (i := 12) (v := (.slice ga9 n9 gc9)) (some 4) rfl rfl (by kernel_rfl) (by kernel_rfl) (by kernel_rfl) (fun _ _ _ h => h) (Or.inl ⟨by kernel_rfl, fun wq hw => by go_simp⟩) hHeld ?_
                simp only [Act.put, List.setIfInBounds_toArray, List.set_cons_succ, List.set_cons_zero]
                refine wpAnyH_done (by kernel_rfl) ?_ _
                refine NoPanic.normal ?_
                clear hHeld
                exact ⟨rfl, _, ⟨.slice (some ⟨Wd.heap.size, 0, none⟩) 0 0, .slice ga7 p gc7, .slice (some ⟨X1.heap.size, 0, none⟩) 1 1, .slice ga8 kn1 gc8, _, _, (), rfl, k9, o9⟩, by kernel_rfl⟩
            case br16b =>
              simp only [Act.put, List.setIfInBounds_toArray, List.set_cons_succ, List.set_cons_zero]
              obtain ⟨X12, hX12⟩ : ∃ W, W = X11.alloc (.cells #[] 36) := ⟨_, rfl⟩
              have b12 : Below X11.heap.size X11 X12 := by rw [hX12]; exact (Below.refl _ X11).alloc (Nat.le_refl _) _
              have q12 : X12.heap[X11.heap.size]? = some (.cells #[] 36 (0, 0)) := by rw [hX12]; exact heap_alloc_new X11 _
              have l12 : n0 ≤ X12.heap.size := Nat.le_trans l11 b12.size
              have k12 : Below n0 w7 X12 := k11.trans (b12.mono l11)
              have o12 := sm_empty q12 l11
              have e12 := (b12.block Wd.heap.size (Array.getElem?_eq_some_iff.1 e11).1).trans e11
              have d12 : X11.heap.size ≠ Wd.heap.size := by have := (Array.getElem?_eq_some_iff.1 e11).1; omega
              refine wpAnyH_ready (rs := [0]) (by kernel_rfl) (by simp) ?_
              refine rdy_val (i := 0) rfl rfl (some 46) rfl (.slice (some ⟨X11.heap.size, 0, none⟩) 0 0) X12 (by rw [hX12]; exact sm_mk0 rfl) k12 (fun hHeld => ?_) rdy_nil
              simp only [Act.put, List.setIfInBounds_toArray, List.set_cons_succ, List.set_cons_zero]
              obtain ⟨ga13, gc13, X13, r13, o13, g13⟩ := smApp X12 n0 (.slice (some ⟨X11.heap.size, 0, none⟩) 0 0) 0 [] o12 l12 (some ⟨xb, xo, none⟩) p fc (S.take p) (HSA.out X12 k12) p (by omega) (by omega)
              have l13 : n0 ≤ X13.heap.size := Nat.le_trans l12 g13.size
              have k13 : Below n0 w7 X13 := k12.grown g13 l12 (fun b hb => (o12.lt b hb).1)
              have e13 := (g13.block Wd.heap.size (Array.getElem?_eq_some_iff.1 e12).1 (fun e => d12 (Option.some.inj e).symm)).trans e12
              refine wpAnyH_ready (rs := [4]) (by kernel_rfl) (by simp) ?_
              refine rdy_val (i := 4) rfl rfl (some 50) rfl (.slice ga13 p gc13) X13 (sm_appr (x := .tmp 46) (y := .tmp 49) rfl (by kernel_rfl) (by kernel_rfl) r13) k13 (fun hHeld => ?_) rdy_nil
              simp only [Act.put, List.setIfInBounds_toArray, List.set_cons_succ, List.set_cons_zero]
              obtain ⟨ga14, gc14, X14, r14, o14, g14⟩ := smApp X13 n0 (.slice ga13 p gc13) p ([] ++ vsm (S.take p)) o13 l13 (some ⟨Wd.heap.size, 0, none⟩) 1 1 [(⟨ts, vs⟩ : Sam)] (sm_n1 HOK.out e13) kn1 (by omega) (by omega)
              have l14 : n0 ≤ X14.heap.size := Nat.le_trans l13 g14.size
              have k14 : Below n0 w7 X14 := k13.grown g14 l13 (fun b hb => (o13.lt b hb).1)
              refine wpAnyH_ready (rs := [7]) (by kernel_rfl) (by simp) ?_
              refine rdy_val (i := 7) rfl rfl (some 53) rfl (.slice ga14 kn1 gc14) X14 (sm_appr (x := .tmp 50) (y := .tmp 52) rfl (by kernel_rfl) (by kernel_rfl) r14) k14 (fun hHeld => ?_) rdy_nil
              simp only [Act.put, List.setIfInBounds_toArray, List.set_cons_succ, List.set_cons_zero]
              obtain ⟨ga15, gc15, X15, r15, o15, g15⟩ := smApp X14 n0 (.slice ga14 kn1 gc14) kn1 ([] ++ vsm (S.take p) ++ vsm [(⟨ts, vs⟩ : Sam)]) o14 l14 a2 m2 c2 (S.drop p) (HSB.out X14 k14) n9 (by omega) (by omega)
              have l15 : n0 ≤ X15.heap.size := Nat.le_trans l14 g15.size
              have k15 : Below n0 w7 X15 := k14.grown g15 l14 (fun b hb => (o14.lt b hb).1)
              refine wpAnyH_ready (rs := [11]) (by kernel_rfl) (by simp) ?_
              refine rdy_val (i := 11) rfl rfl (some 57) rfl (.slice ga15 n9 gc15) X15 (sm_appr (x := .tmp 53) (y := .tmp 56) rfl (by kernel_rfl) (by kernel_rfl) r15) k15 (fun hHeld => ?_) rdy_nil
              simp only [Act.put, List.setIfInBounds_toArray, List.set_cons_succ, List.set_cons_zero]
              refine drawn_take (i := 12) (v := (.slice ga15 n9 gc15)) (some 4) rfl rfl (by kernel_rfl) (by kernel_rfl) (by kernel_rfl) (fun _ _ _ h => h) (Or.inl ⟨by kernel_rfl, fun wq hw => by go_simp⟩) hHeld ?_
              simp only [Act.put, List.setIfInBounds_toArray, List.set_cons_succ, List.set_cons_zero]
              refine wpAnyH_done (by kernel_rfl) ?_ _
              refine NoPanic.normal ?_
              clear hHeld
              exact ⟨rfl, _, ⟨.slice (some ⟨X11.heap.size, 0, none⟩) 0 0, .slice ga13 p gc13, .slice (some ⟨Wd.heap.size, 0, none⟩) 1 1, .slice ga14 kn1 gc14, _, _, (), rfl, k15, o15⟩, by kernel_rfl⟩
          · rintro li w8 ⟨x46, x50, x52, x53, ga, gc, _, rfl, hB8, ho8⟩
            have hs5 : w.heap.size ≤ w7.heap.size := Nat.le_trans HB5.out.size HB7.out.size
            have HOO : Hid (w8.ownsRow w.heap.size 36 2 (.slice ga n9 gc) (N + 1) (vsm (S.take p ++ [⟨ts, vs⟩] ++ S.drop p))) := hidn (by
              rw [vsm_app, vsm_app, ← HN9.out]
              exact own_lowG ho8 (by rw [HNE.out]; exact hs5))
            have HBF : Hid (Below w.heap.size w w8) := hidn (HB5.out.trans ((HB7.out.trans (show Below w5.heap.size w7 w8 from (show Below w7.heap.size w7 w8 by rw [← HNE.out]; exact hB8).mono HB7.out.size)).mono HB5.out.size))
            clear hB8 ho8
            simp only [smPutAll, List.foldl_cons, List.foldl_nil, Act.put, List.setIfInBounds_toArray, List.set_cons_succ, List.set_cons_zero]
            go_wp2_with fail
            go_ret
            exact ⟨_, _, rfl, HST.out.1, HST.out.2, HOO.out, HBF.out⟩
      · by_cases hpn : p = N
        · have hpn2 : ¬ (p : Int) < (N : Int) := by omega
          obtain ⟨q, hpq⟩ : ∃ q, p = q + 1 := ⟨p - 1, by omega⟩
          obtain ⟨xb, xo, hfa, hxb, hxc⟩ := HF5.out.pos (by omega)
          obtain ⟨x, hx⟩ : ∃ x, x = (samD S q).t := ⟨_, rfl⟩
          have cx := (hxc q (by omega)).1
          rw [← hx] at cx
          have hnx : ¬ ts ≤ x := fun h9 => hgo ⟨q, hpq, by rw [← hx]; exact h9⟩
          have hp1 : (0 : Int) < (p : Int) := by omega
          have hqi : (p : Int) - 1 = (q : Int) := by omega
          have hqN : (q : Int) < (N : Int) := by omega
          have hqN2 : q < N := by omega
          have HRD : Hid (∀ W, Below w5.heap.size w5 W → W.cell? ⟨xb, xo + q * 2, none⟩ = some (.int .i64 x) ∧ W.cell? ⟨w.heap.size, 0, none⟩ = some (.int .i64 ts)) := hidn (fun W hW => ⟨(hW.cell (block_lt_of_cell cx)).trans cx, (hW.cell (block_lt_of_cell z0)).trans z0⟩)
          have HWQ : Hid (IntKind.i64.wrap (q : Int) = (q : Int)) := hidn (by unfold IntKind.wrap IntKind.bits IntKind.signed; simp; omega)
          clear hx cx hpq
          clear hxc
          subst hfa
          clear hgo hp0 hpn
          go_wp2_with fail
          refine wp_region_noPanic ?_
          refine wp_region_held_drew (S := fun w' => Below w5.heap.size w5 w') (by kernel_rfl) ((Below.refl _ w5).drew) (fun hHeld => ?_)
          refine drawn_take (i := 0) (v := .int .i64 (p : Int)) (some 9) rfl rfl (by kernel_rfl) (by kernel_rfl) (by kernel_rfl) (fun _ _ _ h => h) (Or.inl ⟨by kernel_rfl, fun wq hw => by go_simp⟩) hHeld ?_
          simp only [Act.put, List.setIfInBounds_toArray, List.set_cons_succ, List.set_cons_zero]
          refine drawn_take (i := 1) (v := .bool true) (some 10) rfl rfl (by kernel_rfl) (by kernel_rfl) (by kernel_rfl) (fun _ _ _ h => h) (Or.inl ⟨by kernel_rfl, fun wq hw => by go_simp <;> omega⟩) hHeld ?_
          simp only [Act.put, List.setIfInBounds_toArray, List.set_cons_succ, List.set_cons_zero]
          refine drawn_take (i := 2) (v := .bool true) (some 11) rfl rfl (by kernel_rfl) (by kernel_rfl) (by kernel_rfl) (fun _ _ _ h => h) (Or.inl ⟨by kernel_rfl, fun wq hw => by go_simp⟩) hHeld ?_
          simp only [Act.put, List.setIfInBounds_toArray, List.set_cons_succ, List.set_cons_zero]
          refine drawn_take (i := 3) (v := .slice (some ⟨xb, xo, none⟩) N fc) (some 12) rfl rfl (by kernel_rfl) (by kernel_rfl) (by kernel_rfl) (fun _ _ _ h => h) (Or.inl ⟨by kernel_rfl, fun wq hw => by go_simp⟩) hHeld ?_
          simp only [Act.put, List.setIfInBounds_toArray, List.set_cons_succ, List.set_cons_zero]
          refine drawn_take (i := 4) (v := .int .i64 (p : Int)) (some 13) rfl rfl (by kernel_rfl) (by kernel_rfl) (by kernel_rfl) (fun _ _ _ h => h) (Or.inl ⟨by kernel_rfl, fun wq hw => by go_simp⟩) hHeld ?_
          simp only [Act.put, List.setIfInBounds_toArray, List.set_cons_succ, List.set_cons_zero]
          refine drawn_take (i := 5) (v := .int .i64 (q : Int)) (some 14) rfl rfl (by kernel_rfl) (by kernel_rfl) (by kernel_rfl) (fun _ _ _ h => h) (Or.inl ⟨by kernel_rfl, fun wq hw => by go_simp; exact HWQ.out⟩) hHeld ?_
          simp only [Act.put, List.setIfInBounds_toArray, List.set_cons_succ, List.set_cons_zero]
          refine drawn_take (i := 6) (v := .pointer (some ⟨xb, xo + q * 2, none⟩)) (some 15) rfl rfl (by kernel_rfl) (by kernel_rfl) (by kernel_rfl) (fun _ _ _ h => h) (Or.inl ⟨by kernel_rfl, fun wq hw => by go_simp <;> (intro h8; exfalso; omega)⟩) hHeld ?_
          simp only [Act.put, List.setIfInBounds_toArray, List.set_cons_succ, List.set_cons_zero]
          refine drawn_take (i := 7) (v := .pointer (some ⟨xb, xo + q * 2, none⟩)) (some 16) rfl rfl (by kernel_rfl) (by kernel_rfl) (by kernel_rfl) (fun _ _ _ h => h) (Or.inl ⟨by kernel_rfl, fun wq hw => by go_simp⟩) hHeld ?_
          simp only [Act.put, List.setIfInBounds_toArray, List.set_cons_succ, List.set_cons_zero]
          refine drawn_take (i := 8) (v := .int .i64 x) (some 17) rfl rfl (by kernel_rfl) (by kernel_rfl) (by kernel_rfl) (fun _ _ _ h => h) (Or.inl ⟨by kernel_rfl, fun wq hw => by obtain ⟨q1, q2⟩ := HRD.out _ hw; go_simp⟩) hHeld ?_
          simp only [Act.put, List.setIfInBounds_toArray, List.set_cons_succ, List.set_cons_zero]
          refine drawn_take (i := 9) (v := .pointer (some ⟨w.heap.size, 0, none⟩)) (some 18) rfl rfl (by kernel_rfl) (by kernel_rfl) (by kernel_rfl) (fun _ _ _ h => h) (Or.inl ⟨by kernel_rfl, fun wq hw => by go_simp⟩) hHeld ?_
          simp only [Act.put, List.setIfInBounds_toArray, List.set_cons_succ, List.set_cons_zero]
          refine drawn_take (i := 10) (v := .int .i64 ts) (some 19) rfl rfl (by kernel_rfl) (by kernel_rfl) (by kernel_rfl) (fun _ _ _ h => h) (Or.inl ⟨by kernel_rfl, fun wq hw => by obtain ⟨q1, q2⟩ := HRD.out _ hw; go_simp⟩) hHeld ?_
          simp only [Act.put, List.setIfInBounds_toArray, List.set_cons_succ, List.set_cons_zero]
          refine drawn_take (i := 11) (v := .bool false) (some 20) rfl rfl (by kernel_rfl) (by kernel_rfl) (by kernel_rfl) (fun _ _ _ h => h) (Or.inl ⟨by kernel_rfl, fun wq hw => by go_simp <;> omega⟩) hHeld ?_
          simp only [Act.put, List.setIfInBounds_toArray, List.set_cons_succ, List.set_cons_zero]
          refine drawn_take (i := 12) (v := .bool false) (some 21) rfl rfl (by kernel_rfl) (by kernel_rfl) (by kernel_rfl) (fun _ _ _ h => h) (Or.inl ⟨by kernel_rfl, fun wq hw => by go_simp⟩) hHeld ?_
          simp only [Act.put, List.setIfInBounds_toArray, List.set_cons_succ, List.set_cons_zero]
          refine wpAnyH_done (by kernel_rfl) ?_ _
          refine NoPanic.normal ?_
          clear hHeld
          obtain ⟨w6, hw6⟩ : ∃ w6, w6 = w5.drew := ⟨_, rfl⟩
          rw [← hw6]
          have b56 : Hid (Below w5.heap.size w5 w6) := hidn (by rw [hw6]; exact (Below.refl _ w5).drew)
          clear hw6
          go_wp2_with fail
          refine wp_region_noPanic ?_
          refine wp_region_held_drew (S := fun w' => Below w6.heap.size w6 w') (by kernel_rfl) ((Below.refl _ w6).drew) (fun hHeld => ?_)
          refine drawn_take (i := 0) (v := .int .i64 (p : Int)) (some 24) rfl rfl (by kernel_rfl) (by kernel_rfl) (by kernel_rfl) (fun _ _ _ h => h) (Or.inl ⟨by kernel_rfl, fun wq hw => by go_simp⟩) hHeld ?_
          simp only [Act.put, List.setIfInBounds_toArray, List.set_cons_succ, List.set_cons_zero]
          refine drawn_take (i := 1) (v := .slice (some ⟨xb, xo, none⟩) N fc) (some 25) rfl rfl (by kernel_rfl) (by kernel_rfl) (by kernel_rfl) (fun _ _ _ h => h) (Or.inl ⟨by kernel_rfl, fun wq hw => by go_simp⟩) hHeld ?_
          simp only [Act.put, List.setIfInBounds_toArray, List.set_cons_succ, List.set_cons_zero]
          refine drawn_take (i := 2) (v := .int .i64 (N : Int)) (some 26) rfl rfl (by kernel_rfl) (by kernel_rfl) (by kernel_rfl) (fun _ _ _ h => h) (Or.inl ⟨by kernel_rfl, fun wq hw => by go_simp⟩) hHeld ?_
          simp only [Act.put, List.setIfInBounds_toArray, List.set_cons_succ, List.set_cons_zero]
          refine drawn_take (i := 3) (v := .bool false) (some 27) rfl rfl (by kernel_rfl) (by kernel_rfl) (by kernel_rfl) (fun _ _ _ h => h) (Or.inl ⟨by kernel_rfl, fun wq hw => by go_simp <;> omega⟩) hHeld ?_
          simp only [Act.put, List.setIfInBounds_toArray, List.set_cons_succ, List.set_cons_zero]
          refine drawn_take (i := 4) (v := .bool false) (some 28) rfl rfl (by kernel_rfl) (by kernel_rfl) (by kernel_rfl) (fun _ _ _ h => h) (Or.inl ⟨by kernel_rfl, fun wq hw => by go_simp⟩) hHeld ?_
          simp only [Act.put, List.setIfInBounds_toArray, List.set_cons_succ, List.set_cons_zero]
          refine drawn_take (i := 5) (v := undef) (some 29) rfl rfl (by kernel_rfl) (by kernel_rfl) (by kernel_rfl) (fun _ _ _ h => h) (Or.inr ⟨by kernel_rfl, rfl⟩) hHeld ?_
          simp only [Act.put, List.setIfInBounds_toArray, List.set_cons_succ, List.set_cons_zero]
          refine drawn_take (i := 6) (v := undef) (some 30) rfl rfl (by kernel_rfl) (by kernel_rfl) (by kernel_rfl) (fun _ _ _ h => h) (Or.inr ⟨by kernel_rfl, rfl⟩) hHeld ?_
          simp only [Act.put, List.setIfInBounds_toArray, List.set_cons_succ, List.set_cons_zero]
          refine drawn_take (i := 7) (v := undef) (some 31) rfl rfl (by kernel_rfl) (by kernel_rfl) (by kernel_rfl) (fun _ _ _ h => h) (Or.inr ⟨by kernel_rfl, rfl⟩) hHeld ?_
          simp only [Act.put, List.setIfInBounds_toArray, List.set_cons_succ, List.set_cons_zero]
          refine drawn_take (i := 8) (v := undef) (some 32) rfl rfl (by kernel_rfl) (by kernel_rfl) (by kernel_rfl) (fun _ _ _ h => h) (Or.inr ⟨by kernel_rfl, rfl⟩) hHeld ?_
          simp only [Act.put, List.setIfInBounds_toArray, List.set_cons_succ, List.set_cons_zero]
          refine drawn_take (i := 9) (v := undef) (some 33) rfl rfl (by kernel_rfl) (by kernel_rfl) (by kernel_rfl) (fun _ _ _ h => h) (Or.inr ⟨by kernel_rfl, rfl⟩) hHeld ?_
          simp only [Act.put, List.setIfInBounds_toArray, List.set_cons_succ, List.set_cons_zero]
          refine drawn_take (i := 10) (v := undef) (some 34) rfl rfl (by kernel_rfl) (by kernel_rfl) (by kernel_rfl) (fun _ _ _ h => h) (Or.inr ⟨by kernel_rfl, rfl⟩) hHeld ?_
          simp only [Act.put, List.setIfInBounds_toArray, List.set_cons_succ, List.set_cons_zero]
          refine drawn_take (i := 11) (v := undef) (some 35) rfl rfl (by kernel_rfl) (by kernel_rfl) (by kernel_rfl) (fun _ _ _ h => h) (Or.inr ⟨by kernel_rfl, rfl⟩) hHeld ?_
          simp only [Act.put, List.setIfInBounds_toArray, List.set_cons_succ, List.set_cons_zero]
          refine drawn_take (i := 12) (v := undef) (some 36) rfl rfl (by kernel_rfl) (by kernel_rfl) (by kernel_rfl) (fun _ _ _ h => h) (Or.inr ⟨by kernel_rfl, rfl⟩) hHeld ?_
          simp only [Act.put, List.setIfInBounds_toArray, List.set_cons_succ, List.set_cons_zero]
          refine drawn_take (i := 13) (v := .bool false) (some 37) rfl rfl (by kernel_rfl) (by kernel_rfl) (by kernel_rfl) (fun _ _ _ h => h) (Or.inl ⟨by kernel_rfl, fun wq hw => by go_simp⟩) hHeld ?_
          simp only [Act.put, List.setIfInBounds_toArray, List.set_cons_succ, List.set_cons_zero]
          refine wpAnyH_done (by kernel_rfl) ?_ _
          refine NoPanic.normal ?_
          clear hHeld
          obtain ⟨w7, hw7⟩ : ∃ w7, w7 = w6.drew := ⟨_, rfl⟩
          rw [← hw7]
          have HB7 : Hid (Below w5.heap.size w5 w7) := hidn (b56.out.trans (show Below w5.heap.size w6 w7 by rw [hw7]; exact ((Below.refl _ w6).drew).mono b56.out.size))
          clear hw7
          obtain ⟨n0, hn0⟩ : ∃ n0, n0 = w7.heap.size := ⟨_, rfl⟩
          have HNE := hidn hn0
          have HSA : Hid (∀ W, Below n0 w7 W → Sm W (some ⟨xb, xo, none⟩) p (S.take p)) := hidn (fun W hW => ((HF5.out.below HB7.out).below (by rw [← HNE.out]; exact hW)).take p hpN)
          have HSB : Hid (∀ W, Below n0 w7 W → Sm W a2 m2 (S.drop p)) := hidn (fun W hW => by rw [HA2.out, HM2.out]; exact smLow ((HF5.out.below HB7.out).below (by rw [← HNE.out]; exact hW)) hfc hpN)
          have HBX : Hid (∀ W, Below n0 w7 W → W.cell? ⟨w.heap.size, 0, none⟩ = some (.int .i64 ts) ∧ W.cell? ⟨w.heap.size, 1, none⟩ = some (.int .u64 (vs : Int))) := hidn (fun W hW => by
            have q8 := (HB7.out.block _ (Array.getElem?_eq_some_iff.1 HQ5.out).1).trans HQ5.out
            have q9 := (hW.block _ (by rw [HNE.out]; exact (Array.getElem?_eq_some_iff.1 q8).1)).trans q8
            exact ⟨cell_of_row _ _ _ _ _ _ q9, cell_of_row _ _ _ _ _ _ q9⟩)
          clear hn0
          go_wp2_with fail
          refine sm_cut (fun li wx => ∃ (x46 x50 x52 x53 : Value) (ga : Option Addr) (gc : Nat) (u : Unit), li = [(47, .slice (some ⟨xb, xo, none⟩) N fc), (48, .int .i64 (p : Int)), (49, .slice (some ⟨xb, xo, none⟩) p fc), (51, .agg #[.int .i64 ts, .int .u64 (vs : Int)]), (54, .slice (some ⟨xb, xo, none⟩) N fc), (55, .int .i64 (p : Int)), (56, .slice a2 m2 c2), (46, x46), (50, x50), (52, x52), (53, x53), (57, .slice ga n9 gc), (4, .slice ga n9 gc)] ∧ Below n0 w7 wx ∧ wx.ownsRow n0 36 2 (.slice ga n9 gc) n9 ([] ++ vsm (S.take p) ++ vsm [(⟨ts, vs⟩ : Sam)] ++ vsm (S.drop p))) ?_ ?_
          · obtain ⟨Wd, hWd⟩ : ∃ Wd, Wd = w7.drew := ⟨_, rfl⟩
            have hK0 : Below n0 w7 Wd := by rw [hWd]; exact (Below.refl n0 w7).drew
            have hle0 : n0 ≤ Wd.heap.size := by rw [hWd, HNE.out]; exact Nat.le_refl _
            refine wp_region_noPanic ?_
            refine wp_region_held_drew (S := Below n0 w7) (by kernel_rfl) ((Below.refl n0 w7).drew) (fun hHeld => ?_)
            rw [← hWd] at hHeld ⊢
            clear hWd
            refine drawn_take (i := 1) (v := .slice (some ⟨xb, xo, none⟩) N fc) (some 47) rfl rfl (by kernel_rfl) (by kernel_rfl) (by kernel_rfl) (fun _ _ _ h => h) (Or.inl ⟨by kernel_rfl, fun wq hw => by go_simp⟩) hHeld ?_
            simp only [Act.put, List.setIfInBounds_toArray, List.set_cons_succ, List.set_cons_zero]
            refine drawn_take (i := 2) (v := .int .i64 (p : Int)) (some 48) rfl rfl (by kernel_rfl) (by kernel_rfl) (by kernel_rfl) (fun _ _ _ h => h) (Or.inl ⟨by kernel_rfl, fun wq hw => by go_simp⟩) hHeld ?_
            simp only [Act.put, List.setIfInBounds_toArray, List.set_cons_succ, List.set_cons_zero]
            refine drawn_take (i := 3) (v := .slice (some ⟨xb, xo, none⟩) p fc) (some 49) rfl rfl (by kernel_rfl) (by kernel_rfl) (by kernel_rfl) (fun _ _ _ h => h) (Or.inl ⟨by kernel_rfl, fun wq hw => sm_slH (N := N) (x := .tmp 47) (z := .tmp 48) rfl (by kernel_rfl) (by kernel_rfl) hfp⟩) hHeld ?_
            simp only [Act.put, List.setIfInBounds_toArray, List.set_cons_succ, List.set_cons_zero]
            refine drawn_take (i := 5) (v := .agg #[.int .i64 ts, .int .u64 (vs : Int)]) (some 51) rfl rfl (by kernel_rfl) (by kernel_rfl) (by kernel_rfl) (fun _ _ _ h => h) (Or.inl ⟨by kernel_rfl, fun wq hw => by obtain ⟨q1, q2⟩ := HBX.out _ hw; go_simp⟩) hHeld ?_
            simp only [Act.put, List.setIfInBounds_toArray, List.set_cons_succ, List.set_cons_zero]
            refine drawn_take (i := 8) (v := .slice (some ⟨xb, xo, none⟩) N fc) (some 54) rfl rfl (by kernel_rfl) (by kernel_rfl) (by kernel_rfl) (fun _ _ _ h => h) (Or.inl ⟨by kernel_rfl, fun wq hw => by go_simp⟩) hHeld ?_
            simp only [Act.put, List.setIfInBounds_toArray, List.set_cons_succ, List.set_cons_zero]
            refine drawn_take (i := 9) (v := .int .i64 (p : Int)) (some 55) rfl rfl (by kernel_rfl) (by kernel_rfl) (by kernel_rfl) (fun _ _ _ h => h) (Or.inl ⟨by kernel_rfl, fun wq hw => by go_simp⟩) hHeld ?_
            simp only [Act.put, List.setIfInBounds_toArray, List.set_cons_succ, List.set_cons_zero]
            refine drawn_take (i := 10) (v := .slice a2 m2 c2) (some 56) rfl rfl (by kernel_rfl) (by kernel_rfl) (by kernel_rfl) (fun _ _ _ h => h) (Or.inl ⟨by kernel_rfl, fun wq hw => sm_slL (x := .tmp 54) (z := .tmp 55) rfl (by kernel_rfl) (by kernel_rfl) hpN HA2 HM2 HC2⟩) hHeld ?_
            simp only [Act.put, List.setIfInBounds_toArray, List.set_cons_succ, List.set_cons_zero]
            obtain ⟨X1, hX1⟩ : ∃ W, W = Wd.alloc (.cells #[] 36) := ⟨_, rfl⟩
            have b1 : Below Wd.heap.size Wd X1 := by rw [hX1]; exact (Below.refl _ Wd).alloc (Nat.le_refl _) _
            have q1 : X1.heap[Wd.heap.size]? = some (.cells #[] 36 (0, 0)) := by rw [hX1]; exact heap_alloc_new Wd _
            have l1 : n0 ≤ X1.heap.size := Nat.le_trans hle0 b1.size
            have k1 : Below n0 w7 X1 := hK0.trans (b1.mono hle0)
            have o1 := sm_empty q1 hle0
            obtain ⟨X11, hX11⟩ : ∃ W, W = Wd.alloc (.cells #[.int .i64 ts, .int .u64 (vs : Int)] 36) := ⟨_, rfl⟩
            have b11 : Below Wd.heap.size Wd X11 := by rw [hX11]; exact (Below.refl _ Wd).alloc (Nat.le_refl _) _
            have e11 : X11.heap[Wd.heap.size]? = some (.cells #[.int .i64 ts, .int .u64 (vs : Int)] 36 (0, 0)) := by rw [hX11]; exact heap_alloc_new Wd _
            have l11 : n0 ≤ X11.heap.size := Nat.le_trans hle0 b11.size
            have k11 : Below n0 w7 X11 := hK0.trans (b11.mono hle0)
            refine wpAnyH_ready (rs := [0, 6]) (by kernel_rfl) (by simp) ?_
            refine rdy_val (i := 0) rfl rfl (some 46) rfl (.slice (some ⟨Wd.heap.size, 0, none⟩) 0 0) X1 (by rw [hX1]; exact sm_mk0 rfl) k1 (fun hHeld => ?br16a) (rdy_val (i := 6) rfl rfl (some 52) rfl (.slice (some ⟨Wd.heap.size, 0, none⟩) 1 1) X11 (by rw [hX11]; exact sm_mk1 (x := .tmp 51) rfl (by kernel_rfl)) k11 (fun hHeld => ?br16b) rdy_nil)
            case br16a =>
              simp only [Act.put, List.setIfInBounds_toArray, List.set_cons_succ, List.set_cons_zero]
              obtain ⟨ga2, gc2, X2, r2, o2, g2⟩ := smApp X1 n0 (.slice (some ⟨Wd.heap.size, 0, none⟩) 0 0) 0 [] o1 l1 (some ⟨xb, xo, none⟩) p fc (S.take p) (HSA.out X1 k1) p (by omega) (by omega)
              have l2 : n0 ≤ X2.heap.size := Nat.le_trans l1 g2.size
              have k2 : Below n0 w7 X2 := k1.grown g2 l1 (fun b hb => (o1.lt b hb).1)
              obtain ⟨X6, hX6⟩ : ∃ W, W = X1.alloc (.cells #[.int .i64 ts, .int .u64 (vs : Int)] 36) := ⟨_, rfl⟩
              have b6 : Below X1.heap.size X1 X6 := by rw [hX6]; exact (Below.refl _ X1).alloc (Nat.le_refl _) _
              have e6 : X6.heap[X1.heap.size]? = some (.cells #[.int .i64 ts, .int .u64 (vs : Int)] 36 (0, 0)) := by rw [hX6]; exact heap_alloc_new X1 _
              have l6 : n0 ≤ X6.heap.size := Nat.le_trans l1 b6.size
              have k6 : Below n0 w7 X6 := k1.trans (b6.mono l1)
              have o6 := own_skip o1 b6
              have d6 : Wd.heap.size ≠ X1.heap.size := by have := (Array.getElem?_eq_some_iff.1 q1).1; omega
              refine wpAnyH_ready (rs := [4, 6]) (by kernel_rfl) (by simp) ?_
              refine rdy_val (i := 4) rfl rfl (some 50) rfl (.slice ga2 p gc2) X2 (sm_appr (x := .tmp 46) (y := .tmp 49) rfl (by kernel_rfl) (by kernel_rfl) r2) k2 (fun hHeld => ?br10a) (rdy_val (i := 6) rfl rfl (some 52) rfl (.slice (some ⟨X1.heap.size, 0, none⟩) 1 1) X6 (by rw [hX6]; exact sm_mk1 (x := .tmp 51) rfl (by kernel_rfl)) k6 (fun hHeld => ?br10b) rdy_nil)
              case br10a =>
                simp only [Act.put, List.setIfInBounds_toArray, List.set_cons_succ, List.set_cons_zero]
                obtain ⟨X3, hX3⟩ : ∃ W, W = X2.alloc (.cells #[.int .i64 ts, .int .u64 (vs : Int)] 36) := ⟨_, rfl⟩
                have b3 : Below X2.heap.size X2 X3 := by rw [hX3]; exact (Below.refl _ X2).alloc (Nat.le_refl _) _
                have e3 : X3.heap[X2.heap.size]? = some (.cells #[.int .i64 ts, .int .u64 (vs : Int)] 36 (0, 0)) := by rw [hX3]; exact heap_alloc_new X2 _
                have l3 : n0 ≤ X3.heap.size := Nat.le_trans l2 b3.size
                have k3 : Below n0 w7 X3 := k2.trans (b3.mono l2)
                have o3 := own_skip o2 b3
                refine wpAnyH_ready (rs := [6]) (by kernel_rfl) (by simp) ?_
                refine rdy_val (i := 6) rfl rfl (some 52) rfl (.slice (some ⟨X2.heap.size, 0, none⟩) 1 1) X3 (by rw [hX3]; exact sm_mk1 (x := .tmp 51) rfl (by kernel_rfl)) k3 (fun hHeld => ?_) rdy_nil
                simp only [Act.put, List.setIfInBounds_toArray, List.set_cons_succ, List.set_cons_zero]
                obtain ⟨ga4, gc4, X4, r4, o4, g4⟩ := smApp X3 n0 (.slice ga2 p gc2) p ([] ++ vsm (S.take p)) o3 l3 (some ⟨X2.heap.size, 0, none⟩) 1 1 [(⟨ts, vs⟩ : Sam)] (sm_n1 HOK.out e3) kn1 (by omega) (by omega)
                have l4 : n0 ≤ X4.heap.size := Nat.le_trans l3 g4.size
                have k4 : Below n0 w7 X4 := k3.grown g4 l3 (fun b hb => (o3.lt b hb).1)
                refine wpAnyH_ready (rs := [7]) (by kernel_rfl) (by simp) ?_
                refine rdy_val (i := 7) rfl rfl (some 53) rfl (.slice ga4 kn1 gc4) X4 (sm_appr (x := .tmp 50) (y := .tmp 52) rfl (by kernel_rfl) (by kernel_rfl) r4) k4 (fun hHeld => ?_) rdy_nil
                simp only [Act.put, List.setIfInBounds_toArray, List.set_cons_succ, List.set_cons_zero]
                obtain ⟨ga5, gc5, X5, r5, o5, g5⟩ := smApp X4 n0 (.slice ga4 kn1 gc4) kn1 ([] ++ vsm (S.take p) ++ vsm [(⟨ts, vs⟩ : Sam)]) o4 l4 a2 m2 c2 (S.drop p) (HSB.out X4 k4) n9 (by omega) (by omega)
                have l5 : n0 ≤ X5.heap.size := Nat.le_trans l4 g5.size
                have k5 : Below n0 w7 X5 := k4.grown g5 l4 (fun b hb => (o4.lt b hb).1)
                refine wpAnyH_ready (rs := [11]) (by kernel_rfl) (by simp) ?_
                refine rdy_val (i := 11) rfl rfl (some 57) rfl (.slice ga5 n9 gc5) X5 (sm_appr (x := .tmp 53) (y := .tmp 56) rfl (by kernel_rfl) (by kernel_rfl) r5) k5 (fun hHeld => ?_) rdy_nil
                simp only [Act.put, List.setIfInBounds_toArray, List.set_cons_succ, List.set_cons_zero]
                refine drawn_take (i := 12) (v := (.slice ga5 n9 gc5)) (some 4) rfl rfl (by kernel_rfl) (by kernel_rfl) (by kernel_rfl) (fun _ _ _ h => h) (Or.inl ⟨by kernel_rfl, fun wq hw => by go_simp⟩) hHeld ?_
                simp only [Act.put, List.setIfInBounds_toArray, List.set_cons_succ, List.set_cons_zero]
                refine wpAnyH_done (by kernel_rfl) ?_ _
                refine NoPanic.normal ?_
                clear hHeld
                exact ⟨rfl, _, ⟨.slice (some ⟨Wd.heap.size, 0, none⟩) 0 0, .slice ga2 p gc2, .slice (some ⟨X2.heap.size, 0, none⟩) 1 1, .slice ga4 kn1 gc4, _, _, (), rfl, k5, o5⟩, by kernel_rfl⟩
              case br10b =>
                simp only [Act.put, List.setIfInBounds_toArray, List.set_cons_succ, List.set_cons_zero]
                obtain ⟨ga7, gc7, X7, r7, o7, g7⟩ := smApp X6 n0 (.slice (some ⟨Wd.heap.size, 0, none⟩) 0 0) 0 [] o6 l6 (some ⟨xb, xo, none⟩) p fc (S.take p) (HSA.out X6 k6) p (by omega) (by omega)
                have l7 : n0 ≤ X7.heap.size := Nat.le_trans l6 g7.size
                have k7 : Below n0 w7 X7 := k6.grown g7 l6 (fun b hb => (o6.lt b hb).1)
                have e7 := (g7.block X1.heap.size (Array.getElem?_eq_some_iff.1 e6).1 (fun e => d6 (Option.some.inj e).symm)).trans e6
                refine wpAnyH_ready (rs := [4]) (by kernel_rfl) (by simp) ?_
                refine rdy_val (i := 4) rfl rfl (some 50) rfl (.slice ga7 p gc7) X7 (sm_appr (x := .tmp 46) (y := .tmp 49) rfl (by kernel_rfl) (by kernel_rfl) r7) k7 (fun hHeld => ?_) rdy_nil
                simp only [Act.put, List.setIfInBounds_toArray, List.set_cons_succ, List.set_cons_zero]
                obtain ⟨ga8, gc8, X8, r8, o8, g8⟩ := smApp X7 n0 (.slice ga7 p gc7) p ([] ++ vsm (S.take p)) o7 l7 (some ⟨X1.heap.size, 0, none⟩) 1 1 [(⟨ts, vs⟩ : Sam)] (sm_n1 HOK.out e7) kn1 (by omega) (by omega)
                have l8 : n0 ≤ X8.heap.size := Nat.le_trans l7 g8.size
                have k8 : Below n0 w7 X8 := k7.grown g8 l7 (fun b hb => (o7.lt b hb).1)
                refine wpAnyH_ready (rs := [7]) (by kernel_rfl) (by simp) ?_
                refine rdy_val (i := 7) rfl rfl (some 53) rfl (.slice ga8 kn1 gc8) X8 (sm_appr (x := .tmp 50) (y := .tmp 52) rfl (by kernel_rfl) (by kernel_rfl) r8) k8 (fun hHeld => ?_) rdy_nil
                simp only [Act.put, List.setIfInBounds_toArray, List.set_cons_succ, List.set_cons_zero]
                obtain ⟨ga9, gc9, X9, r9, o9, g9⟩ := smApp X8 n0 (.slice ga8 kn1 gc8) kn1 ([] ++ vsm (S.take p) ++ vsm [(⟨ts, vs⟩ : Sam)]) o8 l8 a2 m2 c2 (S.drop p) (HSB.out X8 k8) n9 (by omega) (by omega)
                have l9 : n0 ≤ X9.heap.size := Nat.le_trans l8 g9.size
                have k9 : Below n0 w7 X9 := k8.grown g9 l8 (fun b hb => (o8.lt b hb).1)
                refine wpAnyH_ready (rs := [11]) (by kernel_rfl) (by simp) ?_
                refine rdy_val (i := 11) rfl rfl (some 57) rfl (.slice ga9 n9 gc9) X9 (sm_appr (x := .tmp 53) (y := .tmp 56) rfl (by kernel_rfl) (by kernel_rfl) r9) k9 (fun hHeld => ?_) rdy_nil
                simp only [Act.put, List.setIfInBounds_toArray, List.set_cons_succ, List.set_cons_zero]
                refine drawn_take (i := 12) (v := (.slice ga9 n9 gc9)) (some 4) rfl rfl (by kernel_rfl) (by kernel_rfl) (by kernel_rfl) (fun _ _ _ h => h) (Or.inl ⟨by kernel_rfl, fun wq hw => by go_simp⟩) hHeld ?_
                simp only [Act.put, List.setIfInBounds_toArray, List.set_cons_succ, List.set_cons_zero]
                refine wpAnyH_done (by kernel_rfl) ?_ _
                refine NoPanic.normal ?_
                clear hHeld
                exact ⟨rfl, _, ⟨.slice (some ⟨Wd.heap.size, 0, none⟩) 0 0, .slice ga7 p gc7, .slice (some ⟨X1.heap.size, 0, none⟩) 1 1, .slice ga8 kn1 gc8, _, _, (), rfl, k9, o9⟩, by kernel_rfl⟩
            case br16b =>
              simp only [Act.put, List.setIfInBounds_toArray, List.set_cons_succ, List.set_cons_zero]
              obtain ⟨X12, hX12⟩ : ∃ W, W = X11.alloc (.cells #[] 36) := ⟨_, rfl⟩
              have b12 : Below X11.heap.size X11 X12 := by rw [hX12]; exact (Below.refl _ X11).alloc (Nat.le_refl _) _
              have q12 : X12.heap[X11.heap.size]? = some (.cells #[] 36 (0, 0)) := by rw [hX12]; exact heap_alloc_new X11 _
              have l12 : n0 ≤ X12.heap.size := Nat.le_trans l11 b12.size
              have k12 : Below n0 w7 X12 := k11.trans (b12.mono l11)
              have o12 := sm_empty q12 l11
              have e12 := (b12.block Wd.heap.size (Array.getElem?_eq_some_iff.1 e11).1).trans e11
              have d12 : X11.heap.size ≠ Wd.heap.size := by have := (Array.getElem?_eq_some_iff.1 e11).1; omega
              refine wpAnyH_ready (rs := [0]) (by kernel_rfl) (by simp) ?_
              refine rdy_val (i := 0) rfl rfl (some 46) rfl (.slice (some ⟨X11.heap.size, 0, none⟩) 0 0) X12 (by rw [hX12]; exact sm_mk0 rfl) k12 (fun hHeld => ?_) rdy_nil
              simp only [Act.put, List.setIfInBounds_toArray, List.set_cons_succ, List.set_cons_zero]
              obtain ⟨ga13, gc13, X13, r13, o13, g13⟩ := smApp X12 n0 (.slice (some ⟨X11.heap.size, 0, none⟩) 0 0) 0 [] o12 l12 (some ⟨xb, xo, none⟩) p fc (S.take p) (HSA.out X12 k12) p (by omega) (by omega)
              have l13 : n0 ≤ X13.heap.size := Nat.le_trans l12 g13.size
              have k13 : Below n0 w7 X13 := k12.grown g13 l12 (fun b hb => (o12.lt b hb).1)
              have e13 := (g13.block Wd.heap.size (Array.getElem?_eq_some_iff.1 e12).1 (fun e => d12 (Option.some.inj e).symm)).trans e12
              refine wpAnyH_ready (rs := [4]) (by kernel_rfl) (by simp) ?_
              refine rdy_val (i := 4) rfl rfl (some 50) rfl (.slice ga13 p gc13) X13 (sm_appr (x := .tmp 46) (y := .tmp 49) rfl (by kernel_rfl) (by kernel_rfl) r13) k13 (fun hHeld => ?_) rdy_nil
              simp only [Act.put, List.setIfInBounds_toArray, List.set_cons_succ, List.set_cons_zero]
              obtain ⟨ga14, gc14, X14, r14, o14, g14⟩ := smApp X13 n0 (.slice ga13 p gc13) p ([] ++ vsm (S.take p)) o13 l13 (some ⟨Wd.heap.size, 0, none⟩) 1 1 [(⟨ts, vs⟩ : Sam)] (sm_n1 HOK.out e13) kn1 (by omega) (by omega)
              have l14 : n0 ≤ X14.heap.size := Nat.le_trans l13 g14.size
              have k14 : Below n0 w7 X14 := k13.grown g14 l13 (fun b hb => (o13.lt b hb).1)
              refine wpAnyH_ready (rs := [7]) (by kernel_rfl) (by simp) ?_
              refine rdy_val (i := 7) rfl rfl (some 53) rfl (.slice ga14 kn1 gc14) X14 (sm_appr (x := .tmp 50) (y := .tmp 52) rfl (by kernel_rfl) (by kernel_rfl) r14) k14 (fun hHeld => ?_) rdy_nil
              simp only [Act.put, List.setIfInBounds_toArray, List.set_cons_succ, List.set_cons_zero]
              obtain ⟨ga15, gc15, X15, r15, o15, g15⟩ := smApp X14 n0 (.slice ga14 kn1 gc14) kn1 ([] ++ vsm (S.take p) ++ vsm [(⟨ts, vs⟩ : Sam)]) o14 l14 a2 m2 c2 (S.drop p) (HSB.out X14 k14) n9 (by omega) (by omega)
              have l15 : n0 ≤ X15.heap.size := Nat.le_trans l14 g15.size
              have k15 : Below n0 w7 X15 := k14.grown g15 l14 (fun b hb => (o14.lt b hb).1)
              refine wpAnyH_ready (rs := [11]) (by kernel_rfl) (by simp) ?_
              refine rdy_val (i := 11) rfl rfl (some 57) rfl (.slice ga15 n9 gc15) X15 (sm_appr (x := .tmp 53) (y := .tmp 56) rfl (by kernel_rfl) (by kernel_rfl) r15) k15 (fun hHeld => ?_) rdy_nil
              simp only [Act.put, List.setIfInBounds_toArray, List.set_cons_succ, List.set_cons_zero]
              refine drawn_take (i := 12) (v := (.slice ga15 n9 gc15)) (some 4) rfl rfl (by kernel_rfl) (by kernel_rfl) (by kernel_rfl) (fun _ _ _ h => h) (Or.inl ⟨by kernel_rfl, fun wq hw => by go_simp⟩) hHeld ?_
              simp only [Act.put, List.setIfInBounds_toArray, List.set_cons_succ, List.set_cons_zero]
              refine wpAnyH_done (by kernel_rfl) ?_ _
              refine NoPanic.normal ?_
              clear hHeld
              exact ⟨rfl, _, ⟨.slice (some ⟨X11.heap.size, 0, none⟩) 0 0, .slice ga13 p gc13, .slice (some ⟨Wd.heap.size, 0, none⟩) 1 1, .slice ga14 kn1 gc14, _, _, (), rfl, k15, o15⟩, by kernel_rfl⟩
          · rintro li w8 ⟨x46, x50, x52, x53, ga, gc, _, rfl, hB8, ho8⟩
            have hs5 : w.heap.size ≤ w7.heap.size := Nat.le_trans HB5.out.size HB7.out.size
            have HOO : Hid (w8.ownsRow w.heap.size 36 2 (.slice ga n9 gc) (N + 1) (vsm (S.take p ++ [⟨ts, vs⟩] ++ S.drop p))) := hidn (by
              rw [vsm_app, vsm_app, ← HN9.out]
              exact own_lowG ho8 (by rw [HNE.out]; exact hs5))
            have HBF : Hid (Below w.heap.size w w8) := hidn (HB5.out.trans ((HB7.out.trans (show Below w5.heap.size w7 w8 from (show Below w7.heap.size w7 w8 by rw [← HNE.out]; exact hB8).mono HB7.out.size)).mono HB5.out.size))
            clear hB8 ho8
            simp only [smPutAll, List.foldl_cons, List.foldl_nil, Act.put, List.setIfInBounds_toArray, List.set_cons_succ, List.set_cons_zero]
            go_wp2_with fail
            go_ret
            exact ⟨_, _, rfl, HST.out.1, HST.out.2, HOO.out, HBF.out⟩
        · have hpn2 : (p : Int) < (N : Int) := by omega
          obtain ⟨q, hpq⟩ : ∃ q, p = q + 1 := ⟨p - 1, by omega⟩
          obtain ⟨xb, xo, hfa, hxb, hxc⟩ := HF5.out.pos (by omega)
          obtain ⟨x, hx⟩ : ∃ x, x = (samD S q).t := ⟨_, rfl⟩
          have cx := (hxc q (by omega)).1
          rw [← hx] at cx
          have hnx : ¬ ts ≤ x := fun h9 => hgo ⟨q, hpq, by rw [← hx]; exact h9⟩
          have hp1 : (0 : Int) < (p : Int) := by omega
          have hqi : (p : Int) - 1 = (q : Int) := by omega
          have hqN : (q : Int) < (N : Int) := by omega
          have hqN2 : q < N := by omega
          have HRD : Hid (∀ W, Below w5.heap.size w5 W → W.cell? ⟨xb, xo + q * 2, none⟩ = some (.int .i64 x) ∧ W.cell? ⟨w.heap.size, 0, none⟩ = some (.int .i64 ts)) := hidn (fun W hW => ⟨(hW.cell (block_lt_of_cell cx)).trans cx, (hW.cell (block_lt_of_cell z0)).trans z0⟩)
          have HWQ : Hid (IntKind.i64.wrap (q : Int) = (q : Int)) := hidn (by unfold IntKind.wrap IntKind.bits IntKind.signed; simp; omega)
          obtain ⟨y, hy⟩ : ∃ y, y = (samD S p).t := ⟨_, rfl⟩
          have cy := (hxc p (by omega)).1
          rw [← hy] at cy
          have hmm : samD S p ∈ S := by rw [samD_at (show p < S.length by rw [HN.out]; omega)]; exact List.getElem_mem _
          have hny : ¬ y = ts := fun h9 => HNW.out _ hmm (hy.symm.trans h9)
          have HRY : Hid (∀ W, Below w5.heap.size w5 W → W.cell? ⟨xb, xo + p * 2, none⟩ = some (.int .i64 y) ∧ W.cell? ⟨w.heap.size, 0, none⟩ = some (.int .i64 ts)) := hidn (fun W hW => ⟨(hW.cell (block_lt_of_cell cy)).trans cy, (hW.cell (block_lt_of_cell z0)).trans z0⟩)
          clear hy cy
          clear hx cx hpq
          clear hxc
          subst hfa
          clear hgo hp0 hpn
          go_wp2_with fail
          refine wp_region_noPanic ?_
          refine wp_region_held_drew (S := fun w' => Below w5.heap.size w5 w') (by kernel_rfl) ((Below.refl _ w5).drew) (fun hHeld => ?_)
          refine drawn_take (i := 0) (v := .int .i64 (p : Int)) (some 9) rfl rfl (by kernel_rfl) (by kernel_rfl) (by kernel_rfl) (fun _ _ _ h => h) (Or.inl ⟨by kernel_rfl, fun wq hw => by go_simp⟩) hHeld ?_
          simp only [Act.put, List.setIfInBounds_toArray, List.set_cons_succ, List.set_cons_zero]
          refine drawn_take (i := 1) (v := .bool true) (some 10) rfl rfl (by kernel_rfl) (by kernel_rfl) (by kernel_rfl) (fun _ _ _ h => h) (Or.inl ⟨by kernel_rfl, fun wq hw => by go_simp <;> omega⟩) hHeld ?_
          simp only [Act.put, List.setIfInBounds_toArray, List.set_cons_succ, List.set_cons_zero]
          refine drawn_take (i := 2) (v := .bool true) (some 11) rfl rfl (by kernel_rfl) (by kernel_rfl) (by kernel_rfl) (fun _ _ _ h => h) (Or.inl ⟨by kernel_rfl, fun wq hw => by go_simp⟩) hHeld ?_
          simp only [Act.put, List.setIfInBounds_toArray, List.set_cons_succ, List.set_cons_zero]
          refine drawn_take (i := 3) (v := .slice (some ⟨xb, xo, none⟩) N fc) (some 12) rfl rfl (by kernel_rfl) (by kernel_rfl) (by kernel_rfl) (fun _ _ _ h => h) (Or.inl ⟨by kernel_rfl, fun wq hw => by go_simp⟩) hHeld ?_
          simp only [Act.put, List.setIfInBounds_toArray, List.set_cons_succ, List.set_cons_zero]
          refine drawn_take (i := 4) (v := .int .i64 (p : Int)) (some 13) rfl rfl (by kernel_rfl) (by kernel_rfl) (by kernel_rfl) (fun _ _ _ h => h) (Or.inl ⟨by kernel_rfl, fun wq hw => by go_simp⟩) hHeld ?_
          simp only [Act.put, List.setIfInBounds_toArray, List.set_cons_succ, List.set_cons_zero]
          refine drawn_take (i := 5) (v := .int .i64 (q : Int)) (some 14) rfl rfl (by kernel_rfl) (by kernel_rfl) (by kernel_rfl) (fun _ _ _ h => h) (Or.inl ⟨by kernel_rfl, fun wq hw => by go_simp; exact HWQ.out⟩) hHeld ?_
          simp only [Act.put, List.setIfInBounds_toArray, List.set_cons_succ, List.set_cons_zero]
          refine drawn_take (i := 6) (v := .pointer (some ⟨xb, xo + q * 2, none⟩)) (some 15) rfl rfl (by kernel_rfl) (by kernel_rfl) (by kernel_rfl) (fun _ _ _ h => h) (Or.inl ⟨by kernel_rfl, fun wq hw => by go_simp <;> (intro h8; exfalso; omega)⟩) hHeld ?_
          simp only [Act.put, List.setIfInBounds_toArray, List.set_cons_succ, List.set_cons_zero]
          refine drawn_take (i := 7) (v := .pointer (some ⟨xb, xo + q * 2, none⟩)) (some 16) rfl rfl (by kernel_rfl) (by kernel_rfl) (by kernel_rfl) (fun _ _ _ h => h) (Or.inl ⟨by kernel_rfl, fun wq hw => by go_simp⟩) hHeld ?_
          simp only [Act.put, List.setIfInBounds_toArray, List.set_cons_succ, List.set_cons_zero]
          refine drawn_take (i := 8) (v := .int .i64 x) (some 17) rfl rfl (by kernel_rfl) (by kernel_rfl) (by kernel_rfl) (fun _ _ _ h => h) (Or.inl ⟨by kernel_rfl, fun wq hw => by obtain ⟨q1, q2⟩ := HRD.out _ hw; go_simp⟩) hHeld ?_
          simp only [Act.put, List.setIfInBounds_toArray, List.set_cons_succ, List.set_cons_zero]
          refine drawn_take (i := 9) (v := .pointer (some ⟨w.heap.size, 0, none⟩)) (some 18) rfl rfl (by kernel_rfl) (by kernel_rfl) (by kernel_rfl) (fun _ _ _ h => h) (Or.inl ⟨by kernel_rfl, fun wq hw => by go_simp⟩) hHeld ?_
          simp only [Act.put, List.setIfInBounds_toArray, List.set_cons_succ, List.set_cons_zero]
          refine drawn_take (i := 10) (v := .int .i64 ts) (some 19) rfl rfl (by kernel_rfl) (by kernel_rfl) (by kernel_rfl) (fun _ _ _ h => h) (Or.inl ⟨by kernel_rfl, fun wq hw => by obtain ⟨q1, q2⟩ := HRD.out _ hw; go_simp⟩) hHeld ?_
          simp only [Act.put, List.setIfInBounds_toArray, List.set_cons_succ, List.set_cons_zero]
          refine drawn_take (i := 11) (v := .bool false) (some 20) rfl rfl (by kernel_rfl) (by kernel_rfl) (by kernel_rfl) (fun _ _ _ h => h) (Or.inl ⟨by kernel_rfl, fun wq hw => by go_simp <;> omega⟩) hHeld ?_
          simp only [Act.put, List.setIfInBounds_toArray, List.set_cons_succ, List.set_cons_zero]
          refine drawn_take (i := 12) (v := .bool false) (some 21) rfl rfl (by kernel_rfl) (by kernel_rfl) (by kernel_rfl) (fun _ _ _ h => h) (Or.inl ⟨by kernel_rfl, fun wq hw => by go_simp⟩) hHeld ?_
          simp only [Act.put, List.setIfInBounds_toArray, List.set_cons_succ, List.set_cons_zero]
          refine wpAnyH_done (by kernel_rfl) ?_ _
          refine NoPanic.normal ?_
          clear hHeld
          obtain ⟨w6, hw6⟩ : ∃ w6, w6 = w5.drew := ⟨_, rfl⟩
          rw [← hw6]
          have b56 : Hid (Below w5.heap.size w5 w6) := hidn (by rw [hw6]; exact (Below.refl _ w5).drew)
          clear hw6
          go_wp2_with fail
          refine wp_region_noPanic ?_
          refine wp_region_held_drew (S := fun w' => Below w6.heap.size w6 w') (by kernel_rfl) ((Below.refl _ w6).drew) (fun hHeld => ?_)
          refine drawn_take (i := 0) (v := .int .i64 (p : Int)) (some 24) rfl rfl (by kernel_rfl) (by kernel_rfl) (by kernel_rfl) (fun _ _ _ h => h) (Or.inl ⟨by kernel_rfl, fun wq hw => by go_simp⟩) hHeld ?_
          simp only [Act.put, List.setIfInBounds_toArray, List.set_cons_succ, List.set_cons_zero]
          refine drawn_take (i := 1) (v := .slice (some ⟨xb, xo, none⟩) N fc) (some 25) rfl rfl (by kernel_rfl) (by kernel_rfl) (by kernel_rfl) (fun _ _ _ h => h) (Or.inl ⟨by kernel_rfl, fun wq hw => by go_simp⟩) hHeld ?_
          simp only [Act.put, List.setIfInBounds_toArray, List.set_cons_succ, List.set_cons_zero]
          refine drawn_take (i := 2) (v := .int .i64 (N : Int)) (some 26) rfl rfl (by kernel_rfl) (by kernel_rfl) (by kernel_rfl) (fun _ _ _ h => h) (Or.inl ⟨by kernel_rfl, fun wq hw => by go_simp⟩) hHeld ?_
          simp only [Act.put, List.setIfInBounds_toArray, List.set_cons_succ, List.set_cons_zero]
          refine drawn_take (i := 3) (v := .bool true) (some 27) rfl rfl (by kernel_rfl) (by kernel_rfl) (by kernel_rfl) (fun _ _ _ h => h) (Or.inl ⟨by kernel_rfl, fun wq hw => by go_simp <;> omega⟩) hHeld ?_
          simp only [Act.put, List.setIfInBounds_toArray, List.set_cons_succ, List.set_cons_zero]
          refine drawn_take (i := 4) (v := .bool true) (some 28) rfl rfl (by kernel_rfl) (by kernel_rfl) (by kernel_rfl) (fun _ _ _ h => h) (Or.inl ⟨by kernel_rfl, fun wq hw => by go_simp⟩) hHeld ?_
          simp only [Act.put, List.setIfInBounds_toArray, List.set_cons_succ, List.set_cons_zero]
          refine drawn_take (i := 5) (v := .slice (some ⟨xb, xo, none⟩) N fc) (some 29) rfl rfl (by kernel_rfl) (by kernel_rfl) (by kernel_rfl) (fun _ _ _ h => h) (Or.inl ⟨by kernel_rfl, fun wq hw => by go_simp⟩) hHeld ?_
          simp only [Act.put, List.setIfInBounds_toArray, List.set_cons_succ, List.set_cons_zero]
          refine drawn_take (i := 6) (v := .int .i64 (p : Int)) (some 30) rfl rfl (by kernel_rfl) (by kernel_rfl) (by kernel_rfl) (fun _ _ _ h => h) (Or.inl ⟨by kernel_rfl, fun wq hw => by go_simp⟩) hHeld ?_
          simp only [Act.put, List.setIfInBounds_toArray, List.set_cons_succ, List.set_cons_zero]
          refine drawn_take (i := 7) (v := .pointer (some ⟨xb, xo + p * 2, none⟩)) (some 31) rfl rfl (by kernel_rfl) (by kernel_rfl) (by kernel_rfl) (fun _ _ _ h => h) (Or.inl ⟨by kernel_rfl, fun wq hw => by go_simp <;> (intro h8; exfalso; omega)⟩) hHeld ?_
          simp only [Act.put, List.setIfInBounds_toArray, List.set_cons_succ, List.set_cons_zero]
          refine drawn_take (i := 8) (v := .pointer (some ⟨xb, xo + p * 2, none⟩)) (some 32) rfl rfl (by kernel_rfl) (by kernel_rfl) (by kernel_rfl) (fun _ _ _ h => h) (Or.inl ⟨by kernel_rfl, fun wq hw => by go_simp⟩) hHeld ?_
          simp only [Act.put, List.setIfInBounds_toArray, List.set_cons_succ, List.set_cons_zero]
          refine drawn_take (i := 9) (v := .int .i64 y) (some 33) rfl rfl (by kernel_rfl) (by kernel_rfl) (by kernel_rfl) (fun _ _ _ h => h) (Or.inl ⟨by kernel_rfl, fun wq hw => by obtain ⟨q1, q2⟩ := HRY.out _ (b56.out.trans (hw.mono b56.out.size)); go_simp⟩) hHeld ?_
          simp only [Act.put, List.setIfInBounds_toArray, List.set_cons_succ, List.set_cons_zero]
          refine drawn_take (i := 10) (v := .pointer (some ⟨w.heap.size, 0, none⟩)) (some 34) rfl rfl (by kernel_rfl) (by kernel_rfl) (by kernel_rfl) (fun _ _ _ h => h) (Or.inl ⟨by kernel_rfl, fun wq hw => by go_simp⟩) hHeld ?_
          simp only [Act.put, List.setIfInBounds_toArray, List.set_cons_succ, List.set_cons_zero]
          refine drawn_take (i := 11) (v := .int .i64 ts) (some 35) rfl rfl (by kernel_rfl) (by kernel_rfl) (by kernel_rfl) (fun _ _ _ h => h) (Or.inl ⟨by kernel_rfl, fun wq hw => by obtain ⟨q1, q2⟩ := HRY.out _ (b56.out.trans (hw.mono b56.out.size)); go_simp⟩) hHeld ?_
          simp only [Act.put, List.setIfInBounds_toArray, List.set_cons_succ, List.set_cons_zero]
          refine drawn_take (i := 12) (v := .bool false) (some 36) rfl rfl (by kernel_rfl) (by kernel_rfl) (by kernel_rfl) (fun _ _ _ h => h) (Or.inl ⟨by kernel_rfl, fun wq hw => by go_simp <;> omega⟩) hHeld ?_
          simp only [Act.put, List.setIfInBounds_toArray, List.set_cons_succ, List.set_cons_zero]
          refine drawn_take (i := 13) (v := .bool false) (some 37) rfl rfl (by kernel_rfl) (by kernel_rfl) (by kernel_rfl) (fun _ _ _ h => h) (Or.inl ⟨by kernel_rfl, fun wq hw => by go_simp⟩) hHeld ?_
          simp only [Act.put, List.setIfInBounds_toArray, List.set_cons_succ, List.set_cons_zero]
          refine wpAnyH_done (by kernel_rfl) ?_ _
          refine NoPanic.normal ?_
          clear hHeld
          obtain ⟨w7, hw7⟩ : ∃ w7, w7 = w6.drew := ⟨_, rfl⟩
          rw [← hw7]
          have HB7 : Hid (Below w5.heap.size w5 w7) := hidn (b56.out.trans (show Below w5.heap.size w6 w7 by rw [hw7]; exact ((Below.refl _ w6).drew).mono b56.out.size))
          clear hw7
          obtain ⟨n0, hn0⟩ : ∃ n0, n0 = w7.heap.size := ⟨_, rfl⟩
          have HNE := hidn hn0
          have HSA : Hid (∀ W, Below n0 w7 W → Sm W (some ⟨xb, xo, none⟩) p (S.take p)) := hidn (fun W hW => ((HF5.out.below HB7.out).below (by rw [← HNE.out]; exact hW)).take p hpN)
          have HSB : Hid (∀ W, Below n0 w7 W → Sm W a2 m2 (S.drop p)) := hidn (fun W hW => by rw [HA2.out, HM2.out]; exact smLow ((HF5.out.below HB7.out).below (by rw [← HNE.out]; exact hW)) hfc hpN)
          have HBX : Hid (∀ W, Below n0 w7 W → W.cell? ⟨w.heap.size, 0, none⟩ = some (.int .i64 ts) ∧ W.cell? ⟨w.heap.size, 1, none⟩ = some (.int .u64 (vs : Int))) := hidn (fun W hW => by
            have q8 := (HB7.out.block _ (Array.getElem?_eq_some_iff.1 HQ5.out).1).trans HQ5.out
            have q9 := (hW.block _ (by rw [HNE.out]; exact (Array.getElem?_eq_some_iff.1 q8).1)).trans q8
            exact ⟨cell_of_row _ _ _ _ _ _ q9, cell_of_row _ _ _ _ _ _ q9⟩)
          clear hn0
          go_wp2_with fail
          refine sm_cut (fun li wx => ∃ (x46 x50 x52 x53 : Value) (ga : Option Addr) (gc : Nat) (u : Unit), li = [(47, .slice (some ⟨xb, xo, none⟩) N fc), (48, .int .i64 (p : Int)), (49, .slice (some ⟨xb, xo, none⟩) p fc), (51, .agg #[.int .i64 ts, .int .u64 (vs : Int)]), (54, .slice (some ⟨xb, xo, none⟩) N fc), (55, .int .i64 (p : Int)), (56, .slice a2 m2 c2), (46, x46), (50, x50), (52, x52), (53, x53), (57, .slice ga n9 gc), (4, .slice ga n9 gc)] ∧ Below n0 w7 wx ∧ wx.ownsRow n0 36 2 (.slice ga n9 gc) n9 ([] ++ vsm (S.take p) ++ vsm [(⟨ts, vs⟩ : Sam)] ++ vsm (S.drop p))) ?_ ?_
          · obtain ⟨Wd, hWd⟩ : ∃ Wd, Wd = w7.drew := ⟨_, rfl⟩
            have hK0 : Below n0 w7 Wd := by rw [hWd]; exact (Below.refl n0 w7).drew
            have hle0 : n0 ≤ Wd.heap.size := by rw [hWd, HNE.out]; exact Nat.le_refl _
            refine wp_region_noPanic ?_
            refine wp_region_held_drew (S := Below n0 w7) (by kernel_rfl) ((Below.refl n0 w7).drew) (fun hHeld => ?_)
            rw [← hWd] at hHeld ⊢
            clear hWd
            refine drawn_take (i := 1) (v := .slice (some ⟨xb, xo, none⟩) N fc) (some 47) rfl rfl (by kernel_rfl) (by kernel_rfl) (by kernel_rfl) (fun _ _ _ h => h) (Or.inl ⟨by kernel_rfl, fun wq hw => by go_simp⟩) hHeld ?_
            simp only [Act.put, List.setIfInBounds_toArray, List.set_cons_succ, List.set_cons_zero]
            refine drawn_take (i := 2) (v := .int .i64 (p : Int)) (some 48) rfl rfl (by kernel_rfl) (by kernel_rfl) (by kernel_rfl) (fun _ _ _ h => h) (Or.inl ⟨by kernel_rfl, fun wq hw => by go_simp⟩) hHeld ?_
            simp only [Act.put, List.setIfInBounds_toArray, List.set_cons_succ, List.set_cons_zero]
            refine drawn_take (i := 3) (v := .slice (some ⟨xb, xo, none⟩) p fc) (some 49) rfl rfl (by kernel_rfl) (by kernel_rfl) (by kernel_rfl) (fun _ _ _ h => h) (Or.inl ⟨by kernel_rfl, fun wq hw => sm_slH (N := N) (x := .tmp 47) (z := .tmp 48) rfl (by kernel_rfl) (by kernel_rfl) hfp⟩) hHeld ?_
            simp only [Act.put, List.setIfInBounds_toArray, List.set_cons_succ, List.set_cons_zero]
            refine drawn_take (i := 5) (v := .agg #[.int .i64 ts, .int .u64 (vs : Int)]) (some 51) rfl rfl (by kernel_rfl) (by kernel_rfl) (by kernel_rfl) (fun _ _ _ h => h) (Or.inl ⟨by kernel_rfl, fun wq hw => by obtain ⟨q1, q2⟩ := HBX.out _ hw; go_simp⟩) hHeld ?_
            simp only [Act.put, List.setIfInBounds_toArray, List.set_cons_succ, List.set_cons_zero]
            refine drawn_take (i := 8) (v := .slice (some ⟨xb, xo, none⟩) N fc) (some 54) rfl rfl (by kernel_rfl) (by kernel_rfl) (by kernel_rfl) (fun _ _ _ h => h) (Or.inl ⟨by kernel_rfl, fun wq hw => by go_simp⟩) hHeld ?_
            simp only [Act.put, List.setIfInBounds_toArray, List.set_cons_succ, List.set_cons_zero]
            refine drawn_take (i := 9) (v := .int .i64 (p : Int)) (some 55) rfl rfl (by kernel_rfl) (by kernel_rfl) (by kernel_rfl) (fun _ _ _ h => h) (Or.inl ⟨by kernel_rfl, fun wq hw => by go_simp⟩) hHeld ?_
            simp only [Act.put, List.setIfInBounds_toArray, List.set_cons_succ, List.set_cons_zero]
            refine drawn_take (i := 10) (v := .slice a2 m2 c2) (some 56) rfl rfl (by kernel_rfl) (by kernel_rfl) (by kernel_rfl) (fun _ _ _ h => h) (Or.inl ⟨by kernel_rfl, fun wq hw => sm_slL (x := .tmp 54) (z := .tmp 55) rfl (by kernel_rfl) (by kernel_rfl) hpN HA2 HM2 HC2⟩) hHeld ?_
            simp only [Act.put, List.setIfInBounds_toArray, List.set_cons_succ, List.set_cons_zero]
            obtain ⟨X1, hX1⟩ : ∃ W, W = Wd.alloc (.cells #[] 36) := ⟨_, rfl⟩
            have b1 : Below Wd.heap.size Wd X1 := by rw [hX1]; exact (Below.refl _ Wd).alloc (Nat.le_refl _) _
            have q1 : X1.heap[Wd.heap.size]? = some (.cells #[] 36 (0, 0)) := by rw [hX1]; exact heap_alloc_new Wd _
            have l1 : n0 ≤ X1.heap.size := Nat.le_trans hle0 b1.size
            have k1 : Below n0 w7 X1 := hK0.trans (b1.mono hle0)
            have o1 := sm_empty q1 hle0
            obtain ⟨X11, hX11⟩ : ∃ W, W = Wd.alloc (.cells #[.int .i64 ts, .int .u64 (vs : Int)] 36) := ⟨_, rfl⟩
            have b11 : Below Wd.heap.size Wd X11 := by rw [hX11]; exact (Below.refl _ Wd).alloc (Nat.le_refl _) _
            have e11 : X11.heap[Wd.heap.size]? = some (.cells #[.int .i64 ts, .int .u64 (vs : Int)] 36 (0, 0)) := by rw [hX11]; exact heap_alloc_new Wd _
            have l11 : n0 ≤ X11.heap.size := Nat.le_trans hle0 b11.size
            have k11 : Below n0 w7 X11 := hK0.trans (b11.mono hle0)
            refine wpAnyH_ready (rs := [0, 6]) (by kernel_rfl) (by simp) ?_
            refine rdy_val (i := 0) rfl rfl (some 46) rfl (.slice (some ⟨Wd.heap.size, 0, none⟩) 0 0) X1 (by rw [hX1]; exact sm_mk0 rfl) k1 (fun hHeld => ?br16a) (rdy_val (i := 6) rfl rfl (some 52) rfl (.slice (some ⟨Wd.heap.size, 0, none⟩) 1 1) X11 (by rw [hX11]; exact sm_mk1 (x := .tmp 51) rfl (by kernel_rfl)) k11 (fun hHeld => ?br16b) rdy_nil)
            case br16a =>
              simp only [Act.put, List.setIfInBounds_toArray, List.set_cons_succ, List.set_cons_zero]
              obtain ⟨ga2, gc2, X2, r2, o2, g2⟩ := smApp X1 n0 (.slice (some ⟨Wd.heap.size, 0, none⟩) 0 0) 0 [] o1 l1 (some ⟨xb, xo, none⟩) p fc (S.take p) (HSA.out X1 k1) p (by omega) (by omega)
              have l2 : n0 ≤ X2.heap.size := Nat.le_trans l1 g2.size
              have k2 : Below n0 w7 X2 := k1.grown g2 l1 (fun b hb => (o1.lt b hb).1)
              obtain ⟨X6, hX6⟩ : ∃ W, W = X1.alloc (.cells #[.int .i64 ts, .int .u64 (vs : Int)] 36) := ⟨_, rfl⟩
              have b6 : Below X1.heap.size X1 X6 := by rw [hX6]; exact (Below.refl _ X1).alloc (Nat.le_refl _) _
              have e6 : X6.heap[X1.heap.size]? = some (.cells #[.int .i64 ts, .int .u64 (vs : Int)] 36 (0, 0)) := by rw [hX6]; exact heap_alloc_new X1 _
              have l6 : n0 ≤ X6.heap.size := Nat.le_trans l1 b6.size
              have k6 : Below n0 w7 X6 := k1.trans (b6.mono l1)
              have o6 := own_skip o1 b6
              have d6 : Wd.heap.size ≠ X1.heap.size := by have := (Array.getElem?_eq_some_iff.1 q1).1; omega
              refine wpAnyH_ready (rs := [4, 6]) (by kernel_rfl) (by simp) ?_
              refine rdy_val (i := 4) rfl rfl (some 50) rfl (.slice ga2 p gc2) X2 (sm_appr (x := .tmp 46) (y := .tmp 49) rfl (by kernel_rfl) (by kernel_rfl) r2) k2 (fun hHeld => ?br10a) (rdy_val (i := 6) rfl rfl (some 52) rfl (.slice (some ⟨X1.heap.size, 0, none⟩) 1 1) X6 (by rw [hX6]; exact sm_mk1 (x := .tmp 51) rfl (by kernel_rfl)) k6 (fun hHeld => ?br10b) rdy_nil)
              case br10a =>
                simp only [Act.put, List.setIfInBounds_toArray, List.set_cons_succ, List.set_cons_zero]
                obtain ⟨X3, hX3⟩ : ∃ W, W = X2.alloc (.cells #[.int .i64 ts, .int .u64 (vs : Int)] 36) := ⟨_, rfl⟩
                have b3 : Below X2.heap.size X2 X3 := by rw [hX3]; exact (Below.refl _ X2).alloc (Nat.le_refl _) _
                have e3 : X3.heap[X2.heap.size]? = some (.cells #[.int .i64 ts, .int .u64 (vs : Int)] 36 (0, 0)) := by rw [hX3]; exact heap_alloc_new X2 _
                have l3 : n0 ≤ X3.heap.size := Nat.le_trans l2 b3.size
                have k3 : Below n0 w7 X3 := k2.trans (b3.mono l2)
                have o3 := own_skip o2 b3
                refine wpAnyH_ready (rs := [6]) (by kernel_rfl) (by simp) ?_
                refine rdy_val (i := 6) rfl rfl (some 52) rfl (.slice (some ⟨X2.heap.size, 0, none⟩) 1 1) X3 (by rw [hX3]; exact sm_mk1 (x := .tmp 51) rfl (by kernel_rfl)) k3 (fun hHeld => ?_) rdy_nil
                simp only [Act.put, List.setIfInBounds_toArray, List.set_cons_succ, List.set_cons_zero]
                obtain ⟨ga4, gc4, X4, r4, o4, g4⟩ := smApp X3 n0 (.slice ga2 p gc2) p ([] ++ vsm (S.take p)) o3 l3 (some ⟨X2.heap.size, 0, none⟩) 1 1 [(⟨ts, vs⟩ : Sam)] (sm_n1 HOK.out e3) kn1 (by omega) (by omega)
                have l4 : n0 ≤ X4.heap.size := Nat.le_trans l3 g4.size
                have k4 : Below n0 w7 X4 := k3.grown g4 l3 (fun b hb => (o3.lt b hb).1)
                refine wpAnyH_ready (rs := [7]) (by kernel_rfl) (by simp) ?_
                refine rdy_val (i := 7) rfl rfl (some 53) rfl (.slice ga4 kn1 gc4) X4 (sm_appr (x := .tmp 50) (y := .tmp 52) rfl (by kernel_rfl) (by kernel_rfl) r4) k4 (fun hHeld => ?_) rdy_nil
                simp only [Act.put, List.setIfInBounds_toArray, List.set_cons_succ, List.set_cons_zero]
                obtain ⟨ga5, gc5, X5, r5, o5, g5⟩ := smApp X4 n0 (.slice ga4 kn1 gc4) kn1 ([] ++ vsm (S.take p) ++ vsm [(⟨ts, vs⟩ : Sam)]) o4 l4 a2 m2 c2 (S.drop p) (HSB.out X4 k4) n9 (by omega) (by omega)
                have l5 : n0 ≤ X5.heap.size := Nat.le_trans l4 g5.size
                have k5 : Below n0 w7 X5 := k4.grown g5 l4 (fun b hb => (o4.lt b hb).1)
                refine wpAnyH_ready (rs := [11]) (by kernel_rfl) (by simp) ?_
                refine rdy_val (i := 11) rfl rfl (some 57) rfl (.slice ga5 n9 gc5) X5 (sm_appr (x := .tmp 53) (y := .tmp 56) rfl (by kernel_rfl) (by kernel_rfl) r5) k5 (fun hHeld => ?_) rdy_nil
                simp only [Act.put, List.setIfInBounds_toArray, List.set_cons_succ, List.set_cons_zero]
                refine drawn_take (i := 12) (v := (.slice ga5 n9 gc5)) (some 4) rfl rfl (by kernel_rfl) (by kernel_rfl) (by kernel_rfl) (fun _ _ _ h => h) (Or.inl ⟨by kernel_rfl, fun wq hw => by go_simp⟩) hHeld ?_
                simp only [Act.put, List.setIfInBounds_toArray, List.set_cons_succ, List.set_cons_zero]
                refine wpAnyH_done (by kernel_rfl) ?_ _
                refine NoPanic.normal ?_
                clear hHeld
                exact ⟨rfl, _, ⟨.slice (some ⟨Wd.heap.size, 0, none⟩) 0 0, .slice ga2 p gc2, .slice (some ⟨X2.heap.size, 0, none⟩) 1 1, .slice ga4 kn1 gc4, _, _, (), rfl, k5, o5⟩, by kernel_rfl⟩
              case br10b =>
                simp only [Act.put, List.setIfInBounds_toArray, List.set_cons_succ, List.set_cons_zero]
                obtain ⟨ga7, gc7, X7, r7, o7, g7⟩ := smApp X6 n0 (.slice (some ⟨Wd.heap.size, 0, none⟩) 0 0) 0 [] o6 l6 (some ⟨xb, xo, none⟩) p fc (S.take p) (HSA.out X6 k6) p (by omega) (by omega)
                have l7 : n0 ≤ X7.heap.size := Nat.le_trans l6 g7.size
                have k7 : Below n0 w7 X7 := k6.grown g7 l6 (fun b hb => (o6.lt b hb).1)
                have e7 := (g7.block X1.heap.size (Array.getElem?_eq_some_iff.1 e6).1 (fun e => d6 (Option.some.inj e).symm)).trans e6
                refine wpAnyH_ready (rs := [4]) (by kernel_rfl) (by simp) ?_
                refine rdy_val (i := 4) rfl rfl (some 50) rfl (.slice ga7 p gc7) X7 (sm_appr (x := .tmp 46) (y := .tmp 49) rfl (by kernel_rfl) (by kernel_rfl) r7) k7 (fun hHeld => ?_) rdy_nil
                simp only [Act.put, List.setIfInBounds_toArray, List.set_cons_succ, List.set_cons_zero]
                obtain ⟨ga8, gc8, X8, r8, o8, g8⟩ := smApp X7 n0 (.slice ga7 p gc7) p ([] ++ vsm (S.take p)) o7 l7 (some ⟨X1.heap.size, 0, none⟩) 1 1 [(⟨ts, vs⟩ : Sam)] (sm_n1 HOK.out e7) kn1 (by omega) (by omega)
                have l8 : n0 ≤ X8.heap.size := Nat.le_trans l7 g8.size
                have k8 : Below n0 w7 X8 := k7.grown g8 l7 (fun b hb => (o7.lt b hb).1)
                refine wpAnyH_ready (rs := [7]) (by kernel_rfl) (by simp) ?_
                refine rdy_val (i := 7) rfl rfl (some 53) rfl (.slice ga8 kn1 gc8) X8 (sm_appr (x := .tmp 50) (y := .tmp 52) rfl (by kernel_rfl) (by kernel_rfl) r8) k8 (fun hHeld => ?_) rdy_nil
                simp only [Act.put, List.setIfInBounds_toArray, List.set_cons_succ, List.set_cons_zero]
                obtain ⟨ga9, gc9, X9, r9, o9, g9⟩ := smApp X8 n0 (.slice ga8 kn1 gc8) kn1 ([] ++ vsm (S.take p) ++ vsm [(⟨ts, vs⟩ : Sam)]) o8 l8 a2 m2 c2 (S.drop p) (HSB.out X8 k8) n9 (by omega) (by omega)
                have l9 : n0 ≤ X9.heap.size := Nat.le_trans l8 g9.size
                have k9 : Below n0 w7 X9 := k8.grown g9 l8 (fun b hb => (o8.lt b hb).1)
                refine wpAnyH_ready (rs := [11]) (by kernel_rfl) (by simp) ?_
                refine rdy_val (i := 11) rfl rfl (some 57) rfl (.slice ga9 n9 gc9) X9 (sm_appr (x := .tmp 53) (y := .tmp 56) rfl (by kernel_rfl) (by kernel_rfl) r9) k9 (fun hHeld => ?_) rdy_nil
                simp only [Act.put, List.setIfInBounds_toArray, List.set_cons_succ, List.set_cons_zero]
                refine drawn_take (i := 12) (v := (.slice ga9 n9 gc9)) (some 4) rfl rfl (by kernel_rfl) (by kernel_rfl) (by kernel_rfl) (fun _ _ _ h => h) (Or.inl ⟨by kernel_rfl, fun wq hw => by go_simp⟩) hHeld ?_
                simp only [Act.put, List.setIfInBounds_toArray, List.set_cons_succ, List.set_cons_zero]
                refine wpAnyH_done (by kernel_rfl) ?_ _
                refine NoPanic.normal ?_
                clear hHeld
                exact ⟨rfl, _, ⟨.slice (some ⟨Wd.heap.size, 0, none⟩) 0 0, .slice ga7 p gc7, .slice (some ⟨X1.heap.size, 0, none⟩) 1 1, .slice ga8 kn1 gc8, _, _, (), rfl, k9, o9⟩, by kernel_rfl⟩
            case br16b =>
              simp only [Act.put, List.setIfInBounds_toArray, List.set_cons_succ, List.set_cons_zero]
              obtain ⟨X12, hX12⟩ : ∃ W, W = X11.alloc (.cells #[] 36) := ⟨_, rfl⟩
              have b12 : Below X11.heap.size X11 X12 := by rw [hX12]; exact (Below.refl _ X11).alloc (Nat.le_refl _) _
              have q12 : X12.heap[X11.heap.size]? = some (.cells #[] 36 (0, 0)) := by rw [hX12]; exact heap_alloc_new X11 _
              have l12 : n0 ≤ X12.heap.size := Nat.le_trans l11 b12.size
              have k12 : Below n0 w7 X12 := k11.trans (b12.mono l11)
              have o12 := sm_empty q12 l11
              have e12 := (b12.block Wd.heap.size (Array.getElem?_eq_some_iff.1 e11).1).trans e11
              have d12 : X11.heap.size ≠ Wd.heap.size := by have := (Array.getElem?_eq_some_iff.1 e11).1; omega
              refine wpAnyH_ready (rs := [0]) (by kernel_rfl) (by simp) ?_
              refine rdy_val (i := 0) rfl rfl (some 46) rfl (.slice (some ⟨X11.heap.size, 0, none⟩) 0 0) X12 (by rw [hX12]; exact sm_mk0 rfl) k12 (fun hHeld => ?_) rdy_nil
              simp only [Act.put, List.setIfInBounds_toArray, List.set_cons_succ, List.set_cons_zero]
              obtain ⟨ga13, gc13, X13, r13, o13, g13⟩ := smApp X12 n0 (.slice (some ⟨X11.heap.size, 0, none⟩) 0 0) 0 [] o12 l12 (some ⟨xb, xo, none⟩) p fc (S.take p) (HSA.out X12 k12) p (by omega) (by omega)
              have l13 : n0 ≤ X13.heap.size := Nat.le_trans l12 g13.size
              have k13 : Below n0 w7 X13 := k12.grown g13 l12 (fun b hb => (o12.lt b hb).1)
              have e13 := (g13.block Wd.heap.size (Array.getElem?_eq_some_iff.1 e12).1 (fun e => d12 (Option.some.inj e).symm)).trans e12
              refine wpAnyH_ready (rs := [4]) (by kernel_rfl) (by simp) ?_
              refine rdy_val (i := 4) rfl rfl (some 50) rfl (.slice ga13 p gc13) X13 (sm_appr (x := .tmp 46) (y := .tmp 49) rfl (by kernel_rfl) (by kernel_rfl) r13) k13 (fun hHeld => ?_) rdy_nil
              simp only [Act.put, List.setIfInBounds_toArray, List.set_cons_succ, List.set_cons_zero]
              obtain ⟨ga14, gc14, X14, r14, o14, g14⟩ := smApp X13 n0 (.slice ga13 p gc13) p ([] ++ vsm (S.take p)) o13 l13 (some ⟨Wd.heap.size, 0, none⟩) 1 1 [(⟨ts, vs⟩ : Sam)] (sm_n1 HOK.out e13) kn1 (by omega) (by omega)
              have l14 : n0 ≤ X14.heap.size := Nat.le_trans l13 g14.size
              have k14 : Below n0 w7 X14 := k13.grown g14 l13 (fun b hb => (o13.lt b hb).1)
              refine wpAnyH_ready (rs := [7]) (by kernel_rfl) (by simp) ?_
              refine rdy_val (i := 7) rfl rfl (some 53) rfl (.slice ga14 kn1 gc14) X14 (sm_appr (x := .tmp 50) (y := .tmp 52) rfl (by kernel_rfl) (by kernel_rfl) r14) k14 (fun hHeld => ?_) rdy_nil
              simp only [Act.put, List.setIfInBounds_toArray, List.set_cons_succ, List.set_cons_zero]
              obtain ⟨ga15, gc15, X15, r15, o15, g15⟩ := smApp X14 n0 (.slice ga14 kn1 gc14) kn1 ([] ++ vsm (S.take p) ++ vsm [(⟨ts, vs⟩ : Sam)]) o14 l14 a2 m2 c2 (S.drop p) (HSB.out X14 k14) n9 (by omega) (by omega)
              have l15 : n0 ≤ X15.heap.size := Nat.le_trans l14 g15.size
              have k15 : Below n0 w7 X15 := k14.grown g15 l14 (fun b hb => (o14.lt b hb).1)
              refine wpAnyH_ready (rs := [11]) (by kernel_rfl) (by simp) ?_
              refine rdy_val (i := 11) rfl rfl (some 57) rfl (.slice ga15 n9 gc15) X15 (sm_appr (x := .tmp 53) (y := .tmp 56) rfl (by kernel_rfl) (by kernel_rfl) r15) k15 (fun hHeld => ?_) rdy_nil
              simp only [Act.put, List.setIfInBounds_toArray, List.set_cons_succ, List.set_cons_zero]
              refine drawn_take (i := 12) (v := (.slice ga15 n9 gc15)) (some 4) rfl rfl (by kernel_rfl) (by kernel_rfl) (by kernel_rfl) (fun _ _ _ h => h) (Or.inl ⟨by kernel_rfl, fun wq hw => by go_simp⟩) hHeld ?_
              simp only [Act.put, List.setIfInBounds_toArray, List.set_cons_succ, List.set_cons_zero]
              refine wpAnyH_done (by kernel_rfl) ?_ _
              refine NoPanic.normal ?_
              clear hHeld
              exact ⟨rfl, _, ⟨.slice (some ⟨X11.heap.size, 0, none⟩) 0 0, .slice ga13 p gc13, .slice (some ⟨Wd.heap.size, 0, none⟩) 1 1, .slice ga14 kn1 gc14, _, _, (), rfl, k15, o15⟩, by kernel_rfl⟩
          · rintro li w8 ⟨x46, x50, x52, x53, ga, gc, _, rfl, hB8, ho8⟩
            have hs5 : w.heap.size ≤ w7.heap.size := Nat.le_trans HB5.out.size HB7.out.size
            have HOO : Hid (w8.ownsRow w.heap.size 36 2 (.slice ga n9 gc) (N + 1) (vsm (S.take p ++ [⟨ts, vs⟩] ++ S.drop p))) := hidn (by
              rw [vsm_app, vsm_app, ← HN9.out]
              exact own_lowG ho8 (by rw [HNE.out]; exact hs5))
            have HBF : Hid (Below w.heap.size w w8) := hidn (HB5.out.trans ((HB7.out.trans (show Below w5.heap.size w7 w8 from (show Below w7.heap.size w7 w8 by rw [← HNE.out]; exact hB8).mono HB7.out.size)).mono HB5.out.size))
            clear hB8 ho8
            simp only [smPutAll, List.foldl_cons, List.foldl_nil, Act.put, List.setIfInBounds_toArray, List.set_cons_succ, List.set_cons_zero]
            go_wp2_with fail
            go_ret
            exact ⟨_, _, rfl, HST.out.1, HST.out.2, HOO.out, HBF.out⟩
end Go.Proofs.Ytccjgciknaooaaa
