/- pass. -/
import Derived.Test.YtdgkjiiegmnjfaaRxReach
namespace Go.Proofs.Ytdgkjiiegmnjfaa
open Go.RowKit Go.Joins
set_option linter.unusedVariables false

def cut0 (v : Value) : Value := match v with
  | .slice a _ c => .slice a 0 c
  | v => v
theorem Own.cut0 {w : World} {φ : Nat → Nat} {e size r n : Nat} {v : Value} {xs : List Value} (h : Own w φ e size r v n xs) : Own w φ e size r (cut0 v) 0 [] := by
  obtain ⟨⟨hl, h1⟩, h2⟩ := h
  rcases h1 with ⟨rfl, h1⟩ | ⟨g, cap, cur, rfl, hg, hh, hn, hc, hs, ht⟩
  · exact ⟨World.ownsRow_nil _ _ _ _, fun g hg => by cases hg⟩
  · exact ⟨⟨by simp, .inr ⟨g, cap, cur, rfl, hg, hh, Nat.zero_le _, hc, hs, by simp⟩⟩, h2⟩
/-- The round's end: what took goes before. -/
theorem FRD.swap {w : World} {fb : Nat} {φ : Nat → Nat} {L : List St} {rd : Nat} {x : rx_Fr} {bf : List Nat} {sv : Value} {V : Nat → Value × Value} {bv : Value} {a b : Nat} {sn tk : Value} (h : FRD w fb φ L rd x bf sv V bv a b sn tk) (w' : World) (hb : ∀ k, k ≠ fb → w'.heap[k]? = w.heap[k]?) (hos : w'.os = w.os) (htp : w'.tape = w.tape) (hou : w'.output = w.output) (hsz : w'.heap.size = w.heap.size)
    (hblk : w'.heap[fb]? = some (.cells #[sv, .int .i64 ((rd + 1 : Nat) : Int), sn, cut0 bv, tk] 86 (0, 0))) :
    FRD w' fb φ L (rd + 1) (x.1, []) x.2 sv V tk b a sn (cut0 bv) ∧ Gw φ φ w w' := by
  have hab := h.ab
  have hme := h.me
  have hk : Kp (fun k => k = fb) w w' := ⟨hos, htp, hou, by omega, fun k _ hn => hb k hn⟩
  have keep : ∀ {e size y m : Nat} {v : Value} {ys : List Value}, Own w φ e size y v m ys → y ≠ 1 → Own w' φ e size y v m ys := fun ho hy => ho.kp hk (fun k e => by rw [e, hme]; exact fun e => hy e.symm) (fun _ _ => rfl)
  exact ⟨⟨hblk, hme, by omega, keep h.sts (by omega), fun i s hs => keep (h.nx i s hs) (by omega), fun i s hs => keep (h.sp i s hs) (by omega), keep h.seen (by omega), keep h.before.cut0 (by omega), keep h.taking (by omega), h.len, fun k hk => h.free k (by omega)⟩, Gw.of ⟨hos, htp, hou, by omega, fun k _ hn => hb k (fun e => by rw [e] at hn; exact hn (by rw [hme]; decide))⟩⟩

set_option maxHeartbeats 4000000 in
set_option maxRecDepth 100000 in
theorem pass_any (fb : Nat) (φ : Nat → Nat) (L : List St) (rd : Nat) (x : rx_Fr) (bf : List Nat) (sv : Value) (V : Nat → Value × Value) (bv : Value) (a b : Nat) (p : Int) (w : World) (h : FRx w fb φ L rd x bf sv V bv a b) (hwf : WF L.length L) (hsz : siz L ≤ 600) (hrd : rd + 1 < 4611686018427387904) (hle : ∀ y ∈ x.1, y ≤ rd) (hlt : ∀ y ∈ x.2, y < L.length) (htl : x.2.length ≤ 1000) :
    Calls Try.prog 43 #[.pointer (some ⟨fb, 0, none⟩), .int .i32 p] w fun e w' => e = .returned (.tuple #[]) ∧ ∃ φ' bf' bv' a' b', FRx w' fb φ' L (rd + 1) (passF L (rd + 1) (L.length + 1) p x.2 (x.1, [])) bf' sv V bv' a' b' ∧ Gw φ φ' w w' := by
  obtain ⟨sn, tk, h⟩ := h
  have hll := siz_len L
  obtain ⟨ta, tc, htk⟩ : ∃ ta tc, tk = .slice ta x.2.length tc := by
    rcases h.taking.1.2 with ⟨h1, h2⟩ | ⟨g, cap, cur, h1, _⟩
    · exact ⟨none, 0, by rw [h1, h2]⟩
    · exact ⟨_, _, h1⟩
  obtain ⟨ba, bn, bc, hbv, hbn⟩ : ∃ ba bn bc, bv = .slice ba bn bc ∧ bn ≤ bc ∧ bc ≤ maxLen := by
    rcases h.before.1.2 with ⟨h1, h2⟩ | ⟨g, cap, cur, h1, _, _, h2, h3, _⟩
    · exact ⟨none, 0, 0, h1, Nat.le_refl _, Nat.zero_le _⟩
    · exact ⟨_, _, _, h1, h2, h3⟩
  unfold maxLen at hbn
  obtain ⟨tn, htn⟩ : ∃ tn, tn = x.2.length := ⟨_, rfl⟩
  rw [← htn] at htk
  subst htk
  subst hbv
  obtain ⟨wd, hwd⟩ : ∃ wd, w.drew = wd := ⟨_, rfl⟩
  have bd : Below w.heap.size w wd := by rw [← hwd]; exact (Below.refl _ _).drew
  have hd := h.below bd
  have c3 : wd.cell? ⟨fb, 3, none⟩ = some (.slice ta tn tc) := cell_of_row _ _ _ _ _ _ hd.blk
  have c4 : wd.cell? ⟨fb, 4, none⟩ = some (.slice ba bn bc) := cell_of_row _ _ _ _ _ _ hd.blk
  have f3 : wd.frozen? ⟨fb, 3, none⟩ = false := unfrozen_of_block hd.blk _
  have f4 : wd.frozen? ⟨fb, 4, none⟩ = false := unfrozen_of_block hd.blk _
  obtain ⟨w4, hw4⟩ : ∃ w4, w4 = (wd.setCell ⟨fb, 4, none⟩ (.slice ta tn tc)).setCell ⟨fb, 3, none⟩ (.slice ba 0 bc) := ⟨_, rfl⟩
  have q4 : w4.heap[fb]? = some (.cells #[sv, .int .i64 (rd : Int), sn, .slice ba 0 bc, .slice ta tn tc] 86 (0, 0)) := by
    rw [hw4]
    have := block_setCell (i := 3) (block_setCell (i := 4) hd.blk (.slice ta tn tc)) (.slice ba 0 bc)
    simpa using this
  obtain ⟨r1, hr1⟩ : ∃ r1, r1 = rd + 1 := ⟨_, rfl⟩
  have hr1i : (rd : Int) + 1 = (r1 : Int) := by omega
  obtain ⟨h5, G5⟩ := hd.swap (w4.setCell ⟨fb, 1, none⟩ (.int .i64 (r1 : Int))) (fun k hk => by rw [Below.heap_setCell _ _ _ _ hk, hw4, Below.heap_setCell _ _ _ _ hk, Below.heap_setCell _ _ _ _ hk]) (by rw [hw4]; rfl) (by rw [hw4]; rfl) (by rw [hw4]; rfl) (by rw [hw4]; simp [World.setCell]) (by
    have := block_setCell (i := 1) q4 (.int .i64 (r1 : Int))
    rw [hr1] at this
    rw [hr1]
    simpa [cut0] using this)
  have G5' : Gw φ φ w (w4.setCell ⟨fb, 1, none⟩ (.int .i64 (r1 : Int))) := (Gw.of (Kp.of_below bd)).trans G5
  have d1 : w4.cell? ⟨fb, 1, none⟩ = some (.int .i64 (rd : Int)) := cell_of_row _ _ _ _ _ _ q4
  have g1 : w4.frozen? ⟨fb, 1, none⟩ = false := unfrozen_of_block q4 _
  rw [← hr1] at h5
  have HFR : Hid (FRx (w4.setCell ⟨fb, 1, none⟩ (.int .i64 (r1 : Int))) fb φ L r1 (x.1, []) x.2 sv V (.slice ta tn tc) b a) := hidn ⟨_, _, h5⟩
  have e4 : (w4.setCell ⟨fb, 1, none⟩ (.int .i64 (r1 : Int))).cell? ⟨fb, 4, none⟩ = some (.slice ta tn tc) := cell_of_row _ _ _ _ _ _ h5.blk
  obtain ⟨Z, hZ⟩ : ∃ Z, Z = passF L r1 (L.length + 1) p x.2 (x.1, []) := ⟨_, rfl⟩
  rw [← hr1, ← hZ]
  have HZ := hidn hZ
  have HTN := hidn htn
  have HR1 := hidn hr1
  have hrd1 : r1 < 4611686018427387904 := by omega
  have htn1 : tn ≤ 1000 := by omega
  have hle1 : ∀ y ∈ x.1, y ≤ r1 := fun y hy => by have := hle y hy; omega
  have hun1 : unseen r1 x.1 = x.1.length := by rw [hr1]; exact unseen_all rd x.1 hle
  have hxl := h.len
  have HW4 := hidn hw4
  clear htn hr1 hZ h hd bd G5 h5 q4 hw4
  go_enter Try.func43, Try.ntmps43
  go_wp2_with fail
  refine wp_region_noPanic ?_
  refine wp_region_held_drew (S := fun _ => True) (by kernel_rfl) trivial (fun hHeld => ?_)
  rw [hwd]
  refine drawn_take (i := 0) (v := .pointer (some ⟨fb, 0, none⟩)) (some 6) rfl rfl (by kernel_rfl) (by kernel_rfl) (by kernel_rfl) (fun _ _ _ h => h) (Or.inl ⟨by kernel_rfl, fun wq hw => by go_simp⟩) hHeld ?_
  simp only [Act.put, List.setIfInBounds_toArray, List.set_cons_succ, List.set_cons_zero]
  refine drawn_take (i := 1) (v := .pointer (some ⟨fb, 0, none⟩)) (some 7) rfl rfl (by kernel_rfl) (by kernel_rfl) (by kernel_rfl) (fun _ _ _ h => h) (Or.inl ⟨by kernel_rfl, fun wq hw => by go_simp⟩) hHeld ?_
  simp only [Act.put, List.setIfInBounds_toArray, List.set_cons_succ, List.set_cons_zero]
  refine drawn_take (i := 2) (v := .pointer (some ⟨fb, 0, none⟩)) (some 8) rfl rfl (by kernel_rfl) (by kernel_rfl) (by kernel_rfl) (fun _ _ _ h => h) (Or.inl ⟨by kernel_rfl, fun wq hw => by go_simp⟩) hHeld ?_
  simp only [Act.put, List.setIfInBounds_toArray, List.set_cons_succ, List.set_cons_zero]
  refine drawn_take (i := 3) (v := .pointer (some ⟨fb, 0, none⟩)) (some 9) rfl rfl (by kernel_rfl) (by kernel_rfl) (by kernel_rfl) (fun _ _ _ h => h) (Or.inl ⟨by kernel_rfl, fun wq hw => by go_simp⟩) hHeld ?_
  simp only [Act.put, List.setIfInBounds_toArray, List.set_cons_succ, List.set_cons_zero]
  refine drawn_take (i := 4) (v := .pointer (some ⟨fb, 3, none⟩)) (some 10) rfl rfl (by kernel_rfl) (by kernel_rfl) (by kernel_rfl) (fun _ _ _ h => h) (Or.inl ⟨by kernel_rfl, fun wq hw => by go_simp⟩) hHeld ?_
  simp only [Act.put, List.setIfInBounds_toArray, List.set_cons_succ, List.set_cons_zero]
  refine drawn_take (i := 6) (v := .pointer (some ⟨fb, 0, none⟩)) (some 12) rfl rfl (by kernel_rfl) (by kernel_rfl) (by kernel_rfl) (fun _ _ _ h => h) (Or.inl ⟨by kernel_rfl, fun wq hw => by go_simp⟩) hHeld ?_
  simp only [Act.put, List.setIfInBounds_toArray, List.set_cons_succ, List.set_cons_zero]
  refine drawn_take (i := 7) (v := .pointer (some ⟨fb, 0, none⟩)) (some 13) rfl rfl (by kernel_rfl) (by kernel_rfl) (by kernel_rfl) (fun _ _ _ h => h) (Or.inl ⟨by kernel_rfl, fun wq hw => by go_simp⟩) hHeld ?_
  simp only [Act.put, List.setIfInBounds_toArray, List.set_cons_succ, List.set_cons_zero]
  refine drawn_take (i := 8) (v := .pointer (some ⟨fb, 4, none⟩)) (some 14) rfl rfl (by kernel_rfl) (by kernel_rfl) (by kernel_rfl) (fun _ _ _ h => h) (Or.inl ⟨by kernel_rfl, fun wq hw => by go_simp⟩) hHeld ?_
  simp only [Act.put, List.setIfInBounds_toArray, List.set_cons_succ, List.set_cons_zero]
  refine wpAnyH_ready (rs := [5, 9]) (by kernel_rfl) (by simp) ?_
  refine rdy_val (i := 5) rfl rfl (some 11) rfl (.slice ta tn tc) wd (by go_simp) trivial (fun hHeld => ?_) ?_
  · simp only [Act.put, List.setIfInBounds_toArray, List.set_cons_succ, List.set_cons_zero]
    refine wpAnyH_ready (rs := [9]) (by kernel_rfl) (by simp) ?_
    refine rdy_val (i := 9) rfl rfl (some 15) rfl (.slice ba bn bc) wd (by go_simp) trivial (fun hHeld => ?_) rdy_nil
    simp only [Act.put, List.setIfInBounds_toArray, List.set_cons_succ, List.set_cons_zero]
    refine drawn_take (i := 10) (v := .slice ba 0 bc) (some 16) rfl rfl (by kernel_rfl) (by kernel_rfl) (by kernel_rfl) (fun _ _ _ h => h) (Or.inl ⟨by kernel_rfl, fun wq hw => by go_simp⟩) hHeld ?_
    simp only [Act.put, List.setIfInBounds_toArray, List.set_cons_succ, List.set_cons_zero]
    refine drawn_take (i := 11) (v := .pointer (some ⟨fb, 0, none⟩)) (some 17) rfl rfl (by kernel_rfl) (by kernel_rfl) (by kernel_rfl) (fun _ _ _ h => h) (Or.inl ⟨by kernel_rfl, fun wq hw => by go_simp⟩) hHeld ?_
    simp only [Act.put, List.setIfInBounds_toArray, List.set_cons_succ, List.set_cons_zero]
    refine drawn_take (i := 12) (v := .pointer (some ⟨fb, 4, none⟩)) (some 18) rfl rfl (by kernel_rfl) (by kernel_rfl) (by kernel_rfl) (fun _ _ _ h => h) (Or.inl ⟨by kernel_rfl, fun wq hw => by go_simp⟩) hHeld ?_
    simp only [Act.put, List.setIfInBounds_toArray, List.set_cons_succ, List.set_cons_zero]
    refine wpAnyH_ready (rs := [13]) (by kernel_rfl) (by simp) ?_
    refine rx_rdy_unit (i := 13) rfl rfl none rfl (wd.setCell ⟨fb, 4, none⟩ (.slice ta tn tc)) (by go_simp) trivial (fun hHeld => ?_) rdy_nil
    refine drawn_take (i := 14) (v := .pointer (some ⟨fb, 0, none⟩)) (some 19) rfl rfl (by kernel_rfl) (by kernel_rfl) (by kernel_rfl) (fun _ _ _ h => h) (Or.inl ⟨by kernel_rfl, fun wq hw => by go_simp⟩) hHeld ?_
    simp only [Act.put, List.setIfInBounds_toArray, List.set_cons_succ, List.set_cons_zero]
    refine drawn_take (i := 15) (v := .pointer (some ⟨fb, 3, none⟩)) (some 20) rfl rfl (by kernel_rfl) (by kernel_rfl) (by kernel_rfl) (fun _ _ _ h => h) (Or.inl ⟨by kernel_rfl, fun wq hw => by go_simp⟩) hHeld ?_
    simp only [Act.put, List.setIfInBounds_toArray, List.set_cons_succ, List.set_cons_zero]
    refine wpAnyH_ready (rs := [16]) (by kernel_rfl) (by simp) ?_
    refine rx_rdy_unit (i := 16) rfl rfl none rfl ((wd.setCell ⟨fb, 4, none⟩ (.slice ta tn tc)).setCell ⟨fb, 3, none⟩ (.slice ba 0 bc)) (by go_simp) trivial (fun hHeld => ?_) rdy_nil
    refine wpAnyH_done (by kernel_rfl) ?_ _
    refine NoPanic.normal ?_
    simp only [Act.put]
    rw [← HW4.out]
    clear hHeld c3 c4 f3 f4
    go_wp2_with fail
    go_loopw [33] (fun iv wr => ∃ (j : Nat) (φ' : Nat → Nat), iv = .int .i64 (j : Int) ∧ j ≤ tn ∧ FRx wr fb φ' L r1 ((x.2.take j).foldl (passOne L r1 (L.length + 1) p) (x.1, [])) x.2 sv V (.slice ta tn tc) b a ∧ Gw φ φ' w wr) (fun iv _ => tn - (intOf iv).toNat)
    case atStart => exact ⟨0, φ, rfl, Nat.zero_le _, HFR.out, G5'⟩
    case round =>
      obtain ⟨j, φ', rfl, hj, hFj, Gj⟩ := hrel
      by_cases hltj : j < tn
      · have hlt2 : (j : Int) < (tn : Int) := by omega
        have hjl : j < x.2.length := by rw [← HTN.out]; exact hltj
        obtain ⟨n, hm⟩ : ∃ n, x.2[j]? = some n := ⟨_, List.getElem?_eq_getElem hjl⟩
        have hnL : n < L.length := hlt n (List.mem_of_getElem? hm)
        obtain ⟨st, hst⟩ : ∃ st, L[n]? = some st := ⟨_, List.getElem?_eq_getElem hnL⟩
        obtain ⟨snj, tkj, hrdj⟩ := hFj
        have hbj := hrdj.before
        rw [← HTN.out] at hbj
        obtain ⟨g, c, hgc, _, _⟩ := nonnil hbj.1 (by omega)
        cases hgc
        have cj : wr.cell? ⟨g, j, none⟩ = some (.int .i64 (n : Int)) := own_at hbj.1 _ _ (vi_get _ _ _ hm)
        obtain ⟨gs, cs, hgs, hcs1, hcs2⟩ := nonnil hrdj.sts.1 (by omega)
        unfold maxLen at hcs2
        have k0 : wr.cell? ⟨fb, 0, none⟩ = some (.slice (some ⟨gs, 0, none⟩) L.length cs) := by rw [← hgs]; exact cell_of_row _ _ _ _ _ _ hrdj.blk
        obtain ⟨y0, y1, y2, y3⟩ := vst_get V L 0 n st hst
        rw [Nat.zero_add] at y2
        have hsts := hrdj.sts.1
        rw [hgs] at hsts
        have k1 := own_at hsts _ _ y1
        have k2 := own_at hsts _ _ y2
        have hspan := (hrdj.sp n st hst).1
        have hnl := siz_next L st (List.mem_of_getElem? hst)
        have hfk : FK L.length 0 r1 (x.1, []) ((x.2.take j).foldl (passOne L r1 (L.length + 1) p) (x.1, [])) := pass_FK L r1 (L.length + 1) p (x.2.take j) (x.1, []) hxl
        have hfold : Hid ((x.2.take (j + 1)).foldl (passOne L r1 (L.length + 1) p) (x.1, []) = passOne L r1 (L.length + 1) p ((x.2.take j).foldl (passOne L r1 (L.length + 1) p) (x.1, [])) n) := hidn (by rw [List.take_add_one, hm]; simp [List.foldl_append])
        obtain ⟨xj, hxj⟩ : ∃ xj, xj = (x.2.take j).foldl (passOne L r1 (L.length + 1) p) (x.1, []) := ⟨_, rfl⟩
        rw [← hxj] at hrdj hfk hfold
        have htk2 := hfk.tk
        have hun2 := hfk.cnt
        simp only [List.length_nil, hun1] at htk2 hun2
        obtain ⟨pa, pc, hpv⟩ : ∃ pa pc, (V n).1 = .slice pa st.spans.length pc := by
          rcases hspan.2 with ⟨h1, h2⟩ | ⟨g, cap, cur, h1, _⟩
          · exact ⟨none, 0, by rw [h1, h2]⟩
          · exact ⟨_, _, h1⟩
        rw [hpv] at k2 hspan
        have hFj : FRx wr fb φ' L r1 xj x.2 sv V (.slice (some ⟨g, 0, none⟩) tn tc) b a := ⟨snj, tkj, hrdj⟩
        have hle3 := hfk.le hle1
        obtain ⟨NL, hNL⟩ : ∃ NL, NL = L.length := ⟨_, rfl⟩
        obtain ⟨SL, hSL⟩ : ∃ SL, SL = st.spans.length := ⟨_, rfl⟩
        rw [← hNL] at k0
        rw [← hSL] at k2
        have hnNL : n < NL := by omega
        have hnNL2 : (n : Int) < (NL : Int) := by omega
        have HNL := hidn hNL
        have HSL := hidn hSL
        have hcs3 : cs ≤ 9223372036854775807 := by omega
        clear hrdj hbj hsts y0 y1 y2 y3 hxj hm hgs hNL hSL hpv hfk hcs2
        go_wp2_with fail
        rw [HSL.out]
        refine (has_any st.others (.slice pa st.spans.length pc) st.spans p wr hspan).mono ?_
        rintro e w7 ⟨rfl, b7⟩
        have h7 := hFj.below b7
        have G7 := Gj.trans (Gw.of (Kp.of_below b7))
        cases hh : hasR st.others st.spans p with
        | true =>
          have hx2 : Hid (passOne L r1 (L.length + 1) p xj n = goOnF L r1 (L.length + 1) n xj) := hidn (by unfold passOne; rw [hst]; simp only [hh, if_true])
          have hcall := (reach_all (L.length + 1)).2 fb φ' L r1 xj x.2 sv V (.slice (some ⟨g, 0, none⟩) tn tc) b a n w7 h7 hwf hsz hrd1 (by omega) (by omega) hle3 hnL
          have HC := hidn hcall
          clear hcall hFj h7
          go_wp2_with fail
          refine HC.out.mono ?_
          rintro e w8 ⟨rfl, φ8, h8, G8⟩
          have G8' := G7.trans G8
          go_wp2_with fail
          exact ⟨⟨j + 1, φ8, by simp, by omega, by rw [hfold.out, hx2.out]; exact h8, G8'⟩, by simp [intOf]; omega⟩
        | false =>
          have hx2 : Hid (passOne L r1 (L.length + 1) p xj n = xj) := hidn (by unfold passOne; rw [hst]; simp only [hh]; rfl)
          go_wp2_with fail
          exact ⟨⟨j + 1, φ', by simp, by omega, by rw [hfold.out, hx2.out]; exact h7, G7⟩, by simp [intOf]; omega⟩
      · have hlt2 : ¬ (j : Int) < (tn : Int) := by omega
        have hall : Hid (x.2.take j = x.2) := hidn (List.take_of_length_le (by rw [← HTN.out]; omega))
        rw [hall.out] at hFj
        go_wp2_with fail
        go_end0
        exact ⟨rfl, φ', ⟨x.2, _, b, a, by rw [HZ.out]; exact hFj⟩, Gj⟩
  · refine rdy_val (i := 9) rfl rfl (some 15) rfl (.slice ba bn bc) wd (by go_simp) trivial (fun hHeld => ?_) rdy_nil
    simp only [Act.put, List.setIfInBounds_toArray, List.set_cons_succ, List.set_cons_zero]
    refine drawn_take (i := 10) (v := .slice ba 0 bc) (some 16) rfl rfl (by kernel_rfl) (by kernel_rfl) (by kernel_rfl) (fun _ _ _ h => h) (Or.inl ⟨by kernel_rfl, fun wq hw => by go_simp⟩) hHeld ?_
    simp only [Act.put, List.setIfInBounds_toArray, List.set_cons_succ, List.set_cons_zero]
    refine wpAnyH_ready (rs := [5]) (by kernel_rfl) (by simp) ?_
    refine rdy_val (i := 5) rfl rfl (some 11) rfl (.slice ta tn tc) wd (by go_simp) trivial (fun hHeld => ?_) rdy_nil
    simp only [Act.put, List.setIfInBounds_toArray, List.set_cons_succ, List.set_cons_zero]
    refine drawn_take (i := 11) (v := .pointer (some ⟨fb, 0, none⟩)) (some 17) rfl rfl (by kernel_rfl) (by kernel_rfl) (by kernel_rfl) (fun _ _ _ h => h) (Or.inl ⟨by kernel_rfl, fun wq hw => by go_simp⟩) hHeld ?_
    simp only [Act.put, List.setIfInBounds_toArray, List.set_cons_succ, List.set_cons_zero]
    refine drawn_take (i := 12) (v := .pointer (some ⟨fb, 4, none⟩)) (some 18) rfl rfl (by kernel_rfl) (by kernel_rfl) (by kernel_rfl) (fun _ _ _ h => h) (Or.inl ⟨by kernel_rfl, fun wq hw => by go_simp⟩) hHeld ?_
    simp only [Act.put, List.setIfInBounds_toArray, List.set_cons_succ, List.set_cons_zero]
    refine wpAnyH_ready (rs := [13]) (by kernel_rfl) (by simp) ?_
    refine rx_rdy_unit (i := 13) rfl rfl none rfl (wd.setCell ⟨fb, 4, none⟩ (.slice ta tn tc)) (by go_simp) trivial (fun hHeld => ?_) rdy_nil
    refine drawn_take (i := 14) (v := .pointer (some ⟨fb, 0, none⟩)) (some 19) rfl rfl (by kernel_rfl) (by kernel_rfl) (by kernel_rfl) (fun _ _ _ h => h) (Or.inl ⟨by kernel_rfl, fun wq hw => by go_simp⟩) hHeld ?_
    simp only [Act.put, List.setIfInBounds_toArray, List.set_cons_succ, List.set_cons_zero]
    refine drawn_take (i := 15) (v := .pointer (some ⟨fb, 3, none⟩)) (some 20) rfl rfl (by kernel_rfl) (by kernel_rfl) (by kernel_rfl) (fun _ _ _ h => h) (Or.inl ⟨by kernel_rfl, fun wq hw => by go_simp⟩) hHeld ?_
    simp only [Act.put, List.setIfInBounds_toArray, List.set_cons_succ, List.set_cons_zero]
    refine wpAnyH_ready (rs := [16]) (by kernel_rfl) (by simp) ?_
    refine rx_rdy_unit (i := 16) rfl rfl none rfl ((wd.setCell ⟨fb, 4, none⟩ (.slice ta tn tc)).setCell ⟨fb, 3, none⟩ (.slice ba 0 bc)) (by go_simp) trivial (fun hHeld => ?_) rdy_nil
    refine wpAnyH_done (by kernel_rfl) ?_ _
    refine NoPanic.normal ?_
    simp only [Act.put]
    rw [← HW4.out]
    clear hHeld c3 c4 f3 f4
    go_wp2_with fail
    go_loopw [33] (fun iv wr => ∃ (j : Nat) (φ' : Nat → Nat), iv = .int .i64 (j : Int) ∧ j ≤ tn ∧ FRx wr fb φ' L r1 ((x.2.take j).foldl (passOne L r1 (L.length + 1) p) (x.1, [])) x.2 sv V (.slice ta tn tc) b a ∧ Gw φ φ' w wr) (fun iv _ => tn - (intOf iv).toNat)
    case atStart => exact ⟨0, φ, rfl, Nat.zero_le _, HFR.out, G5'⟩
    case round =>
      obtain ⟨j, φ', rfl, hj, hFj, Gj⟩ := hrel
      by_cases hltj : j < tn
      · have hlt2 : (j : Int) < (tn : Int) := by omega
        have hjl : j < x.2.length := by rw [← HTN.out]; exact hltj
        obtain ⟨n, hm⟩ : ∃ n, x.2[j]? = some n := ⟨_, List.getElem?_eq_getElem hjl⟩
        have hnL : n < L.length := hlt n (List.mem_of_getElem? hm)
        obtain ⟨st, hst⟩ : ∃ st, L[n]? = some st := ⟨_, List.getElem?_eq_getElem hnL⟩
        obtain ⟨snj, tkj, hrdj⟩ := hFj
        have hbj := hrdj.before
        rw [← HTN.out] at hbj
        obtain ⟨g, c, hgc, _, _⟩ := nonnil hbj.1 (by omega)
        cases hgc
        have cj : wr.cell? ⟨g, j, none⟩ = some (.int .i64 (n : Int)) := own_at hbj.1 _ _ (vi_get _ _ _ hm)
        obtain ⟨gs, cs, hgs, hcs1, hcs2⟩ := nonnil hrdj.sts.1 (by omega)
        unfold maxLen at hcs2
        have k0 : wr.cell? ⟨fb, 0, none⟩ = some (.slice (some ⟨gs, 0, none⟩) L.length cs) := by rw [← hgs]; exact cell_of_row _ _ _ _ _ _ hrdj.blk
        obtain ⟨y0, y1, y2, y3⟩ := vst_get V L 0 n st hst
        rw [Nat.zero_add] at y2
        have hsts := hrdj.sts.1
        rw [hgs] at hsts
        have k1 := own_at hsts _ _ y1
        have k2 := own_at hsts _ _ y2
        have hspan := (hrdj.sp n st hst).1
        have hnl := siz_next L st (List.mem_of_getElem? hst)
        have hfk : FK L.length 0 r1 (x.1, []) ((x.2.take j).foldl (passOne L r1 (L.length + 1) p) (x.1, [])) := pass_FK L r1 (L.length + 1) p (x.2.take j) (x.1, []) hxl
        have hfold : Hid ((x.2.take (j + 1)).foldl (passOne L r1 (L.length + 1) p) (x.1, []) = passOne L r1 (L.length + 1) p ((x.2.take j).foldl (passOne L r1 (L.length + 1) p) (x.1, [])) n) := hidn (by rw [List.take_add_one, hm]; simp [List.foldl_append])
        obtain ⟨xj, hxj⟩ : ∃ xj, xj = (x.2.take j).foldl (passOne L r1 (L.length + 1) p) (x.1, []) := ⟨_, rfl⟩
        rw [← hxj] at hrdj hfk hfold
        have htk2 := hfk.tk
        have hun2 := hfk.cnt
        simp only [List.length_nil, hun1] at htk2 hun2
        obtain ⟨pa, pc, hpv⟩ : ∃ pa pc, (V n).1 = .slice pa st.spans.length pc := by
          rcases hspan.2 with ⟨h1, h2⟩ | ⟨g, cap, cur, h1, _⟩
          · exact ⟨none, 0, by rw [h1, h2]⟩
          · exact ⟨_, _, h1⟩
        rw [hpv] at k2 hspan
        have hFj : FRx wr fb φ' L r1 xj x.2 sv V (.slice (some ⟨g, 0, none⟩) tn tc) b a := ⟨snj, tkj, hrdj⟩
        have hle3 := hfk.le hle1
        obtain ⟨NL, hNL⟩ : ∃ NL, NL = L.length := ⟨_, rfl⟩
        obtain ⟨SL, hSL⟩ : ∃ SL, SL = st.spans.length := ⟨_, rfl⟩
        rw [← hNL] at k0
        rw [← hSL] at k2
        have hnNL : n < NL := by omega
        have hnNL2 : (n : Int) < (NL : Int) := by omega
        have HNL := hidn hNL
        have HSL := hidn hSL
        have hcs3 : cs ≤ 9223372036854775807 := by omega
        clear hrdj hbj hsts y0 y1 y2 y3 hxj hm hgs hNL hSL hpv hfk hcs2
        go_wp2_with fail
        rw [HSL.out]
        refine (has_any st.others (.slice pa st.spans.length pc) st.spans p wr hspan).mono ?_
        rintro e w7 ⟨rfl, b7⟩
        have h7 := hFj.below b7
        have G7 := Gj.trans (Gw.of (Kp.of_below b7))
        cases hh : hasR st.others st.spans p with
        | true =>
          have hx2 : Hid (passOne L r1 (L.length + 1) p xj n = goOnF L r1 (L.length + 1) n xj) := hidn (by unfold passOne; rw [hst]; simp only [hh, if_true])
          have hcall := (reach_all (L.length + 1)).2 fb φ' L r1 xj x.2 sv V (.slice (some ⟨g, 0, none⟩) tn tc) b a n w7 h7 hwf hsz hrd1 (by omega) (by omega) hle3 hnL
          have HC := hidn hcall
          clear hcall hFj h7
          go_wp2_with fail
          refine HC.out.mono ?_
          rintro e w8 ⟨rfl, φ8, h8, G8⟩
          have G8' := G7.trans G8
          go_wp2_with fail
          exact ⟨⟨j + 1, φ8, by simp, by omega, by rw [hfold.out, hx2.out]; exact h8, G8'⟩, by simp [intOf]; omega⟩
        | false =>
          have hx2 : Hid (passOne L r1 (L.length + 1) p xj n = xj) := hidn (by unfold passOne; rw [hst]; simp only [hh]; rfl)
          go_wp2_with fail
          exact ⟨⟨j + 1, φ', by simp, by omega, by rw [hfold.out, hx2.out]; exact h7, G7⟩, by simp [intOf]; omega⟩
      · have hlt2 : ¬ (j : Int) < (tn : Int) := by omega
        have hall : Hid (x.2.take j = x.2) := hidn (List.take_of_length_le (by rw [← HTN.out]; omega))
        rw [hall.out] at hFj
        go_wp2_with fail
        go_end0
        exact ⟨rfl, φ', ⟨x.2, _, b, a, by rw [HZ.out]; exact hFj⟩, Gj⟩
end Go.Proofs.Ytdgkjiiegmnjfaa
