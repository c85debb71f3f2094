/- The writer's methods put, putInt, bytes. -/
import Derived.Test.YtljkidbdlhllcaaDoorCodW
namespace Go.Proofs.YtljkidbdlhllcaaDoor
open Go.RowKit Go.Joins
set_option linter.unusedVariables false

theorem part_next (B b g N1 y1 : Nat) (L new : List Bool) (v : Value) (zs ys ys1 : List Nat) (T : List Bool) (a : Option Addr) (cap : Nat) (w w1 : World) (hBw : B ≤ w.heap.size) (hBb : B ≤ b)
    (hb : w.heap[b]? = some (.cells #[v, .slice a ys.length cap, .int .i64 (T.length : Nat)] 47 (0, 0))) (hown : w.ownsRow B 5 1 v zs.length (vb zs)) (hws : WS zs ys T L)
    (hg : w.heap.size ≤ g) (hown1 : w1.ownsRow w.heap.size 5 1 (.slice (some ⟨g, 0, none⟩) ys1.length ys1.length) ys1.length (vb ys1)) (hpk : IsPack ys1 (bitsL ys T.length ++ new)) (hb1 : Below w.heap.size w w1)
    (hlen : L.length ≤ 1099511627000) (hnew : new.length ≤ 200) (hN1 : N1 = T.length + new.length) (hy1 : y1 = ys1.length) :
    Calls Tryd.prog 39 #[.pointer (some ⟨b, 0, none⟩), .agg #[.slice (some ⟨g, 0, none⟩) y1 y1, .int .i64 (N1 : Int)]] (w1.alloc (.cells #[.slice (some ⟨g, 0, none⟩) y1 y1, .int .i64 (N1 : Int)] 45)) fun e w' =>
      e = .returned (.tuple #[]) ∧ WI w' B b (L ++ new) ∧ Below B w w' ∧ Lib.OthersKept 5 (some b) w w' := by
  rw [hws.tail.bits] at hpk
  obtain ⟨ag, cg, hvg, hBs1⟩ := bs_of_own hown1 hpk.2.1
  injection hvg with e1 e2 e3
  subst e1
  clear e2 e3
  have hblt : b < w.heap.size := (Array.getElem?_eq_some_iff.1 hb).1
  have hbk : w1.heap[b]? = some (.cells #[v, .slice a ys.length cap, .int .i64 (T.length : Nat)] 47 (0, 0)) := (hb1.block b hblt).trans hb
  have hown1' : w1.ownsRow B 5 1 v zs.length (vb zs) := own_of_below hown hb1
  have hLl : L.length = 8 * zs.length + T.length := by rw [hws.all, List.length_append, bitsL_length]
  have hTl : (T ++ new).length = N1 := by rw [List.length_append, hN1]
  have hgv : v.ownBlock ≠ some g := by
    intro h
    have := (hown.lt g h).2
    omega
  have hgb : g ≠ b := by omega
  have hs1 := hb1.size
  have hp := part_any B b g v a ys.length cap (T.length : Nat) zs ys1 (T ++ new) (w1.alloc (.cells #[.slice (some ⟨g, 0, none⟩) y1 y1, .int .i64 (N1 : Int)] 45)) hBb (by simp; omega)
    ((Below.heap_alloc _ _ _ (by omega)).trans hbk) (hown1'.alloc _) hws.whole (hBs1.below ((Below.refl _ _).alloc (Nat.le_refl _) _)) hgv hgb hpk (by rw [hTl]; omega)
  rw [hTl, ← hy1] at hp
  refine hp.mono ?_
  rintro e w' ⟨he, hW, hL, hK⟩
  refine ⟨he, ?_, ((hb1.mono hBw).alloc (by omega) _).trans hL, ?_⟩
  · rw [hws.all, List.append_assoc]; exact hW
  · refine Lib.OthersKept.trans (Lib.OthersKept.alloc ?_ _) hK
    exact fun k o h1 _ _ => (hb1.block k (Array.getElem?_eq_some_iff.1 h1).1).trans h1

set_option maxHeartbeats 2000000 in
set_option maxRecDepth 100000 in
theorem wput_any (B b : Nat) (L : List Bool) (n count : Nat) (w : World) (hBw : B ≤ w.heap.size) (h : WI w B b L) (hn : n < 18446744073709551616) (hc : count ≤ 64) (hlen : L.length ≤ 1099511627000) :
    Calls Tryd.prog 22 #[.pointer (some ⟨b, 0, none⟩), .int .u64 (n : Int), .int .i64 (count : Int)] w fun e w' =>
      e = .returned (.tuple #[]) ∧ WI w' B b (L ++ lowBits n count) ∧ Below B w w' ∧ Lib.OthersKept 5 (some b) w w' := by
  obtain ⟨hBb, v, zs, ys, T, a, cap, hb, hown, hB, hws, hac⟩ := h
  have c1 : w.cell? ⟨b, 1, none⟩ = some (.slice a ys.length cap) := cell_of_row _ _ _ _ _ _ hb
  have c2 : w.cell? ⟨b, 2, none⟩ = some (.int .i64 (T.length : Nat)) := cell_of_row _ _ _ _ _ _ hb
  go_enter Tryd.func22, Tryd.ntmps22
  go_wp2_with fail
  have hfew := hws.few
  have hcan := (canB_iff ys (T.length : Nat)).2 hws.tail.can
  refine (put_ok a ys.length cap T.length n count ys _ hB (by omega) hn hcan hc).mono ?_
  rintro e w1 ⟨g, ys1, rfl, hg, hown1, hpk, hb1⟩
  obtain ⟨N1, hN1⟩ : ∃ N1, N1 = T.length + count := ⟨_, rfl⟩
  obtain ⟨y1, hy1⟩ : ∃ y1, y1 = ys1.length := ⟨_, rfl⟩
  rw [← hN1, ← hy1]
  have hpp := hidn (part_next B b g N1 y1 L (lowBits n count) v zs ys ys1 T a cap w w1 hBw hBb hb hown hws hg hown1 hpk hb1 hlen (by rw [lowBits_length]; omega) (by rw [lowBits_length]; exact hN1) hy1)
  clear hN1 hy1 hcan hws hown1 hown hb1 hpk
  go_wp2_with fail
  refine hpp.out.mono ?_
  rintro e w2 ⟨rfl, hr⟩
  have HR := hidn hr
  clear hr hpp
  go_wp2_with fail
  go_end0
  exact ⟨rfl, HR.out⟩

set_option maxHeartbeats 2000000 in
set_option maxRecDepth 100000 in
theorem wputInt_any (B b : Nat) (L : List Bool) (n : Int) (w : World) (hBw : B ≤ w.heap.size) (h : WI w B b L) (hlen : L.length ≤ 1099511627000) (hT : BitsTab w) :
    Calls Tryd.prog 23 #[.pointer (some ⟨b, 0, none⟩), .int .i64 n] w fun e w' =>
      e = .returned (.tuple #[]) ∧ WI w' B b (L ++ intBits n) ∧ Below B w w' ∧ Lib.OthersKept 5 (some b) w w' := by
  obtain ⟨hBb, v, zs, ys, T, a, cap, hb, hown, hB, hws, hac⟩ := h
  have c1 : w.cell? ⟨b, 1, none⟩ = some (.slice a ys.length cap) := cell_of_row _ _ _ _ _ _ hb
  have c2 : w.cell? ⟨b, 2, none⟩ = some (.int .i64 (T.length : Nat)) := cell_of_row _ _ _ _ _ _ hb
  have hil : intLen n ≤ 68 := by have h1 := clsMarks_le (cls n); have h2 := clsWidth_le (cls n); unfold intLen; omega
  go_enter Tryd.func23, Tryd.ntmps23
  go_wp2_with fail
  have hfew := hws.few
  have hcan := (canB_iff ys (T.length : Nat)).2 hws.tail.can
  refine (putInt_ok a ys.length cap T.length n ys _ hB (by omega) hcan hT).mono ?_
  rintro e w1 ⟨g, ys1, rfl, hg, hown1, hpk, hb1⟩
  obtain ⟨N1, hN1⟩ : ∃ N1, N1 = T.length + intLen n := ⟨_, rfl⟩
  obtain ⟨y1, hy1⟩ : ∃ y1, y1 = ys1.length := ⟨_, rfl⟩
  rw [← hN1, ← hy1]
  have hpp := hidn (part_next B b g N1 y1 L (intBits n) v zs ys ys1 T a cap w w1 hBw hBb hb hown hws hg hown1 hpk hb1 hlen (by rw [intBits_length]; omega) (by rw [intBits_length]; exact hN1) hy1)
  clear hN1 hy1 hcan hws hown1 hown hb1 hpk
  go_wp2_with fail
  refine hpp.out.mono ?_
  rintro e w2 ⟨rfl, hr⟩
  have HR := hidn hr
  clear hr hpp
  go_wp2_with fail
  go_end0
  exact ⟨rfl, HR.out⟩

set_option maxHeartbeats 2000000 in
set_option maxRecDepth 100000 in
theorem wbytes_any (B b : Nat) (L : List Bool) (w : World) (hBw : B ≤ w.heap.size) (h : WI w B b L) (hlen : L.length ≤ 1099511627000) (h0 : 8 ≤ L.length) :
    Calls Tryd.prog 25 #[.pointer (some ⟨b, 0, none⟩)] w fun e w' =>
      ∃ (v : Value) (zs : List Nat), e = .returned v ∧ IsPack zs L ∧ w'.ownsRow B 5 1 v zs.length (vb zs) ∧ Below B w w' := by
  obtain ⟨i0, hi, hz0, hz1, hz2⟩ := info_parts Tryd.info5
  obtain ⟨hBb, v, zs, ys, T, a, cap, hb, hown, hB, hws, hac⟩ := h
  have c0 : w.cell? ⟨b, 0, none⟩ = some v := cell_of_row _ _ _ _ _ _ hb
  have c1 : w.cell? ⟨b, 1, none⟩ = some (.slice a ys.length cap) := cell_of_row _ _ _ _ _ _ hb
  have hblt : b < w.heap.size := (Array.getElem?_eq_some_iff.1 hb).1
  obtain ⟨v2, w2, hrun, hown2, hgr, hb2⟩ : ∃ v2 w2, (Builtin.append_ #[27, 27] 27 #[v, .slice a ys.length cap]).run Tryd.prog w.drew = .ok v2 w2 ∧ w2.ownsRow B 5 1 v2 (zs.length + ys.length) (vb (zs ++ ys)) ∧ Below B w w2 ∧ w2.heap[b]? = w.heap[b]? := by
    have hLl : L.length = 8 * zs.length + T.length := by rw [hws.all, List.length_append, bitsL_length]
    have hyl : ys.length ≤ 1 := by have := hws.tail.1; have := hws.few; unfold nb at *; omega
    cases a with
    | none =>
      obtain rfl := hac rfl
      have h0 : ys.length = 0 := hB.2.2.2.1 rfl
      have hys : ys = [] := List.length_eq_zero_iff.1 h0
      subst hys
      refine ⟨v, w.drew, run_append_owned_none w.drew B 27 27 5 i0 1 Tryd.underlying27 hi v zs.length (vb zs) hown, by simp only [List.append_nil, List.length_nil, Nat.add_zero]; exact own_drew hown, (Below.refl _ _).drew, rfl⟩
    | some x =>
      obtain ⟨v2, w2, hrun, hown2, hgr, _⟩ := run_append_own (P := Tryd.prog) w.drew B 27 27 5 i0 (.int .u8 0) 1 1 Tryd.underlying27 hi hz0 hz1 hz2 rfl (by decide) v zs.length (vb zs) hown x ys.length cap (vb ys) (by rw [length_vb]; omega) (bs_news (bs_drew hB)) (one_vb _) (by unfold maxLen; omega) (by omega) hBw
      refine ⟨v2, w2, hrun, by rw [show vb (zs ++ ys) = vb zs ++ vb ys from by simp [vb]]; exact hown2, (Below.refl B w).drew.grown hgr hBw (fun k hk => (hown.lt k hk).1), hgr.block b hblt (fun h => ?_)⟩
      obtain ⟨c, fz, hc⟩ := Lib.ownsRowF_kind (World.ownsRowF_of hown) b h.symm
      rw [hb] at hc
      cases hc
  have hfin : Hid (IsPack (zs ++ ys) L ∧ w2.ownsRow B 5 1 v2 (zs ++ ys).length (vb (zs ++ ys)) ∧ Below B w w2) := hidn ⟨hws.pack, by rw [List.length_append]; exact hown2, hgr⟩
  have hbd : w.drew.heap[b]? = some (.cells #[v, .slice a ys.length cap, .int .i64 (T.length : Nat)] 47 (0, 0)) := hb
  rw [hb] at hb2
  have HRUN := hidn hrun
  generalize ys.length = yl at *
  generalize (T.length : Int) = tl at *
  clear hown2 hgr hown hws hB hac hrun hb c0 c1
  go_enter Tryd.func25, Tryd.ntmps25
  go_wp2_with fail
  generalize hWd : w.drew = wd at *
  refine wp_region_noPanic ?_
  refine wp_region_held_drew (S := fun w' => w'.heap[b]? = some (.cells #[v, .slice a yl cap, .int .i64 tl] 47 (0, 0))) (by kernel_rfl) (by rw [hWd]; exact hbd) (fun hHeld => ?_)
  rw [hWd] at hHeld ⊢
  refine drawn_take (i := 0) (v := .pointer (some ⟨b, 0, none⟩)) (some 3) rfl rfl (by kernel_rfl) (by kernel_rfl) (by kernel_rfl) (fun _ _ _ h => h) (Or.inl ⟨by kernel_rfl, fun wq hw => by go_simp⟩) hHeld ?_
  simp only [Act.put, List.setIfInBounds_toArray, List.set_cons_succ, List.set_cons_zero]
  refine drawn_take (i := 1) (v := .pointer (some ⟨b, 0, none⟩)) (some 4) rfl rfl (by kernel_rfl) (by kernel_rfl) (by kernel_rfl) (fun _ _ _ h => h) (Or.inl ⟨by kernel_rfl, fun wq hw => by go_simp⟩) hHeld ?_
  simp only [Act.put, List.setIfInBounds_toArray, List.set_cons_succ, List.set_cons_zero]
  refine drawn_take (i := 2) (v := .pointer (some ⟨b, 0, none⟩)) (some 5) rfl rfl (by kernel_rfl) (by kernel_rfl) (by kernel_rfl) (fun _ _ _ h => h) (Or.inl ⟨by kernel_rfl, fun wq hw => by go_simp⟩) hHeld ?_
  simp only [Act.put, List.setIfInBounds_toArray, List.set_cons_succ, List.set_cons_zero]
  refine drawn_take (i := 3) (v := v) (some 6) rfl rfl (by kernel_rfl) (by kernel_rfl) (by kernel_rfl) (fun _ _ _ h => h) (Or.inl ⟨by kernel_rfl, fun wq hw => by have q0 : wq.cell? ⟨b, 0, none⟩ = some v := cell_of_row _ _ _ _ _ _ hw; go_simp⟩) hHeld ?_
  simp only [Act.put, List.setIfInBounds_toArray, List.set_cons_succ, List.set_cons_zero]
  refine drawn_take (i := 4) (v := .pointer (some ⟨b, 0, none⟩)) (some 7) rfl rfl (by kernel_rfl) (by kernel_rfl) (by kernel_rfl) (fun _ _ _ h => h) (Or.inl ⟨by kernel_rfl, fun wq hw => by go_simp⟩) hHeld ?_
  simp only [Act.put, List.setIfInBounds_toArray, List.set_cons_succ, List.set_cons_zero]
  refine drawn_take (i := 5) (v := .pointer (some ⟨b, 0, none⟩)) (some 8) rfl rfl (by kernel_rfl) (by kernel_rfl) (by kernel_rfl) (fun _ _ _ h => h) (Or.inl ⟨by kernel_rfl, fun wq hw => by go_simp⟩) hHeld ?_
  simp only [Act.put, List.setIfInBounds_toArray, List.set_cons_succ, List.set_cons_zero]
  refine drawn_take (i := 6) (v := .pointer (some ⟨b, 1, none⟩)) (some 9) rfl rfl (by kernel_rfl) (by kernel_rfl) (by kernel_rfl) (fun _ _ _ h => h) (Or.inl ⟨by kernel_rfl, fun wq hw => by go_simp⟩) hHeld ?_
  simp only [Act.put, List.setIfInBounds_toArray, List.set_cons_succ, List.set_cons_zero]
  refine drawn_take (i := 7) (v := .pointer (some ⟨b, 1, none⟩)) (some 10) rfl rfl (by kernel_rfl) (by kernel_rfl) (by kernel_rfl) (fun _ _ _ h => h) (Or.inl ⟨by kernel_rfl, fun wq hw => by go_simp⟩) hHeld ?_
  simp only [Act.put, List.setIfInBounds_toArray, List.set_cons_succ, List.set_cons_zero]
  refine drawn_take (i := 8) (v := .slice a yl cap) (some 11) rfl rfl (by kernel_rfl) (by kernel_rfl) (by kernel_rfl) (fun _ _ _ h => h) (Or.inl ⟨by kernel_rfl, fun wq hw => by have q0 : wq.cell? ⟨b, 1, none⟩ = some (.slice a yl cap) := cell_of_row _ _ _ _ _ _ hw; go_simp⟩) hHeld ?_
  simp only [Act.put, List.setIfInBounds_toArray, List.set_cons_succ, List.set_cons_zero]
  refine wpAnyH_ready (rs := [9]) (by kernel_rfl) (by simp) ?_
  refine rdy_val (i := 9) rfl rfl (some 12) rfl (v2) (w2) (app_run (x := .tmp 6) (y := .tmp 11) (by kernel_rfl) (by kernel_rfl) (by kernel_rfl) HRUN.out) (hb2) (fun hHeld => ?_) rdy_nil
  simp only [Act.put, List.setIfInBounds_toArray, List.set_cons_succ, List.set_cons_zero]
  refine drawn_take (i := 10) (v := v2) (some 2) rfl rfl (by kernel_rfl) (by kernel_rfl) (by kernel_rfl) (fun _ _ _ h => h) (Or.inl ⟨by kernel_rfl, fun wq hw => by go_simp⟩) hHeld ?_
  simp only [Act.put, List.setIfInBounds_toArray, List.set_cons_succ, List.set_cons_zero]
  refine wpAnyH_done (by kernel_rfl) ?_ _
  refine NoPanic.normal ?_
  clear hHeld
  go_wp2_with fail
  go_ret
  exact ⟨_, _, rfl, hfin.out⟩
end Go.Proofs.YtljkidbdlhllcaaDoor
