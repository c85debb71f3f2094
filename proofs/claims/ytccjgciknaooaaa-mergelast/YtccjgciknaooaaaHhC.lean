/- merge: the heap's sink at any size. -/
import Derived.Test.YtccjgciknaooaaaHhB
namespace Go.Proofs.Ytccjgciknaooaaa
open Go.RowKit Go.Joins
set_option linter.unusedVariables false

theorem Kr.ofBelow {r : Nat} {w w' : World} (h : Below w.heap.size w w') : Kr r w w' := ⟨h.os, h.tape, h.output, h.size, fun k hk _ => h.block k hk⟩

/-- Runs' first samples in memory below a border. -/
def RunsAt (T : Run → Int) (B : Nat) (W : World) (rs : List Run) : Prop :=
  ∀ r ∈ rs, ∃ b o, r.a = some ⟨b, o, none⟩ ∧ 0 < r.len ∧ b < B ∧ W.cell? ⟨b, o, none⟩ = some (.int .i64 (T r))

theorem RunsAt.below {T : Run → Int} {B : Nat} {W W' : World} {rs : List Run} (h : RunsAt T B W rs) (hb : Below B W W') : RunsAt T B W' rs := fun r hr => by
  obtain ⟨b, o, h1, h2, h3, h4⟩ := h r hr
  exact ⟨b, o, h1, h2, h3, (hb.cell (p := ⟨b, o, none⟩) h3).trans h4⟩

theorem RunsAt.perm {T : Run → Int} {B : Nat} {W : World} {rs ss : List Run} (h : RunsAt T B W rs) (hp : ss.Perm rs) : RunsAt T B W ss := fun r hr => h r (hp.mem_iff.1 hr)

/-- A heap in memory, and what else has changed. -/
def HpS (B h g n c : Nat) (w0 : World) (rs : List Run) (W : World) : Prop := rs.length = n ∧ HpB W h (.slice (some ⟨g, 0, none⟩) n c) ∧ W.ownsRow B 70 3 (.slice (some ⟨g, 0, none⟩) n c) n (rvs rs) ∧ Kr g w0 W

theorem HpS.below {B h g n c : Nat} {w0 W W' : World} {rs : List Run} (x : HpS B h g n c w0 rs W) (hb : Below W.heap.size W W') : HpS B h g n c w0 rs W' :=
  ⟨x.1, (hb.block h (Array.getElem?_eq_some_iff.1 x.2.1).1).trans x.2.1, own_skip x.2.2.1 hb, x.2.2.2.trans (Kr.ofBelow hb)⟩

theorem hps_ne {B h g n c : Nat} {w0 W : World} {rs : List Run} (x : HpS B h g n c w0 rs W) : h ≠ g := fun e => by
  subst e
  obtain ⟨_, _, cur, hcur⟩ := own_blk x.2.2.1
  have := x.2.1
  rw [show W.heap[h]? = _ from this] at hcur
  cases hcur

theorem hps_swap {B h g n c i j : Nat} {w0 W : World} {rs : List Run} (x : HpS B h g n c w0 rs W) (hi : i < n) (hj : j < n) :
    Calls Try.prog 39 #[.pointer (some ⟨h, 0, none⟩), .int .i64 (i : Int), .int .i64 (j : Int)] W fun e w' => e = .returned (.tuple #[]) ∧ HpS B h g n c w0 (swapL rs i j) w' :=
  (swap_any B h g n c i j rs W x.2.1 x.2.2.1 x.1 hi hj).mono fun e w' h9 => by
    obtain ⟨h1, h2, h3⟩ := h9
    refine ⟨h1, by rw [swapL_len]; exact x.1, ?_, h2, x.2.2.2.trans h3⟩
    exact (h3.2.2.2.2 h (Array.getElem?_eq_some_iff.1 x.2.1).1 (hps_ne x)).trans x.2.1

set_option maxHeartbeats 8000000 in
set_option maxRecDepth 100000 in
theorem sink_any (T : Run → Int) (B h g n c : Nat) (w0 : World) (rs : List Run) (w : World) (hB : B ≤ w0.heap.size) (hBg : B ≤ g) (hm : n ≤ 1000) (hr : RunsAt T B w0 rs) (hx : HpS B h g n c w0 rs w) (hX : HeapX T rs 0) :
    Calls Try.prog 40 #[.pointer (some ⟨h, 0, none⟩)] w fun e w' => e = .returned (.tuple #[]) ∧ ∃ rs' : List Run, rs'.Perm rs ∧ Heap T rs' ∧ HpS B h g n c w0 rs' w' := by
  have HR := hidn hr
  have H0 := hidn hx
  have HX0 := hidn hX
  clear hr hx hX
  go_enter Try.func40, Try.ntmps40
  go_wp2_with fail
  go_loopw [2] (fun av wr => ∃ (p : Nat) (r1 : List Run), av = .int .i64 (p : Int) ∧ (p < n ∨ p = 0) ∧ Hid (r1.Perm rs) ∧ Hid (HeapX T r1 p) ∧ Hid (HpS B h g n c w0 r1 wr)) (fun av _ => n - (intOf av).toNat)
  case atStart => exact ⟨0, rs, rfl, .inr rfl, hidn (List.Perm.refl _), HX0, H0⟩
  case round =>
    obtain ⟨p, r1, rfl, hp, HP, HX, H1⟩ := hrel
    obtain ⟨w3, hw3⟩ : ∃ w3, w3 = wr := ⟨_, rfl⟩
    subst hw3
    have hp1000 : p ≤ 1000 := by omega
    go_wp2_with fail
    go_loopw [3, 4] (fun fv bv wr => ∃ f b : Nat, fv = .int .i64 (f : Int) ∧ bv = .int .i64 (b : Int) ∧ 2 * p + 1 ≤ b ∧ b ≤ 2 * p + 3 ∧ (f = p ∨ (2 * p + 1 ≤ f ∧ f < b ∧ f < n)) ∧ Hid (∀ i, (i = p ∨ (2 * p + 1 ≤ i ∧ i < b)) → i < n → aheadR T (rn r1 i) (rn r1 f) = false) ∧ Hid (f ≠ p → aheadR T (rn r1 f) (rn r1 p) = true) ∧ Hid (HpS B h g n c w0 r1 wr)) (fun _ bv _ => 2 * p + 3 - (intOf bv).toNat)
    case atStart => exact ⟨p, 2 * p + 1, rfl, by first | rfl | simp, by omega, by omega, .inl rfl, hidn (fun i hi hin => by rcases hi with rfl | hi; exact aheadR_irr _ _; omega), hidn (fun h => absurd rfl h), H1⟩
    case round =>
      obtain ⟨f, b, rfl, rfl, hb1, hb2, hf, HMIN, HAF, H2⟩ := hrel
      obtain ⟨w5, hw5⟩ : ∃ w5, w5 = wr := ⟨_, rfl⟩
      subst hw5
      have hc0 : w5.cell? ⟨h, 0, none⟩ = some (.slice (some ⟨g, 0, none⟩) n c) := cell_of_row _ _ _ _ _ _ H2.out.2.1
      have hc1 : w5.cell? ⟨h, 1, none⟩ = some (.func (.func 30) #[] #[]) := cell_of_row _ _ _ _ _ _ H2.out.2.1
      by_cases hgo : b ≤ 2 * p + 2 ∧ b < n
      · obtain ⟨hg1, hg2⟩ := hgo
        have hg3 : (b : Int) ≤ 2 * (p : Int) + 2 := by omega
        have hg4 : (b : Int) < (n : Int) := by omega
        have hfn : f < n := by omega
        have hfn2 : (f : Int) < (n : Int) := by omega
        have hb0 := rn_get (rs := r1) (i := b) (by rw [H2.out.1]; exact hg2)
        have hf0 := rn_get (rs := r1) (i := f) (by rw [H2.out.1]; exact hfn)
        obtain ⟨bb, ob, hba, hbl, hbB, hbc⟩ := ((HR.out.perm HP.out).below (H2.out.2.2.2.below hB hBg)) _ (rn_mem (rs := r1) (i := b) (by rw [H2.out.1]; exact hg2))
        obtain ⟨bf, of, hfa, hfl, hfB, hfc⟩ := ((HR.out.perm HP.out).below (H2.out.2.2.2.below hB hBg)) _ (rn_mem (rs := r1) (i := f) (by rw [H2.out.1]; exact hfn))
        obtain ⟨ab, hab⟩ : ∃ ab, ab = aheadR T (rn r1 b) (rn r1 f) := ⟨_, rfl⟩
        obtain ⟨x0, x1, x2, _⟩ := own_rn H2.out.2.2.1 hb0
        obtain ⟨y0, y1, y2, _⟩ := own_rn H2.out.2.2.1 hf0
        have HAB := hidn hab
        have hab2 := hab
        unfold aheadR at hab2
        obtain ⟨tb, htb⟩ : ∃ tb, tb = T (rn r1 b) := ⟨_, rfl⟩
        obtain ⟨tf, htf⟩ : ∃ tf, tf = T (rn r1 f) := ⟨_, rfl⟩
        rw [← htb] at hab2 hbc
        rw [← htf] at hab2 hfc
        obtain ⟨rb, hrb⟩ : ∃ z, z = (rn r1 b).rank := ⟨_, rfl⟩
        obtain ⟨pb, hpb⟩ : ∃ z, z = (rn r1 b).place := ⟨_, rfl⟩
        obtain ⟨lb, hlb⟩ : ∃ z, z = (rn r1 b).len := ⟨_, rfl⟩
        obtain ⟨cb, hcb⟩ : ∃ z, z = (rn r1 b).cap := ⟨_, rfl⟩
        obtain ⟨rf, hrf⟩ : ∃ z, z = (rn r1 f).rank := ⟨_, rfl⟩
        obtain ⟨pf, hpf⟩ : ∃ z, z = (rn r1 f).place := ⟨_, rfl⟩
        obtain ⟨lf, hlf⟩ : ∃ z, z = (rn r1 f).len := ⟨_, rfl⟩
        obtain ⟨cf, hcf⟩ : ∃ z, z = (rn r1 f).cap := ⟨_, rfl⟩
        rw [hba, ← hlb, ← hcb] at x0
        rw [← hrb] at x1
        rw [← hpb] at x2
        rw [hfa, ← hlf, ← hcf] at y0
        rw [← hrf] at y1
        rw [← hpf] at y2
        rw [← hrb, ← hpb, ← hrf, ← hpf] at hab2
        rw [← hlb] at hbl
        rw [← hlf] at hfl
        have hfr : w5.cell? ⟨bf, of, none⟩ = some (.int .i64 tf) := hfc
        have HAH := hidn (ahead_any bb ob lb cb bf of lf cf tb tf rb rf pb pf w5.drew hbl hfl hbc hfc)
        rw [← hab2] at HAH
        have HRD : Hid (∀ w', Below w5.heap.size w5 w' → w'.cell? ⟨h, 0, none⟩ = some (.slice (some ⟨g, 0, none⟩) n c) ∧ w'.cell? ⟨h, 1, none⟩ = some (.func (.func 30) #[] #[]) ∧ w'.cell? ⟨g, b * 3, none⟩ = some (.slice (some ⟨bb, ob, none⟩) lb cb) ∧ w'.cell? ⟨g, b * 3 + 1, none⟩ = some (.int .i64 rb) ∧ w'.cell? ⟨g, b * 3 + 2, none⟩ = some (.int .i64 pb) ∧ w'.cell? ⟨g, f * 3, none⟩ = some (.slice (some ⟨bf, of, none⟩) lf cf) ∧ w'.cell? ⟨g, f * 3 + 1, none⟩ = some (.int .i64 rf) ∧ w'.cell? ⟨g, f * 3 + 2, none⟩ = some (.int .i64 pf)) := hidn (fun w' hbb => ⟨(hbb.cell (block_lt_of_cell hc0)).trans hc0, (hbb.cell (block_lt_of_cell hc1)).trans hc1, (hbb.cell (block_lt_of_cell x0)).trans x0, (hbb.cell (block_lt_of_cell x1)).trans x1, (hbb.cell (block_lt_of_cell x2)).trans x2, (hbb.cell (block_lt_of_cell y0)).trans y0, (hbb.cell (block_lt_of_cell y1)).trans y1, (hbb.cell (block_lt_of_cell y2)).trans y2⟩)
        clear hc1 x0 x1 x2 y0 y1 y2 hfr hfc hbc hab2 hab htb htf hrb hpb hlb hcb hrf hpf hlf hcf hba hfa hb0 hf0
        go_wp2_with fail
        refine wp_region_noPanic ?_
        refine wp_region_held_drew (S := fun w' => Below w5.heap.size w5 w') (by kernel_rfl) ((Below.refl _ w5).drew) (fun hHeld => ?_)
        refine drawn_take (i := 0) (v := .pointer (some ⟨h, 0, none⟩)) (some 25) rfl rfl (by kernel_rfl) (by kernel_rfl) (by kernel_rfl) (fun _ _ _ h => h) (Or.inl ⟨by kernel_rfl, fun wq hw => by go_simp⟩) hHeld ?_
        simp only [Act.put, List.setIfInBounds_toArray, List.set_cons_succ, List.set_cons_zero]
        refine drawn_take (i := 1) (v := .pointer (some ⟨h, 0, none⟩)) (some 26) rfl rfl (by kernel_rfl) (by kernel_rfl) (by kernel_rfl) (fun _ _ _ h => h) (Or.inl ⟨by kernel_rfl, fun wq hw => by go_simp⟩) hHeld ?_
        simp only [Act.put, List.setIfInBounds_toArray, List.set_cons_succ, List.set_cons_zero]
        refine drawn_take (i := 2) (v := .pointer (some ⟨h, 1, none⟩)) (some 27) rfl rfl (by kernel_rfl) (by kernel_rfl) (by kernel_rfl) (fun _ _ _ h => h) (Or.inl ⟨by kernel_rfl, fun wq hw => by go_simp⟩) hHeld ?_
        simp only [Act.put, List.setIfInBounds_toArray, List.set_cons_succ, List.set_cons_zero]
        refine drawn_take (i := 3) (v := .func (.func 30) #[] #[]) (some 28) rfl rfl (by kernel_rfl) (by kernel_rfl) (by kernel_rfl) (fun _ _ _ h => h) (Or.inl ⟨by kernel_rfl, fun wq hw => by obtain ⟨q1, q2, q3, q4, q5, q6, q7, q8⟩ := HRD.out _ hw; go_simp⟩) hHeld ?_
        simp only [Act.put, List.setIfInBounds_toArray, List.set_cons_succ, List.set_cons_zero]
        refine drawn_take (i := 4) (v := .pointer (some ⟨h, 0, none⟩)) (some 29) rfl rfl (by kernel_rfl) (by kernel_rfl) (by kernel_rfl) (fun _ _ _ h => h) (Or.inl ⟨by kernel_rfl, fun wq hw => by go_simp⟩) hHeld ?_
        simp only [Act.put, List.setIfInBounds_toArray, List.set_cons_succ, List.set_cons_zero]
        refine drawn_take (i := 5) (v := .pointer (some ⟨h, 0, none⟩)) (some 30) rfl rfl (by kernel_rfl) (by kernel_rfl) (by kernel_rfl) (fun _ _ _ h => h) (Or.inl ⟨by kernel_rfl, fun wq hw => by go_simp⟩) hHeld ?_
        simp only [Act.put, List.setIfInBounds_toArray, List.set_cons_succ, List.set_cons_zero]
        refine drawn_take (i := 6) (v := .pointer (some ⟨h, 0, none⟩)) (some 31) rfl rfl (by kernel_rfl) (by kernel_rfl) (by kernel_rfl) (fun _ _ _ h => h) (Or.inl ⟨by kernel_rfl, fun wq hw => by go_simp⟩) hHeld ?_
        simp only [Act.put, List.setIfInBounds_toArray, List.set_cons_succ, List.set_cons_zero]
        refine drawn_take (i := 7) (v := .slice (some ⟨g, 0, none⟩) n c) (some 32) rfl rfl (by kernel_rfl) (by kernel_rfl) (by kernel_rfl) (fun _ _ _ h => h) (Or.inl ⟨by kernel_rfl, fun wq hw => by obtain ⟨q1, q2, q3, q4, q5, q6, q7, q8⟩ := HRD.out _ hw; go_simp⟩) hHeld ?_
        simp only [Act.put, List.setIfInBounds_toArray, List.set_cons_succ, List.set_cons_zero]
        refine drawn_take (i := 8) (v := .int .i64 (b : Int)) (some 33) rfl rfl (by kernel_rfl) (by kernel_rfl) (by kernel_rfl) (fun _ _ _ h => h) (Or.inl ⟨by kernel_rfl, fun wq hw => by go_simp⟩) hHeld ?_
        simp only [Act.put, List.setIfInBounds_toArray, List.set_cons_succ, List.set_cons_zero]
        refine drawn_take (i := 9) (v := .pointer (some ⟨g, b * 3, none⟩)) (some 34) rfl rfl (by kernel_rfl) (by kernel_rfl) (by kernel_rfl) (fun _ _ _ h => h) (Or.inl ⟨by kernel_rfl, fun wq hw => by go_simp <;> (intro h8; exfalso; omega)⟩) hHeld ?_
        simp only [Act.put, List.setIfInBounds_toArray, List.set_cons_succ, List.set_cons_zero]
        refine drawn_take (i := 10) (v := .agg #[.slice (some ⟨bb, ob, none⟩) lb cb, .int .i64 rb, .int .i64 pb]) (some 35) rfl rfl (by kernel_rfl) (by kernel_rfl) (by kernel_rfl) (fun _ _ _ h => h) (Or.inl ⟨by kernel_rfl, fun wq hw => by obtain ⟨q1, q2, q3, q4, q5, q6, q7, q8⟩ := HRD.out _ hw; go_simp⟩) hHeld ?_
        simp only [Act.put, List.setIfInBounds_toArray, List.set_cons_succ, List.set_cons_zero]
        refine drawn_take (i := 11) (v := .pointer (some ⟨h, 0, none⟩)) (some 36) rfl rfl (by kernel_rfl) (by kernel_rfl) (by kernel_rfl) (fun _ _ _ h => h) (Or.inl ⟨by kernel_rfl, fun wq hw => by go_simp⟩) hHeld ?_
        simp only [Act.put, List.setIfInBounds_toArray, List.set_cons_succ, List.set_cons_zero]
        refine drawn_take (i := 12) (v := .pointer (some ⟨h, 0, none⟩)) (some 37) rfl rfl (by kernel_rfl) (by kernel_rfl) (by kernel_rfl) (fun _ _ _ h => h) (Or.inl ⟨by kernel_rfl, fun wq hw => by go_simp⟩) hHeld ?_
        simp only [Act.put, List.setIfInBounds_toArray, List.set_cons_succ, List.set_cons_zero]
        refine drawn_take (i := 13) (v := .pointer (some ⟨h, 0, none⟩)) (some 38) rfl rfl (by kernel_rfl) (by kernel_rfl) (by kernel_rfl) (fun _ _ _ h => h) (Or.inl ⟨by kernel_rfl, fun wq hw => by go_simp⟩) hHeld ?_
        simp only [Act.put, List.setIfInBounds_toArray, List.set_cons_succ, List.set_cons_zero]
        refine drawn_take (i := 14) (v := .slice (some ⟨g, 0, none⟩) n c) (some 39) rfl rfl (by kernel_rfl) (by kernel_rfl) (by kernel_rfl) (fun _ _ _ h => h) (Or.inl ⟨by kernel_rfl, fun wq hw => by obtain ⟨q1, q2, q3, q4, q5, q6, q7, q8⟩ := HRD.out _ hw; go_simp⟩) hHeld ?_
        simp only [Act.put, List.setIfInBounds_toArray, List.set_cons_succ, List.set_cons_zero]
        refine drawn_take (i := 15) (v := .int .i64 (f : Int)) (some 40) rfl rfl (by kernel_rfl) (by kernel_rfl) (by kernel_rfl) (fun _ _ _ h => h) (Or.inl ⟨by kernel_rfl, fun wq hw => by go_simp⟩) hHeld ?_
        simp only [Act.put, List.setIfInBounds_toArray, List.set_cons_succ, List.set_cons_zero]
        refine drawn_take (i := 16) (v := .pointer (some ⟨g, f * 3, none⟩)) (some 41) rfl rfl (by kernel_rfl) (by kernel_rfl) (by kernel_rfl) (fun _ _ _ h => h) (Or.inl ⟨by kernel_rfl, fun wq hw => by go_simp <;> (intro h8; exfalso; omega)⟩) hHeld ?_
        simp only [Act.put, List.setIfInBounds_toArray, List.set_cons_succ, List.set_cons_zero]
        refine drawn_take (i := 17) (v := .agg #[.slice (some ⟨bf, of, none⟩) lf cf, .int .i64 rf, .int .i64 pf]) (some 42) rfl rfl (by kernel_rfl) (by kernel_rfl) (by kernel_rfl) (fun _ _ _ h => h) (Or.inl ⟨by kernel_rfl, fun wq hw => by obtain ⟨q1, q2, q3, q4, q5, q6, q7, q8⟩ := HRD.out _ hw; go_simp⟩) hHeld ?_
        simp only [Act.put, List.setIfInBounds_toArray, List.set_cons_succ, List.set_cons_zero]
        refine wpAnyH_ready (rs := [18]) (by kernel_rfl) (by simp) ?_
        refine rdy_callw (i := 18) rfl (by kernel_rfl) (some 43) rfl 30 #[.agg #[.slice (some ⟨bb, ob, none⟩) lb cb, .int .i64 rb, .int .i64 pb], .agg #[.slice (some ⟨bf, of, none⟩) lf cf, .int .i64 rf, .int .i64 pf]] (callV2_run (z := 28) (x := 35) (y := 42) rfl (by kernel_rfl) (fun _ _ => rfl) (by kernel_rfl) (by kernel_rfl)) (fun r w9 => r = .bool ab ∧ Below w5.heap.size w5 w9) (HAH.out.mono (by rintro e w9 ⟨rfl, h9⟩; exact ⟨_, rfl, rfl, ((Below.refl _ w5).drew).trans h9⟩)) (fun r w9 hR => ?_) rdy_nil
        obtain ⟨rfl, h9⟩ := hR
        refine ⟨h9, fun hHeld => ?_⟩
        simp only [Act.put, List.setIfInBounds_toArray, List.set_cons_succ, List.set_cons_zero]
        refine wpAnyH_done (by kernel_rfl) ?_ _
        refine NoPanic.normal ?_
        clear hHeld
        have H3 := hidn (H2.out.below h9)
        clear h9 hc0
        cases ab
        · have HMIN2 : Hid (∀ i, (i = p ∨ (2 * p + 1 ≤ i ∧ i < b + 1)) → i < n → aheadR T (rn r1 i) (rn r1 f) = false) := hidn (fun i hi hin => by
            by_cases hib : i = b
            · subst hib; exact HAB.out.symm
            · exact HMIN.out i (by omega) hin)
          go_wp2_with fail
          go_roundw
          case rel => first | exact ⟨f, b + 1, rfl, by first | rfl | simp, by omega, by omega, by omega, HMIN2, HAF, H3⟩ | (repeat apply Exists.intro; exact ⟨⟨f, b + 1, rfl, by first | rfl | simp, by omega, by omega, by omega, HMIN2, HAF, H3⟩, rfl⟩)
          case measure => simp [intOf]; omega
        · have HMIN2 : Hid (∀ i, (i = p ∨ (2 * p + 1 ≤ i ∧ i < b + 1)) → i < n → aheadR T (rn r1 i) (rn r1 b) = false) := hidn (fun i hi hin => by
            by_cases hib : i = b
            · subst hib; exact aheadR_irr _ _
            · have h1 := HMIN.out i (by omega) hin
              cases hq : aheadR T (rn r1 i) (rn r1 b) with
              | false => rfl
              | true =>
                have := aheadR_trans hq HAB.out.symm
                rw [h1] at this; cases this)
          have HAF2 : Hid (b ≠ p → aheadR T (rn r1 b) (rn r1 p) = true) := hidn (fun _ => by
            by_cases hfp : f = p
            · rw [← hfp]; exact HAB.out.symm
            · exact aheadR_trans HAB.out.symm (HAF.out hfp))
          go_wp2_with fail
          go_roundw
          case rel => first | exact ⟨b, b + 1, rfl, by first | rfl | simp, by omega, by omega, by omega, HMIN2, HAF2, H3⟩ | (repeat apply Exists.intro; exact ⟨⟨b, b + 1, rfl, by first | rfl | simp, by omega, by omega, by omega, HMIN2, HAF2, H3⟩, rfl⟩)
          case measure => simp [intOf]; omega
      · have HCH : Hid (∀ i, 0 < i → i < r1.length → (i - 1) / 2 = p → aheadR T (rn r1 i) (rn r1 f) = false) := hidn (fun i h0 hi hq => HMIN.out i (by rw [H2.out.1] at hi; omega) (by rw [← H2.out.1]; exact hi))
        have hstop : ¬ (b : Int) ≤ 2 * (p : Int) + 2 ∨ ((b : Int) ≤ 2 * (p : Int) + 2 ∧ ¬ (b : Int) < (n : Int)) := by omega
        by_cases hfp : f = p
        · subst hfp
          have HHP : Hid (Heap T r1) := hidn (sink_end HX.out HCH.out)
          have hd : ((f : Int) == (f : Int)) = true := beq_self_eq_true _
          rcases hstop with hs | ⟨hs1, hs2⟩
          · go_wp2_with fail
            exact bodyPost_ret (results_none rfl _ _ _) rfl ⟨rfl, r1, HP.out, HHP.out, H2.out⟩
          · go_wp2_with fail
            exact bodyPost_ret (results_none rfl _ _ _) rfl ⟨rfl, r1, HP.out, HHP.out, H2.out⟩
        · have hfn : f < n := by omega
          have hpn : p < n := by omega
          have hd : ((f : Int) == (p : Int)) = false := beq_eq_false_iff_ne.2 (by omega)
          have HXN : Hid (HeapX T (swapL r1 p f) f) := hidn (sink_step HX.out (by rw [H2.out.1]; exact hfn) (by omega) (by omega) (HAF.out hfp) HCH.out)
          have HPN : Hid ((swapL r1 p f).Perm rs) := hidn ((swapL_perm r1 p f (by rw [H2.out.1]; exact hpn) (by rw [H2.out.1]; exact hfn)).trans HP.out)
          have HS := hidn (hps_swap H2.out hpn hfn)
          have hfgt : p < f := by omega
          clear hfp
          rcases hstop with hs | ⟨hs1, hs2⟩
          · go_wp2_with fail
            refine HS.out.mono ?_
            rintro e w7 ⟨rfl, h7⟩
            have H7 := hidn h7
            clear h7
            go_wp2_with fail
            go_roundw
            case rel => first | exact ⟨f, swapL r1 p f, rfl, .inl hfn, HPN, HXN, H7⟩ | (repeat apply Exists.intro; exact ⟨⟨f, swapL r1 p f, rfl, .inl hfn, HPN, HXN, H7⟩, rfl⟩)
            case measure => simp [intOf]; omega
          · go_wp2_with fail
            refine HS.out.mono ?_
            rintro e w7 ⟨rfl, h7⟩
            have H7 := hidn h7
            clear h7
            go_wp2_with fail
            go_roundw
            case rel => first | exact ⟨f, swapL r1 p f, rfl, .inl hfn, HPN, HXN, H7⟩ | (repeat apply Exists.intro; exact ⟨⟨f, swapL r1 p f, rfl, .inl hfn, HPN, HXN, H7⟩, rfl⟩)
            case measure => simp [intOf]; omega
end Go.Proofs.Ytccjgciknaooaaa
