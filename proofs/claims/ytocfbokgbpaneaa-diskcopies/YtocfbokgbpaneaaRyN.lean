/- The document's disk: Remove. -/
import Derived.Test.YtocfbokgbpaneaaRyM
namespace Go.Proofs.Ytocfbokgbpaneaa
open Go.RowKit Go.Maps
set_option linter.unusedVariables false

set_option maxHeartbeats 1000000 in
theorem removeY_none (w : World) (y : Nat) (F : Nat → Prop) (fa : Option Addr) (fc : Nat) (R : List Yf) (room fuse : Int) (h : RyOf w y F fa fc R room fuse) (hF : ∀ k, F k → k < w.heap.size) (s : ByteArray) (hR : R.length ≤ 1000000) (hp : placeY R s = none) :
    Calls Try.prog 20 #[.pointer (some ⟨y, 0, none⟩), .string s] w fun e w' => e = .returned (.int .i64 30) ∧ Below w.heap.size w w' := by
  have HP := hidn (place_any w y F fa fc R room fuse h hF s hR)
  have e : placeI R s = -1 := by unfold placeI; rw [hp]
  rw [e] at HP
  clear e hp h hF
  go_enter Try.func20, Try.ntmps20
  go_wp2_with fail
  refine HP.out.mono ?_
  rintro e w1 ⟨rfl, hb1⟩
  go_wp2
  go_ret
  exact ⟨rfl, hb1⟩

set_option maxHeartbeats 1000000 in
theorem removeY_dead (w : World) (y : Nat) (F : Nat → Prop) (fa : Option Addr) (fc : Nat) (R : List Yf) (room : Int) (h : RyOf w y F fa fc R room 0) (hF : ∀ k, F k → k < w.heap.size) (s : ByteArray) (hR : R.length ≤ 1000000) (k : Nat) (hp : placeY R s = some k) :
    Calls Try.prog 20 #[.pointer (some ⟨y, 0, none⟩), .string s] w fun e w' => e = .returned (.int .i64 31) ∧ Below w.heap.size w w' := by
  have HP := hidn (place_any w y F fa fc R room 0 h hF s hR)
  have e : placeI R s = (k : Int) := by unfold placeI; rw [hp]
  rw [e] at HP
  have e1 : decide ((k : Int) < 0) = false := by simp
  have H := hidn h
  have HF := hidn hF
  clear e hp h hF
  go_enter Try.func20, Try.ntmps20
  go_wp2_with fail
  refine HP.out.mono ?_
  rintro e w1 ⟨rfl, hb1⟩
  go_wp2_with fail
  refine (stops_yes _ y F fa fc R room (H.out.below HF.out hb1)).mono ?_
  rintro e w2 ⟨rfl, rfl⟩
  go_wp2
  go_ret
  exact ⟨rfl, hb1⟩

set_option maxRecDepth 100000 in
set_option maxHeartbeats 16000000 in
theorem removeY_yes (w : World) (y : Nat) (F : Nat → Prop) (fa : Option Addr) (fc : Nat) (R : List Yf) (room fuse : Int) (h : RyOf w y F fa fc R room fuse) (hF : ∀ k, F k → k < w.heap.size) (s : ByteArray) (hR : R.length ≤ 1000000) (k : Nat) (hp : placeY R s = some k) (hf0 : fuse ≠ 0) (hf1 : -1 ≤ fuse) (hf2 : fuse ≤ 9223372036854775807) :
    Calls Try.prog 20 #[.pointer (some ⟨y, 0, none⟩), .string s] w (RyPost w y F (fun R2 => R2 = R.take k ++ R.drop (k + 1)) room (burnt fuse) 0) := by
  have HP := hidn (place_any w y F fa fc R room fuse h hF s hR)
  have e : placeI R s = (k : Int) := by unfold placeI; rw [hp]
  rw [e] at HP
  have e1 : decide ((k : Int) < 0) = false := by simp
  obtain ⟨f, hk, hfn⟩ := place_at hp
  have H := hidn h
  have HF := hidn hF
  have HSt := hidn (fun (wx : World) (hx : RyOf wx y F fa fc R room fuse) => stops_no wx y F fa fc R room fuse hx hf0 hf1 hf2)
  obtain ⟨N, hN⟩ : ∃ N, N = R.length := ⟨_, rfl⟩
  have hkl := (List.getElem?_eq_some_iff.1 hk).1
  obtain ⟨k1, hk1⟩ : ∃ k1, k1 = k + 1 := ⟨_, rfl⟩
  have hkN : k1 ≤ N := by omega
  have hNb : N ≤ 1000000 := by rw [hN]; exact hR
  have hkw : IntKind.i64.wrap ((k : Int) + 1) = (k1 : Int) := by rw [IntKind.wrap_i64]; omega
  have hkw' : (k : Int) + 1 = (k1 : Int) := by omega
  have hkw2 : IntKind.i64.wrap (k1 : Int) = (k1 : Int) := by rw [IntKind.wrap_i64]; omega
  obtain ⟨g, hfa, hz1, hz2, hz3⟩ := h.at hk
  subst hfa
  clear hz1 hz2 hz3 hfn
  have hNc : N ≤ fc := by
    rw [hN]
    rcases h.files.2 with ⟨h1, _⟩ | ⟨g', cap, cur, hv, _, _, hle, _⟩
    · cases h1
    · cases hv
      exact hle
  have hkc : k ≤ fc := by omega
  obtain ⟨m2, hm2⟩ : ∃ m2, m2 = N - k1 := ⟨_, rfl⟩
  obtain ⟨c2, hc2⟩ : ∃ c2, c2 = fc - k1 := ⟨_, rfl⟩
  obtain ⟨a2, ha2⟩ : ∃ a2 : Option Addr, a2 = if fc = k1 then some ⟨g, 0, none⟩ else some ⟨g, k1 * 2, none⟩ := ⟨_, rfl⟩
  obtain ⟨n9, hn9⟩ : ∃ n9, n9 = k + m2 := ⟨_, rfl⟩
  have hk0 : k ≤ 1000000 := by omega
  have hm0 : m2 ≤ 1000000 := by omega
  have hn9b : n9 ≤ 1000000 := by omega
  have HA2 := hidn ha2
  have HM2 := hidn hm2
  have HC2 := hidn hc2
  have HN9 := hidn hn9
  have HK1 := hidn hk1
  have HNN := hidn hN
  have HKL : Hid (k < N) := hidn (by omega)
  clear e hp h hF hk hN hkl hf0 hf1 hf2 hR ha2 hm2 hc2 hn9 hk1
  go_enter Try.func20, Try.ntmps20
  go_wp2_with fail
  refine HP.out.mono ?_
  clear HP
  rintro e w1 ⟨rfl, hb1⟩
  have hR1 := H.out.below HF.out hb1
  go_wp2_with fail
  refine (HSt.out _ hR1).mono ?_
  clear HSt
  rintro e w3 ⟨rfl, hR3, hG3, hs3⟩
  have hL3 : ∀ b, F b → b < w3.heap.size := fun b hb => by rw [hs3]; exact Nat.lt_of_lt_of_le (HF.out b hb) hb1.size
  have HG3 := hidn ((Gr.of (Keeps.of_below (F := F) hb1)).trans hG3)
  have c1 : w3.cell? ⟨y, 1, none⟩ = some (.slice (some ⟨g, 0, none⟩) R.length fc) := by rw [cell_of_row _ _ _ _ _ _ hR3.disk]; rfl
  have hyrow := hR3.disk
  rw [← HNN.out] at c1
  obtain ⟨n0, hn0⟩ : ∃ n0, n0 = w3.heap.size := ⟨_, rfl⟩
  have HNE := hidn hn0
  have ly0 : y < n0 := by rw [hn0]; exact hL3 y hR3.fy
  have lg0 : g < n0 := by rw [hn0]; exact hL3 g (hR3.ff _ rfl)
  have hcells := hR3.files.cells (g := g) rfl
  have HSrcA : Hid (∀ W, Below n0 w3 W → (cellsR (R.take k)).length = k * 2 ∧ (∀ u ∈ cellsR (R.take k), u.oneCell' = true) ∧ ((some ⟨g, 0, none⟩ : Option Addr) = none → k = 0) ∧ ∀ x, (some ⟨g, 0, none⟩ : Option Addr) = some x → ∀ j u, (cellsR (R.take k))[j]? = some u → W.cell? (x.add j) = some u) := hidn (fun W hb => ⟨by rw [cellsR_length, List.length_take, Nat.min_eq_left (by rw [← HNN.out]; exact Nat.le_of_lt HKL.out)], cellsR_one _, (fun e => by cases e), fun x hx j u hu => by
    cases hx
    have h1 := hcells j u (cellsR_takeY R k j u hu)
    rw [add_none] at h1 ⊢
    exact (hb.cell (p := ⟨g, 0 + j, none⟩) lg0).trans h1⟩)
  have HSrcB : Hid (∀ W, Below n0 w3 W → (cellsR (R.drop k1)).length = m2 * 2 ∧ (∀ u ∈ cellsR (R.drop k1), u.oneCell' = true) ∧ (a2 = none → m2 = 0) ∧ ∀ x, a2 = some x → ∀ j u, (cellsR (R.drop k1))[j]? = some u → W.cell? (x.add j) = some u) := hidn (fun W hb => ⟨by rw [cellsR_length, List.length_drop, ← HNN.out, HM2.out], cellsR_one _, (fun e => by rw [HA2.out] at e; split at e <;> cases e), fun x hx j u hu => by
    have hjl := (List.getElem?_eq_some_iff.1 hu).1
    rw [cellsR_length, List.length_drop, ← HNN.out] at hjl
    rw [HA2.out, if_neg (by omega)] at hx
    cases hx
    rw [cellsR_drop] at hu
    have h1 := hcells (k1 * 2 + j) u hu
    rw [add_none, Nat.zero_add] at h1
    rw [add_none]
    exact (hb.cell (p := ⟨g, k1 * 2 + j, none⟩) lg0).trans h1⟩)
  have HR3 := hidn (And.intro hR3 hL3)
  have hzk : 0 + k = k := by omega
  have hn9' : n9 = k + m2 := HN9.out
  clear hR1 hR3 hG3 hs3 hL3 hb1 H HF hcells hn0
  go_wp2_with fail
  have hyr2 := hyrow
  refine region_cut (fun l w' => ∃ (b14 : Nat) (aA : Option Addr) (cA : Nat) (aB : Option Addr) (cB : Nat) (W : World), l = [(13, .pointer (some ⟨y, 0, none⟩)), (14, .slice (some ⟨b14, 0, none⟩) 0 0), (15, .pointer (some ⟨y, 0, none⟩)), (16, .pointer (some ⟨y, 0, none⟩)), (17, .pointer (some ⟨y, 1, none⟩)), (18, .slice (some ⟨g, 0, none⟩) N fc), (19, .int .i64 (k : Int)), (20, .slice (some ⟨g, 0, none⟩) k fc), (21, .slice aA k cA), (22, .pointer (some ⟨y, 0, none⟩)), (23, .pointer (some ⟨y, 0, none⟩)), (24, .pointer (some ⟨y, 1, none⟩)), (25, .slice (some ⟨g, 0, none⟩) N fc), (26, .int .i64 (k : Int)), (27, .int .i64 (k1 : Int)), (28, .slice a2 m2 c2), (29, .slice aB n9 cB), (30, .pointer (some ⟨y, 0, none⟩)), (31, .pointer (some ⟨y, 1, none⟩))] ∧ w' = W.setCell ⟨y, 1, none⟩ (.slice aB n9 cB) ∧ Below n0 w3 W ∧ W.ownsRow n0 55 2 (.slice aB n9 cB) n9 (cellsR (R.take k) ++ cellsR (R.drop k1))) ?_ ?_
  · skip
    refine wp_region_noPanic ?_
    refine wp_region_held_drew (S := Keeps (fun b => b = y) w3) (by kernel_rfl) (⟨rfl, rfl, rfl, Nat.le_refl _, fun _ _ _ => rfl⟩) (fun hHeld => ?_)
    obtain ⟨Wd, hWd⟩ : ∃ Wd, Wd = w3.drew := ⟨_, rfl⟩
    have hle0 : n0 ≤ Wd.heap.size := by rw [hWd]; exact Nat.le_of_eq HNE.out
    have hK0 : Below n0 w3 Wd := by rw [hWd]; exact (Below.refl n0 w3).drew
    rw [← hWd] at hHeld ⊢
    clear hWd
    refine drawn_take (i := 0) (v := .pointer (some ⟨y, 0, none⟩)) (some 13) rfl rfl (by kernel_rfl) (by kernel_rfl) (by kernel_rfl) (fun _ _ _ h => h) (Or.inl ⟨by kernel_rfl, fun wq hw => by go_simp⟩) hHeld ?_
    simp only [Act.put, List.setIfInBounds_toArray, List.set_cons_succ, List.set_cons_zero]
    refine drawn_take (i := 2) (v := .pointer (some ⟨y, 0, none⟩)) (some 15) rfl rfl (by kernel_rfl) (by kernel_rfl) (by kernel_rfl) (fun _ _ _ h => h) (Or.inl ⟨by kernel_rfl, fun wq hw => by go_simp⟩) hHeld ?_
    simp only [Act.put, List.setIfInBounds_toArray, List.set_cons_succ, List.set_cons_zero]
    refine drawn_take (i := 3) (v := .pointer (some ⟨y, 0, none⟩)) (some 16) rfl rfl (by kernel_rfl) (by kernel_rfl) (by kernel_rfl) (fun _ _ _ h => h) (Or.inl ⟨by kernel_rfl, fun wq hw => by go_simp⟩) hHeld ?_
    simp only [Act.put, List.setIfInBounds_toArray, List.set_cons_succ, List.set_cons_zero]
    refine drawn_take (i := 4) (v := .pointer (some ⟨y, 1, none⟩)) (some 17) rfl rfl (by kernel_rfl) (by kernel_rfl) (by kernel_rfl) (fun _ _ _ h => h) (Or.inl ⟨by kernel_rfl, fun wq hw => by go_simp⟩) hHeld ?_
    simp only [Act.put, List.setIfInBounds_toArray, List.set_cons_succ, List.set_cons_zero]
    refine drawn_take (i := 6) (v := .int .i64 (k : Int)) (some 19) rfl rfl (by kernel_rfl) (by kernel_rfl) (by kernel_rfl) (fun _ _ _ h => h) (Or.inl ⟨by kernel_rfl, fun wq hw => by go_simp⟩) hHeld ?_
    simp only [Act.put, List.setIfInBounds_toArray, List.set_cons_succ, List.set_cons_zero]
    refine drawn_take (i := 9) (v := .pointer (some ⟨y, 0, none⟩)) (some 22) rfl rfl (by kernel_rfl) (by kernel_rfl) (by kernel_rfl) (fun _ _ _ h => h) (Or.inl ⟨by kernel_rfl, fun wq hw => by go_simp⟩) hHeld ?_
    simp only [Act.put, List.setIfInBounds_toArray, List.set_cons_succ, List.set_cons_zero]
    refine drawn_take (i := 10) (v := .pointer (some ⟨y, 0, none⟩)) (some 23) rfl rfl (by kernel_rfl) (by kernel_rfl) (by kernel_rfl) (fun _ _ _ h => h) (Or.inl ⟨by kernel_rfl, fun wq hw => by go_simp⟩) hHeld ?_
    simp only [Act.put, List.setIfInBounds_toArray, List.set_cons_succ, List.set_cons_zero]
    refine drawn_take (i := 11) (v := .pointer (some ⟨y, 1, none⟩)) (some 24) rfl rfl (by kernel_rfl) (by kernel_rfl) (by kernel_rfl) (fun _ _ _ h => h) (Or.inl ⟨by kernel_rfl, fun wq hw => by go_simp⟩) hHeld ?_
    simp only [Act.put, List.setIfInBounds_toArray, List.set_cons_succ, List.set_cons_zero]
    refine drawn_take (i := 13) (v := .int .i64 (k : Int)) (some 26) rfl rfl (by kernel_rfl) (by kernel_rfl) (by kernel_rfl) (fun _ _ _ h => h) (Or.inl ⟨by kernel_rfl, fun wq hw => by go_simp⟩) hHeld ?_
    simp only [Act.put, List.setIfInBounds_toArray, List.set_cons_succ, List.set_cons_zero]
    refine drawn_take (i := 14) (v := .int .i64 (k1 : Int)) (some 27) rfl rfl (by kernel_rfl) (by kernel_rfl) (by kernel_rfl) (fun _ _ _ h => h) (Or.inl ⟨by kernel_rfl, fun wq hw => by go_simp⟩) hHeld ?_
    simp only [Act.put, List.setIfInBounds_toArray, List.set_cons_succ, List.set_cons_zero]
    refine wpAnyH_ready (rs := [1, 5, 12]) (by kernel_rfl) (by simp) ?_
    refine rdy_val (i := 1) rfl rfl (some 14) rfl (.slice (some ⟨Wd.heap.size, 0, none⟩) 0 0) (Wd.alloc (.cells #[] 55)) (mk0f_run rfl) (keeps_of (hK0.alloc (hle0) _) HNE.out) (fun hHeld => ?_) ?_
    · simp only [Act.put, List.setIfInBounds_toArray, List.set_cons_succ, List.set_cons_zero]
      have he1 := heap_alloc_new Wd (.cells #[] 55)
      have hK1 := hK0.alloc (hle0) (.cells #[] 55)
      have hsz1 : Wd.heap.size ≤ (Wd.alloc (.cells #[] 55)).heap.size := by rw [World.size_alloc]; omega
      obtain ⟨b1, hb1⟩ : ∃ b, b = Wd.heap.size := ⟨_, rfl⟩
      obtain ⟨W1, hW1⟩ : ∃ W', W' = Wd.alloc (.cells #[] 55) := ⟨_, rfl⟩
      rw [← hW1] at hHeld hK1 hsz1
      rw [← hb1, ← hW1] at he1
      rw [← hb1, ← hW1]
      have hn1 : n0 ≤ b1 := by rw [hb1]; exact hle0
      have ho1 : W1.ownsRow n0 55 2 (.slice (some ⟨b1, 0, none⟩) 0 0) 0 [] := own_emptyN he1 hn1
      clear hW1
      refine wpAnyH_ready (rs := [5, 12]) (by kernel_rfl) (by simp) ?_
      have hx2 := (hK1.cell (p := ⟨y, 1, none⟩) ly0).trans c1
      refine rdy_val (i := 5) rfl rfl (some 18) rfl (.slice (some ⟨g, 0, none⟩) N fc) W1 (by have q := hx2; go_simp) (keeps_of hK1 HNE.out) (fun hHeld => ?_) ?_
      · simp only [Act.put, List.setIfInBounds_toArray, List.set_cons_succ, List.set_cons_zero]
        refine drawn_take (i := 7) (v := .slice (some ⟨g, 0, none⟩) k fc) (some 20) rfl rfl (by kernel_rfl) (by kernel_rfl) (by kernel_rfl) (fun _ _ _ h => h) (Or.inl ⟨by kernel_rfl, fun wq hw => slH_run (x := .tmp 18) (z := .tmp 19) (N := N) rfl (by kernel_rfl) (by kernel_rfl) hkc⟩) hHeld ?_
        simp only [Act.put, List.setIfInBounds_toArray, List.set_cons_succ, List.set_cons_zero]
        refine wpAnyH_ready (rs := [8, 12]) (by kernel_rfl) (by simp) ?_
        obtain ⟨ga2, gc2, W2, hr2, ho2, hg2⟩ := appFl W1 n0 (some ⟨b1, 0, none⟩) 0 0 [] ho1 (Nat.le_trans (hle0) hsz1) (some ⟨g, 0, none⟩) k fc (cellsR (R.take k)) (by omega) (HSrcA.out W1 hK1) k (by omega) (by omega)
        refine rdy_val (i := 8) rfl rfl (some 21) rfl (.slice ga2 k gc2) W2 (app_run3 (x := .tmp 14) (y := .tmp 20) rfl (by kernel_rfl) (by kernel_rfl) hr2) (keeps_of (hK1.grown hg2 (Nat.le_trans (hle0) hsz1) (fun b hb => (ho1.lt b hb).1)) HNE.out) (fun hHeld => ?_) ?_
        · simp only [Act.put, List.setIfInBounds_toArray, List.set_cons_succ, List.set_cons_zero]
          clear hr2
          have hK2 := hK1.grown hg2 (Nat.le_trans (hle0) hsz1) (fun b hb => (ho1.lt b hb).1)
          have hsz2 : W1.heap.size ≤ W2.heap.size := hg2.size
          refine wpAnyH_ready (rs := [12]) (by kernel_rfl) (by simp) ?_
          have hx3 := (hK2.cell (p := ⟨y, 1, none⟩) ly0).trans c1
          refine rdy_val (i := 12) rfl rfl (some 25) rfl (.slice (some ⟨g, 0, none⟩) N fc) W2 (by have q := hx3; go_simp) (keeps_of hK2 HNE.out) (fun hHeld => ?_) rdy_nil
          simp only [Act.put, List.setIfInBounds_toArray, List.set_cons_succ, List.set_cons_zero]
          refine drawn_take (i := 15) (v := .slice a2 m2 c2) (some 28) rfl rfl (by kernel_rfl) (by kernel_rfl) (by kernel_rfl) (fun _ _ _ h => h) (Or.inl ⟨by kernel_rfl, fun wq hw => slL_run (x := .tmp 25) (z := .tmp 27) (g := g) (N := N) (fc := fc) (k1 := k1) rfl (by kernel_rfl) (by kernel_rfl) hkN HA2 HM2 HC2⟩) hHeld ?_
          simp only [Act.put, List.setIfInBounds_toArray, List.set_cons_succ, List.set_cons_zero]
          refine wpAnyH_ready (rs := [16]) (by kernel_rfl) (by simp) ?_
          obtain ⟨ga3, gc3, W3, hr3, ho3, hg3⟩ := appFl W2 n0 ga2 k gc2 (cellsR (R.take k)) ho2 (Nat.le_trans (Nat.le_trans (hle0) hsz1) hsz2) a2 m2 c2 (cellsR (R.drop k1)) (by omega) (HSrcB.out W2 hK2) n9 (by omega) (by omega)
          refine rdy_val (i := 16) rfl rfl (some 29) rfl (.slice ga3 n9 gc3) W3 (app_run3 (x := .tmp 21) (y := .tmp 28) rfl (by kernel_rfl) (by kernel_rfl) hr3) (keeps_of (hK2.grown hg3 (Nat.le_trans (Nat.le_trans (hle0) hsz1) hsz2) (fun b hb => (ho2.lt b hb).1)) HNE.out) (fun hHeld => ?_) rdy_nil
          simp only [Act.put, List.setIfInBounds_toArray, List.set_cons_succ, List.set_cons_zero]
          clear hr3
          have hK3 := hK2.grown hg3 (Nat.le_trans (Nat.le_trans (hle0) hsz1) hsz2) (fun b hb => (ho2.lt b hb).1)
          have hsz3 : W2.heap.size ≤ W3.heap.size := hg3.size
          refine drawn_take (i := 17) (v := .pointer (some ⟨y, 0, none⟩)) (some 30) rfl rfl (by kernel_rfl) (by kernel_rfl) (by kernel_rfl) (fun _ _ _ h => h) (Or.inl ⟨by kernel_rfl, fun wq hw => by go_simp⟩) hHeld ?_
          simp only [Act.put, List.setIfInBounds_toArray, List.set_cons_succ, List.set_cons_zero]
          refine drawn_take (i := 18) (v := .pointer (some ⟨y, 1, none⟩)) (some 31) rfl rfl (by kernel_rfl) (by kernel_rfl) (by kernel_rfl) (fun _ _ _ h => h) (Or.inl ⟨by kernel_rfl, fun wq hw => by go_simp⟩) hHeld ?_
          simp only [Act.put, List.setIfInBounds_toArray, List.set_cons_succ, List.set_cons_zero]
          refine wpAnyH_ready (rs := [19]) (by kernel_rfl) (by simp) ?_
          have hcf := (hK3.cell (p := ⟨y, 1, none⟩) ly0).trans c1
          have hfz := frozen_of_row _ _ 1 _ _ ((hK3.block y ly0).trans hyrow)
          refine rdy_unit (i := 19) rfl rfl none rfl (W3.setCell ⟨y, 1, none⟩ (.slice ga3 n9 gc3)) (by go_simp) ((keeps_of (F := fun b => b = y) hK3 HNE.out).setCell (p := ⟨y, 1, none⟩) rfl _) (fun hHeld => ?_) rdy_nil
          simp only [Act.put]
          refine wpAnyH_done (by kernel_rfl) ?_ _
          refine NoPanic.normal ?_
          have hKeep := hHeld
          clear hHeld
          exact ⟨rfl, _, ⟨b1, ga2, gc2, ga3, gc3, W3, rfl, rfl, hK3, ho3⟩, by kernel_rfl⟩
        have hx2 := (hK1.cell (p := ⟨y, 1, none⟩) ly0).trans c1
        refine rdy_val (i := 12) rfl rfl (some 25) rfl (.slice (some ⟨g, 0, none⟩) N fc) W1 (by have q := hx2; go_simp) (keeps_of hK1 HNE.out) (fun hHeld => ?_) rdy_nil
        simp only [Act.put, List.setIfInBounds_toArray, List.set_cons_succ, List.set_cons_zero]
        refine drawn_take (i := 15) (v := .slice a2 m2 c2) (some 28) rfl rfl (by kernel_rfl) (by kernel_rfl) (by kernel_rfl) (fun _ _ _ h => h) (Or.inl ⟨by kernel_rfl, fun wq hw => slL_run (x := .tmp 25) (z := .tmp 27) (g := g) (N := N) (fc := fc) (k1 := k1) rfl (by kernel_rfl) (by kernel_rfl) hkN HA2 HM2 HC2⟩) hHeld ?_
        simp only [Act.put, List.setIfInBounds_toArray, List.set_cons_succ, List.set_cons_zero]
        refine wpAnyH_ready (rs := [8]) (by kernel_rfl) (by simp) ?_
        obtain ⟨ga2, gc2, W2, hr2, ho2, hg2⟩ := appFl W1 n0 (some ⟨b1, 0, none⟩) 0 0 [] ho1 (Nat.le_trans (hle0) hsz1) (some ⟨g, 0, none⟩) k fc (cellsR (R.take k)) (by omega) (HSrcA.out W1 hK1) k (by omega) (by omega)
        refine rdy_val (i := 8) rfl rfl (some 21) rfl (.slice ga2 k gc2) W2 (app_run3 (x := .tmp 14) (y := .tmp 20) rfl (by kernel_rfl) (by kernel_rfl) hr2) (keeps_of (hK1.grown hg2 (Nat.le_trans (hle0) hsz1) (fun b hb => (ho1.lt b hb).1)) HNE.out) (fun hHeld => ?_) rdy_nil
        simp only [Act.put, List.setIfInBounds_toArray, List.set_cons_succ, List.set_cons_zero]
        clear hr2
        have hK2 := hK1.grown hg2 (Nat.le_trans (hle0) hsz1) (fun b hb => (ho1.lt b hb).1)
        have hsz2 : W1.heap.size ≤ W2.heap.size := hg2.size
        refine wpAnyH_ready (rs := [16]) (by kernel_rfl) (by simp) ?_
        obtain ⟨ga3, gc3, W3, hr3, ho3, hg3⟩ := appFl W2 n0 ga2 k gc2 (cellsR (R.take k)) ho2 (Nat.le_trans (Nat.le_trans (hle0) hsz1) hsz2) a2 m2 c2 (cellsR (R.drop k1)) (by omega) (HSrcB.out W2 hK2) n9 (by omega) (by omega)
        refine rdy_val (i := 16) rfl rfl (some 29) rfl (.slice ga3 n9 gc3) W3 (app_run3 (x := .tmp 21) (y := .tmp 28) rfl (by kernel_rfl) (by kernel_rfl) hr3) (keeps_of (hK2.grown hg3 (Nat.le_trans (Nat.le_trans (hle0) hsz1) hsz2) (fun b hb => (ho2.lt b hb).1)) HNE.out) (fun hHeld => ?_) rdy_nil
        simp only [Act.put, List.setIfInBounds_toArray, List.set_cons_succ, List.set_cons_zero]
        clear hr3
        have hK3 := hK2.grown hg3 (Nat.le_trans (Nat.le_trans (hle0) hsz1) hsz2) (fun b hb => (ho2.lt b hb).1)
        have hsz3 : W2.heap.size ≤ W3.heap.size := hg3.size
        refine drawn_take (i := 17) (v := .pointer (some ⟨y, 0, none⟩)) (some 30) rfl rfl (by kernel_rfl) (by kernel_rfl) (by kernel_rfl) (fun _ _ _ h => h) (Or.inl ⟨by kernel_rfl, fun wq hw => by go_simp⟩) hHeld ?_
        simp only [Act.put, List.setIfInBounds_toArray, List.set_cons_succ, List.set_cons_zero]
        refine drawn_take (i := 18) (v := .pointer (some ⟨y, 1, none⟩)) (some 31) rfl rfl (by kernel_rfl) (by kernel_rfl) (by kernel_rfl) (fun _ _ _ h => h) (Or.inl ⟨by kernel_rfl, fun wq hw => by go_simp⟩) hHeld ?_
        simp only [Act.put, List.setIfInBounds_toArray, List.set_cons_succ, List.set_cons_zero]
        refine wpAnyH_ready (rs := [19]) (by kernel_rfl) (by simp) ?_
        have hcf := (hK3.cell (p := ⟨y, 1, none⟩) ly0).trans c1
        have hfz := frozen_of_row _ _ 1 _ _ ((hK3.block y ly0).trans hyrow)
        refine rdy_unit (i := 19) rfl rfl none rfl (W3.setCell ⟨y, 1, none⟩ (.slice ga3 n9 gc3)) (by go_simp) ((keeps_of (F := fun b => b = y) hK3 HNE.out).setCell (p := ⟨y, 1, none⟩) rfl _) (fun hHeld => ?_) rdy_nil
        simp only [Act.put]
        refine wpAnyH_done (by kernel_rfl) ?_ _
        refine NoPanic.normal ?_
        have hKeep := hHeld
        clear hHeld
        exact ⟨rfl, _, ⟨b1, ga2, gc2, ga3, gc3, W3, rfl, rfl, hK3, ho3⟩, by kernel_rfl⟩
      have hx2 := (hK1.cell (p := ⟨y, 1, none⟩) ly0).trans c1
      refine rdy_val (i := 12) rfl rfl (some 25) rfl (.slice (some ⟨g, 0, none⟩) N fc) W1 (by have q := hx2; go_simp) (keeps_of hK1 HNE.out) (fun hHeld => ?_) rdy_nil
      simp only [Act.put, List.setIfInBounds_toArray, List.set_cons_succ, List.set_cons_zero]
      refine drawn_take (i := 15) (v := .slice a2 m2 c2) (some 28) rfl rfl (by kernel_rfl) (by kernel_rfl) (by kernel_rfl) (fun _ _ _ h => h) (Or.inl ⟨by kernel_rfl, fun wq hw => slL_run (x := .tmp 25) (z := .tmp 27) (g := g) (N := N) (fc := fc) (k1 := k1) rfl (by kernel_rfl) (by kernel_rfl) hkN HA2 HM2 HC2⟩) hHeld ?_
      simp only [Act.put, List.setIfInBounds_toArray, List.set_cons_succ, List.set_cons_zero]
      refine wpAnyH_ready (rs := [5]) (by kernel_rfl) (by simp) ?_
      have hx2 := (hK1.cell (p := ⟨y, 1, none⟩) ly0).trans c1
      refine rdy_val (i := 5) rfl rfl (some 18) rfl (.slice (some ⟨g, 0, none⟩) N fc) W1 (by have q := hx2; go_simp) (keeps_of hK1 HNE.out) (fun hHeld => ?_) rdy_nil
      simp only [Act.put, List.setIfInBounds_toArray, List.set_cons_succ, List.set_cons_zero]
      refine drawn_take (i := 7) (v := .slice (some ⟨g, 0, none⟩) k fc) (some 20) rfl rfl (by kernel_rfl) (by kernel_rfl) (by kernel_rfl) (fun _ _ _ h => h) (Or.inl ⟨by kernel_rfl, fun wq hw => slH_run (x := .tmp 18) (z := .tmp 19) (N := N) rfl (by kernel_rfl) (by kernel_rfl) hkc⟩) hHeld ?_
      simp only [Act.put, List.setIfInBounds_toArray, List.set_cons_succ, List.set_cons_zero]
      refine wpAnyH_ready (rs := [8]) (by kernel_rfl) (by simp) ?_
      obtain ⟨ga2, gc2, W2, hr2, ho2, hg2⟩ := appFl W1 n0 (some ⟨b1, 0, none⟩) 0 0 [] ho1 (Nat.le_trans (hle0) hsz1) (some ⟨g, 0, none⟩) k fc (cellsR (R.take k)) (by omega) (HSrcA.out W1 hK1) k (by omega) (by omega)
      refine rdy_val (i := 8) rfl rfl (some 21) rfl (.slice ga2 k gc2) W2 (app_run3 (x := .tmp 14) (y := .tmp 20) rfl (by kernel_rfl) (by kernel_rfl) hr2) (keeps_of (hK1.grown hg2 (Nat.le_trans (hle0) hsz1) (fun b hb => (ho1.lt b hb).1)) HNE.out) (fun hHeld => ?_) rdy_nil
      simp only [Act.put, List.setIfInBounds_toArray, List.set_cons_succ, List.set_cons_zero]
      clear hr2
      have hK2 := hK1.grown hg2 (Nat.le_trans (hle0) hsz1) (fun b hb => (ho1.lt b hb).1)
      have hsz2 : W1.heap.size ≤ W2.heap.size := hg2.size
      refine wpAnyH_ready (rs := [16]) (by kernel_rfl) (by simp) ?_
      obtain ⟨ga3, gc3, W3, hr3, ho3, hg3⟩ := appFl W2 n0 ga2 k gc2 (cellsR (R.take k)) ho2 (Nat.le_trans (Nat.le_trans (hle0) hsz1) hsz2) a2 m2 c2 (cellsR (R.drop k1)) (by omega) (HSrcB.out W2 hK2) n9 (by omega) (by omega)
      refine rdy_val (i := 16) rfl rfl (some 29) rfl (.slice ga3 n9 gc3) W3 (app_run3 (x := .tmp 21) (y := .tmp 28) rfl (by kernel_rfl) (by kernel_rfl) hr3) (keeps_of (hK2.grown hg3 (Nat.le_trans (Nat.le_trans (hle0) hsz1) hsz2) (fun b hb => (ho2.lt b hb).1)) HNE.out) (fun hHeld => ?_) rdy_nil
      simp only [Act.put, List.setIfInBounds_toArray, List.set_cons_succ, List.set_cons_zero]
      clear hr3
      have hK3 := hK2.grown hg3 (Nat.le_trans (Nat.le_trans (hle0) hsz1) hsz2) (fun b hb => (ho2.lt b hb).1)
      have hsz3 : W2.heap.size ≤ W3.heap.size := hg3.size
      refine drawn_take (i := 17) (v := .pointer (some ⟨y, 0, none⟩)) (some 30) rfl rfl (by kernel_rfl) (by kernel_rfl) (by kernel_rfl) (fun _ _ _ h => h) (Or.inl ⟨by kernel_rfl, fun wq hw => by go_simp⟩) hHeld ?_
      simp only [Act.put, List.setIfInBounds_toArray, List.set_cons_succ, List.set_cons_zero]
      refine drawn_take (i := 18) (v := .pointer (some ⟨y, 1, none⟩)) (some 31) rfl rfl (by kernel_rfl) (by kernel_rfl) (by kernel_rfl) (fun _ _ _ h => h) (Or.inl ⟨by kernel_rfl, fun wq hw => by go_simp⟩) hHeld ?_
      simp only [Act.put, List.setIfInBounds_toArray, List.set_cons_succ, List.set_cons_zero]
      refine wpAnyH_ready (rs := [19]) (by kernel_rfl) (by simp) ?_
      have hcf := (hK3.cell (p := ⟨y, 1, none⟩) ly0).trans c1
      have hfz := frozen_of_row _ _ 1 _ _ ((hK3.block y ly0).trans hyrow)
      refine rdy_unit (i := 19) rfl rfl none rfl (W3.setCell ⟨y, 1, none⟩ (.slice ga3 n9 gc3)) (by go_simp) ((keeps_of (F := fun b => b = y) hK3 HNE.out).setCell (p := ⟨y, 1, none⟩) rfl _) (fun hHeld => ?_) rdy_nil
      simp only [Act.put]
      refine wpAnyH_done (by kernel_rfl) ?_ _
      refine NoPanic.normal ?_
      have hKeep := hHeld
      clear hHeld
      exact ⟨rfl, _, ⟨b1, ga2, gc2, ga3, gc3, W3, rfl, rfl, hK3, ho3⟩, by kernel_rfl⟩
    have hx1 := (hK0.cell (p := ⟨y, 1, none⟩) ly0).trans c1
    refine rdy_val (i := 5) rfl rfl (some 18) rfl (.slice (some ⟨g, 0, none⟩) N fc) Wd (by have q := hx1; go_simp) (keeps_of hK0 HNE.out) (fun hHeld => ?_) ?_
    · simp only [Act.put, List.setIfInBounds_toArray, List.set_cons_succ, List.set_cons_zero]
      refine drawn_take (i := 7) (v := .slice (some ⟨g, 0, none⟩) k fc) (some 20) rfl rfl (by kernel_rfl) (by kernel_rfl) (by kernel_rfl) (fun _ _ _ h => h) (Or.inl ⟨by kernel_rfl, fun wq hw => slH_run (x := .tmp 18) (z := .tmp 19) (N := N) rfl (by kernel_rfl) (by kernel_rfl) hkc⟩) hHeld ?_
      simp only [Act.put, List.setIfInBounds_toArray, List.set_cons_succ, List.set_cons_zero]
      refine wpAnyH_ready (rs := [1, 12]) (by kernel_rfl) (by simp) ?_
      refine rdy_val (i := 1) rfl rfl (some 14) rfl (.slice (some ⟨Wd.heap.size, 0, none⟩) 0 0) (Wd.alloc (.cells #[] 55)) (mk0f_run rfl) (keeps_of (hK0.alloc (hle0) _) HNE.out) (fun hHeld => ?_) ?_
      · simp only [Act.put, List.setIfInBounds_toArray, List.set_cons_succ, List.set_cons_zero]
        have he1 := heap_alloc_new Wd (.cells #[] 55)
        have hK1 := hK0.alloc (hle0) (.cells #[] 55)
        have hsz1 : Wd.heap.size ≤ (Wd.alloc (.cells #[] 55)).heap.size := by rw [World.size_alloc]; omega
        obtain ⟨b1, hb1⟩ : ∃ b, b = Wd.heap.size := ⟨_, rfl⟩
        obtain ⟨W1, hW1⟩ : ∃ W', W' = Wd.alloc (.cells #[] 55) := ⟨_, rfl⟩
        rw [← hW1] at hHeld hK1 hsz1
        rw [← hb1, ← hW1] at he1
        rw [← hb1, ← hW1]
        have hn1 : n0 ≤ b1 := by rw [hb1]; exact hle0
        have ho1 : W1.ownsRow n0 55 2 (.slice (some ⟨b1, 0, none⟩) 0 0) 0 [] := own_emptyN he1 hn1
        clear hW1
        refine wpAnyH_ready (rs := [8, 12]) (by kernel_rfl) (by simp) ?_
        obtain ⟨ga2, gc2, W2, hr2, ho2, hg2⟩ := appFl W1 n0 (some ⟨b1, 0, none⟩) 0 0 [] ho1 (Nat.le_trans (hle0) hsz1) (some ⟨g, 0, none⟩) k fc (cellsR (R.take k)) (by omega) (HSrcA.out W1 hK1) k (by omega) (by omega)
        refine rdy_val (i := 8) rfl rfl (some 21) rfl (.slice ga2 k gc2) W2 (app_run3 (x := .tmp 14) (y := .tmp 20) rfl (by kernel_rfl) (by kernel_rfl) hr2) (keeps_of (hK1.grown hg2 (Nat.le_trans (hle0) hsz1) (fun b hb => (ho1.lt b hb).1)) HNE.out) (fun hHeld => ?_) ?_
        · simp only [Act.put, List.setIfInBounds_toArray, List.set_cons_succ, List.set_cons_zero]
          clear hr2
          have hK2 := hK1.grown hg2 (Nat.le_trans (hle0) hsz1) (fun b hb => (ho1.lt b hb).1)
          have hsz2 : W1.heap.size ≤ W2.heap.size := hg2.size
          refine wpAnyH_ready (rs := [12]) (by kernel_rfl) (by simp) ?_
          have hx3 := (hK2.cell (p := ⟨y, 1, none⟩) ly0).trans c1
          refine rdy_val (i := 12) rfl rfl (some 25) rfl (.slice (some ⟨g, 0, none⟩) N fc) W2 (by have q := hx3; go_simp) (keeps_of hK2 HNE.out) (fun hHeld => ?_) rdy_nil
          simp only [Act.put, List.setIfInBounds_toArray, List.set_cons_succ, List.set_cons_zero]
          refine drawn_take (i := 15) (v := .slice a2 m2 c2) (some 28) rfl rfl (by kernel_rfl) (by kernel_rfl) (by kernel_rfl) (fun _ _ _ h => h) (Or.inl ⟨by kernel_rfl, fun wq hw => slL_run (x := .tmp 25) (z := .tmp 27) (g := g) (N := N) (fc := fc) (k1 := k1) rfl (by kernel_rfl) (by kernel_rfl) hkN HA2 HM2 HC2⟩) hHeld ?_
          simp only [Act.put, List.setIfInBounds_toArray, List.set_cons_succ, List.set_cons_zero]
          refine wpAnyH_ready (rs := [16]) (by kernel_rfl) (by simp) ?_
          obtain ⟨ga3, gc3, W3, hr3, ho3, hg3⟩ := appFl W2 n0 ga2 k gc2 (cellsR (R.take k)) ho2 (Nat.le_trans (Nat.le_trans (hle0) hsz1) hsz2) a2 m2 c2 (cellsR (R.drop k1)) (by omega) (HSrcB.out W2 hK2) n9 (by omega) (by omega)
          refine rdy_val (i := 16) rfl rfl (some 29) rfl (.slice ga3 n9 gc3) W3 (app_run3 (x := .tmp 21) (y := .tmp 28) rfl (by kernel_rfl) (by kernel_rfl) hr3) (keeps_of (hK2.grown hg3 (Nat.le_trans (Nat.le_trans (hle0) hsz1) hsz2) (fun b hb => (ho2.lt b hb).1)) HNE.out) (fun hHeld => ?_) rdy_nil
          simp only [Act.put, List.setIfInBounds_toArray, List.set_cons_succ, List.set_cons_zero]
          clear hr3
          have hK3 := hK2.grown hg3 (Nat.le_trans (Nat.le_trans (hle0) hsz1) hsz2) (fun b hb => (ho2.lt b hb).1)
          have hsz3 : W2.heap.size ≤ W3.heap.size := hg3.size
          refine drawn_take (i := 17) (v := .pointer (some ⟨y, 0, none⟩)) (some 30) rfl rfl (by kernel_rfl) (by kernel_rfl) (by kernel_rfl) (fun _ _ _ h => h) (Or.inl ⟨by kernel_rfl, fun wq hw => by go_simp⟩) hHeld ?_
          simp only [Act.put, List.setIfInBounds_toArray, List.set_cons_succ, List.set_cons_zero]
          refine drawn_take (i := 18) (v := .pointer (some ⟨y, 1, none⟩)) (some 31) rfl rfl (by kernel_rfl) (by kernel_rfl) (by kernel_rfl) (fun _ _ _ h => h) (Or.inl ⟨by kernel_rfl, fun wq hw => by go_simp⟩) hHeld ?_
          simp only [Act.put, List.setIfInBounds_toArray, List.set_cons_succ, List.set_cons_zero]
          refine wpAnyH_ready (rs := [19]) (by kernel_rfl) (by simp) ?_
          have hcf := (hK3.cell (p := ⟨y, 1, none⟩) ly0).trans c1
          have hfz := frozen_of_row _ _ 1 _ _ ((hK3.block y ly0).trans hyrow)
          refine rdy_unit (i := 19) rfl rfl none rfl (W3.setCell ⟨y, 1, none⟩ (.slice ga3 n9 gc3)) (by go_simp) ((keeps_of (F := fun b => b = y) hK3 HNE.out).setCell (p := ⟨y, 1, none⟩) rfl _) (fun hHeld => ?_) rdy_nil
          simp only [Act.put]
          refine wpAnyH_done (by kernel_rfl) ?_ _
          refine NoPanic.normal ?_
          have hKeep := hHeld
          clear hHeld
          exact ⟨rfl, _, ⟨b1, ga2, gc2, ga3, gc3, W3, rfl, rfl, hK3, ho3⟩, by kernel_rfl⟩
        have hx2 := (hK1.cell (p := ⟨y, 1, none⟩) ly0).trans c1
        refine rdy_val (i := 12) rfl rfl (some 25) rfl (.slice (some ⟨g, 0, none⟩) N fc) W1 (by have q := hx2; go_simp) (keeps_of hK1 HNE.out) (fun hHeld => ?_) rdy_nil
        simp only [Act.put, List.setIfInBounds_toArray, List.set_cons_succ, List.set_cons_zero]
        refine drawn_take (i := 15) (v := .slice a2 m2 c2) (some 28) rfl rfl (by kernel_rfl) (by kernel_rfl) (by kernel_rfl) (fun _ _ _ h => h) (Or.inl ⟨by kernel_rfl, fun wq hw => slL_run (x := .tmp 25) (z := .tmp 27) (g := g) (N := N) (fc := fc) (k1 := k1) rfl (by kernel_rfl) (by kernel_rfl) hkN HA2 HM2 HC2⟩) hHeld ?_
        simp only [Act.put, List.setIfInBounds_toArray, List.set_cons_succ, List.set_cons_zero]
        refine wpAnyH_ready (rs := [8]) (by kernel_rfl) (by simp) ?_
        obtain ⟨ga2, gc2, W2, hr2, ho2, hg2⟩ := appFl W1 n0 (some ⟨b1, 0, none⟩) 0 0 [] ho1 (Nat.le_trans (hle0) hsz1) (some ⟨g, 0, none⟩) k fc (cellsR (R.take k)) (by omega) (HSrcA.out W1 hK1) k (by omega) (by omega)
        refine rdy_val (i := 8) rfl rfl (some 21) rfl (.slice ga2 k gc2) W2 (app_run3 (x := .tmp 14) (y := .tmp 20) rfl (by kernel_rfl) (by kernel_rfl) hr2) (keeps_of (hK1.grown hg2 (Nat.le_trans (hle0) hsz1) (fun b hb => (ho1.lt b hb).1)) HNE.out) (fun hHeld => ?_) rdy_nil
        simp only [Act.put, List.setIfInBounds_toArray, List.set_cons_succ, List.set_cons_zero]
        clear hr2
        have hK2 := hK1.grown hg2 (Nat.le_trans (hle0) hsz1) (fun b hb => (ho1.lt b hb).1)
        have hsz2 : W1.heap.size ≤ W2.heap.size := hg2.size
        refine wpAnyH_ready (rs := [16]) (by kernel_rfl) (by simp) ?_
        obtain ⟨ga3, gc3, W3, hr3, ho3, hg3⟩ := appFl W2 n0 ga2 k gc2 (cellsR (R.take k)) ho2 (Nat.le_trans (Nat.le_trans (hle0) hsz1) hsz2) a2 m2 c2 (cellsR (R.drop k1)) (by omega) (HSrcB.out W2 hK2) n9 (by omega) (by omega)
        refine rdy_val (i := 16) rfl rfl (some 29) rfl (.slice ga3 n9 gc3) W3 (app_run3 (x := .tmp 21) (y := .tmp 28) rfl (by kernel_rfl) (by kernel_rfl) hr3) (keeps_of (hK2.grown hg3 (Nat.le_trans (Nat.le_trans (hle0) hsz1) hsz2) (fun b hb => (ho2.lt b hb).1)) HNE.out) (fun hHeld => ?_) rdy_nil
        simp only [Act.put, List.setIfInBounds_toArray, List.set_cons_succ, List.set_cons_zero]
        clear hr3
        have hK3 := hK2.grown hg3 (Nat.le_trans (Nat.le_trans (hle0) hsz1) hsz2) (fun b hb => (ho2.lt b hb).1)
        have hsz3 : W2.heap.size ≤ W3.heap.size := hg3.size
        refine drawn_take (i := 17) (v := .pointer (some ⟨y, 0, none⟩)) (some 30) rfl rfl (by kernel_rfl) (by kernel_rfl) (by kernel_rfl) (fun _ _ _ h => h) (Or.inl ⟨by kernel_rfl, fun wq hw => by go_simp⟩) hHeld ?_
        simp only [Act.put, List.setIfInBounds_toArray, List.set_cons_succ, List.set_cons_zero]
        refine drawn_take (i := 18) (v := .pointer (some ⟨y, 1, none⟩)) (some 31) rfl rfl (by kernel_rfl) (by kernel_rfl) (by kernel_rfl) (fun _ _ _ h => h) (Or.inl ⟨by kernel_rfl, fun wq hw => by go_simp⟩) hHeld ?_
        simp only [Act.put, List.setIfInBounds_toArray, List.set_cons_succ, List.set_cons_zero]
        refine wpAnyH_ready (rs := [19]) (by kernel_rfl) (by simp) ?_
        have hcf := (hK3.cell (p := ⟨y, 1, none⟩) ly0).trans c1
        have hfz := frozen_of_row _ _ 1 _ _ ((hK3.block y ly0).trans hyrow)
        refine rdy_unit (i := 19) rfl rfl none rfl (W3.setCell ⟨y, 1, none⟩ (.slice ga3 n9 gc3)) (by go_simp) ((keeps_of (F := fun b => b = y) hK3 HNE.out).setCell (p := ⟨y, 1, none⟩) rfl _) (fun hHeld => ?_) rdy_nil
        simp only [Act.put]
        refine wpAnyH_done (by kernel_rfl) ?_ _
        refine NoPanic.normal ?_
        have hKeep := hHeld
        clear hHeld
        exact ⟨rfl, _, ⟨b1, ga2, gc2, ga3, gc3, W3, rfl, rfl, hK3, ho3⟩, by kernel_rfl⟩
      have hx1 := (hK0.cell (p := ⟨y, 1, none⟩) ly0).trans c1
      refine rdy_val (i := 12) rfl rfl (some 25) rfl (.slice (some ⟨g, 0, none⟩) N fc) Wd (by have q := hx1; go_simp) (keeps_of hK0 HNE.out) (fun hHeld => ?_) rdy_nil
      simp only [Act.put, List.setIfInBounds_toArray, List.set_cons_succ, List.set_cons_zero]
      refine drawn_take (i := 15) (v := .slice a2 m2 c2) (some 28) rfl rfl (by kernel_rfl) (by kernel_rfl) (by kernel_rfl) (fun _ _ _ h => h) (Or.inl ⟨by kernel_rfl, fun wq hw => slL_run (x := .tmp 25) (z := .tmp 27) (g := g) (N := N) (fc := fc) (k1 := k1) rfl (by kernel_rfl) (by kernel_rfl) hkN HA2 HM2 HC2⟩) hHeld ?_
      simp only [Act.put, List.setIfInBounds_toArray, List.set_cons_succ, List.set_cons_zero]
      refine wpAnyH_ready (rs := [1]) (by kernel_rfl) (by simp) ?_
      refine rdy_val (i := 1) rfl rfl (some 14) rfl (.slice (some ⟨Wd.heap.size, 0, none⟩) 0 0) (Wd.alloc (.cells #[] 55)) (mk0f_run rfl) (keeps_of (hK0.alloc (hle0) _) HNE.out) (fun hHeld => ?_) rdy_nil
      simp only [Act.put, List.setIfInBounds_toArray, List.set_cons_succ, List.set_cons_zero]
      have he1 := heap_alloc_new Wd (.cells #[] 55)
      have hK1 := hK0.alloc (hle0) (.cells #[] 55)
      have hsz1 : Wd.heap.size ≤ (Wd.alloc (.cells #[] 55)).heap.size := by rw [World.size_alloc]; omega
      obtain ⟨b1, hb1⟩ : ∃ b, b = Wd.heap.size := ⟨_, rfl⟩
      obtain ⟨W1, hW1⟩ : ∃ W', W' = Wd.alloc (.cells #[] 55) := ⟨_, rfl⟩
      rw [← hW1] at hHeld hK1 hsz1
      rw [← hb1, ← hW1] at he1
      rw [← hb1, ← hW1]
      have hn1 : n0 ≤ b1 := by rw [hb1]; exact hle0
      have ho1 : W1.ownsRow n0 55 2 (.slice (some ⟨b1, 0, none⟩) 0 0) 0 [] := own_emptyN he1 hn1
      clear hW1
      refine wpAnyH_ready (rs := [8]) (by kernel_rfl) (by simp) ?_
      obtain ⟨ga2, gc2, W2, hr2, ho2, hg2⟩ := appFl W1 n0 (some ⟨b1, 0, none⟩) 0 0 [] ho1 (Nat.le_trans (hle0) hsz1) (some ⟨g, 0, none⟩) k fc (cellsR (R.take k)) (by omega) (HSrcA.out W1 hK1) k (by omega) (by omega)
      refine rdy_val (i := 8) rfl rfl (some 21) rfl (.slice ga2 k gc2) W2 (app_run3 (x := .tmp 14) (y := .tmp 20) rfl (by kernel_rfl) (by kernel_rfl) hr2) (keeps_of (hK1.grown hg2 (Nat.le_trans (hle0) hsz1) (fun b hb => (ho1.lt b hb).1)) HNE.out) (fun hHeld => ?_) rdy_nil
      simp only [Act.put, List.setIfInBounds_toArray, List.set_cons_succ, List.set_cons_zero]
      clear hr2
      have hK2 := hK1.grown hg2 (Nat.le_trans (hle0) hsz1) (fun b hb => (ho1.lt b hb).1)
      have hsz2 : W1.heap.size ≤ W2.heap.size := hg2.size
      refine wpAnyH_ready (rs := [16]) (by kernel_rfl) (by simp) ?_
      obtain ⟨ga3, gc3, W3, hr3, ho3, hg3⟩ := appFl W2 n0 ga2 k gc2 (cellsR (R.take k)) ho2 (Nat.le_trans (Nat.le_trans (hle0) hsz1) hsz2) a2 m2 c2 (cellsR (R.drop k1)) (by omega) (HSrcB.out W2 hK2) n9 (by omega) (by omega)
      refine rdy_val (i := 16) rfl rfl (some 29) rfl (.slice ga3 n9 gc3) W3 (app_run3 (x := .tmp 21) (y := .tmp 28) rfl (by kernel_rfl) (by kernel_rfl) hr3) (keeps_of (hK2.grown hg3 (Nat.le_trans (Nat.le_trans (hle0) hsz1) hsz2) (fun b hb => (ho2.lt b hb).1)) HNE.out) (fun hHeld => ?_) rdy_nil
      simp only [Act.put, List.setIfInBounds_toArray, List.set_cons_succ, List.set_cons_zero]
      clear hr3
      have hK3 := hK2.grown hg3 (Nat.le_trans (Nat.le_trans (hle0) hsz1) hsz2) (fun b hb => (ho2.lt b hb).1)
      have hsz3 : W2.heap.size ≤ W3.heap.size := hg3.size
      refine drawn_take (i := 17) (v := .pointer (some ⟨y, 0, none⟩)) (some 30) rfl rfl (by kernel_rfl) (by kernel_rfl) (by kernel_rfl) (fun _ _ _ h => h) (Or.inl ⟨by kernel_rfl, fun wq hw => by go_simp⟩) hHeld ?_
      simp only [Act.put, List.setIfInBounds_toArray, List.set_cons_succ, List.set_cons_zero]
      refine drawn_take (i := 18) (v := .pointer (some ⟨y, 1, none⟩)) (some 31) rfl rfl (by kernel_rfl) (by kernel_rfl) (by kernel_rfl) (fun _ _ _ h => h) (Or.inl ⟨by kernel_rfl, fun wq hw => by go_simp⟩) hHeld ?_
      simp only [Act.put, List.setIfInBounds_toArray, List.set_cons_succ, List.set_cons_zero]
      refine wpAnyH_ready (rs := [19]) (by kernel_rfl) (by simp) ?_
      have hcf := (hK3.cell (p := ⟨y, 1, none⟩) ly0).trans c1
      have hfz := frozen_of_row _ _ 1 _ _ ((hK3.block y ly0).trans hyrow)
      refine rdy_unit (i := 19) rfl rfl none rfl (W3.setCell ⟨y, 1, none⟩ (.slice ga3 n9 gc3)) (by go_simp) ((keeps_of (F := fun b => b = y) hK3 HNE.out).setCell (p := ⟨y, 1, none⟩) rfl _) (fun hHeld => ?_) rdy_nil
      simp only [Act.put]
      refine wpAnyH_done (by kernel_rfl) ?_ _
      refine NoPanic.normal ?_
      have hKeep := hHeld
      clear hHeld
      exact ⟨rfl, _, ⟨b1, ga2, gc2, ga3, gc3, W3, rfl, rfl, hK3, ho3⟩, by kernel_rfl⟩
    have hx1 := (hK0.cell (p := ⟨y, 1, none⟩) ly0).trans c1
    refine rdy_val (i := 12) rfl rfl (some 25) rfl (.slice (some ⟨g, 0, none⟩) N fc) Wd (by have q := hx1; go_simp) (keeps_of hK0 HNE.out) (fun hHeld => ?_) rdy_nil
    simp only [Act.put, List.setIfInBounds_toArray, List.set_cons_succ, List.set_cons_zero]
    refine drawn_take (i := 15) (v := .slice a2 m2 c2) (some 28) rfl rfl (by kernel_rfl) (by kernel_rfl) (by kernel_rfl) (fun _ _ _ h => h) (Or.inl ⟨by kernel_rfl, fun wq hw => slL_run (x := .tmp 25) (z := .tmp 27) (g := g) (N := N) (fc := fc) (k1 := k1) rfl (by kernel_rfl) (by kernel_rfl) hkN HA2 HM2 HC2⟩) hHeld ?_
    simp only [Act.put, List.setIfInBounds_toArray, List.set_cons_succ, List.set_cons_zero]
    refine wpAnyH_ready (rs := [1, 5]) (by kernel_rfl) (by simp) ?_
    refine rdy_val (i := 1) rfl rfl (some 14) rfl (.slice (some ⟨Wd.heap.size, 0, none⟩) 0 0) (Wd.alloc (.cells #[] 55)) (mk0f_run rfl) (keeps_of (hK0.alloc (hle0) _) HNE.out) (fun hHeld => ?_) ?_
    · simp only [Act.put, List.setIfInBounds_toArray, List.set_cons_succ, List.set_cons_zero]
      have he1 := heap_alloc_new Wd (.cells #[] 55)
      have hK1 := hK0.alloc (hle0) (.cells #[] 55)
      have hsz1 : Wd.heap.size ≤ (Wd.alloc (.cells #[] 55)).heap.size := by rw [World.size_alloc]; omega
      obtain ⟨b1, hb1⟩ : ∃ b, b = Wd.heap.size := ⟨_, rfl⟩
      obtain ⟨W1, hW1⟩ : ∃ W', W' = Wd.alloc (.cells #[] 55) := ⟨_, rfl⟩
      rw [← hW1] at hHeld hK1 hsz1
      rw [← hb1, ← hW1] at he1
      rw [← hb1, ← hW1]
      have hn1 : n0 ≤ b1 := by rw [hb1]; exact hle0
      have ho1 : W1.ownsRow n0 55 2 (.slice (some ⟨b1, 0, none⟩) 0 0) 0 [] := own_emptyN he1 hn1
      clear hW1
      refine wpAnyH_ready (rs := [5]) (by kernel_rfl) (by simp) ?_
      have hx2 := (hK1.cell (p := ⟨y, 1, none⟩) ly0).trans c1
      refine rdy_val (i := 5) rfl rfl (some 18) rfl (.slice (some ⟨g, 0, none⟩) N fc) W1 (by have q := hx2; go_simp) (keeps_of hK1 HNE.out) (fun hHeld => ?_) rdy_nil
      simp only [Act.put, List.setIfInBounds_toArray, List.set_cons_succ, List.set_cons_zero]
      refine drawn_take (i := 7) (v := .slice (some ⟨g, 0, none⟩) k fc) (some 20) rfl rfl (by kernel_rfl) (by kernel_rfl) (by kernel_rfl) (fun _ _ _ h => h) (Or.inl ⟨by kernel_rfl, fun wq hw => slH_run (x := .tmp 18) (z := .tmp 19) (N := N) rfl (by kernel_rfl) (by kernel_rfl) hkc⟩) hHeld ?_
      simp only [Act.put, List.setIfInBounds_toArray, List.set_cons_succ, List.set_cons_zero]
      refine wpAnyH_ready (rs := [8]) (by kernel_rfl) (by simp) ?_
      obtain ⟨ga2, gc2, W2, hr2, ho2, hg2⟩ := appFl W1 n0 (some ⟨b1, 0, none⟩) 0 0 [] ho1 (Nat.le_trans (hle0) hsz1) (some ⟨g, 0, none⟩) k fc (cellsR (R.take k)) (by omega) (HSrcA.out W1 hK1) k (by omega) (by omega)
      refine rdy_val (i := 8) rfl rfl (some 21) rfl (.slice ga2 k gc2) W2 (app_run3 (x := .tmp 14) (y := .tmp 20) rfl (by kernel_rfl) (by kernel_rfl) hr2) (keeps_of (hK1.grown hg2 (Nat.le_trans (hle0) hsz1) (fun b hb => (ho1.lt b hb).1)) HNE.out) (fun hHeld => ?_) rdy_nil
      simp only [Act.put, List.setIfInBounds_toArray, List.set_cons_succ, List.set_cons_zero]
      clear hr2
      have hK2 := hK1.grown hg2 (Nat.le_trans (hle0) hsz1) (fun b hb => (ho1.lt b hb).1)
      have hsz2 : W1.heap.size ≤ W2.heap.size := hg2.size
      refine wpAnyH_ready (rs := [16]) (by kernel_rfl) (by simp) ?_
      obtain ⟨ga3, gc3, W3, hr3, ho3, hg3⟩ := appFl W2 n0 ga2 k gc2 (cellsR (R.take k)) ho2 (Nat.le_trans (Nat.le_trans (hle0) hsz1) hsz2) a2 m2 c2 (cellsR (R.drop k1)) (by omega) (HSrcB.out W2 hK2) n9 (by omega) (by omega)
      refine rdy_val (i := 16) rfl rfl (some 29) rfl (.slice ga3 n9 gc3) W3 (app_run3 (x := .tmp 21) (y := .tmp 28) rfl (by kernel_rfl) (by kernel_rfl) hr3) (keeps_of (hK2.grown hg3 (Nat.le_trans (Nat.le_trans (hle0) hsz1) hsz2) (fun b hb => (ho2.lt b hb).1)) HNE.out) (fun hHeld => ?_) rdy_nil
      simp only [Act.put, List.setIfInBounds_toArray, List.set_cons_succ, List.set_cons_zero]
      clear hr3
      have hK3 := hK2.grown hg3 (Nat.le_trans (Nat.le_trans (hle0) hsz1) hsz2) (fun b hb => (ho2.lt b hb).1)
      have hsz3 : W2.heap.size ≤ W3.heap.size := hg3.size
      refine drawn_take (i := 17) (v := .pointer (some ⟨y, 0, none⟩)) (some 30) rfl rfl (by kernel_rfl) (by kernel_rfl) (by kernel_rfl) (fun _ _ _ h => h) (Or.inl ⟨by kernel_rfl, fun wq hw => by go_simp⟩) hHeld ?_
      simp only [Act.put, List.setIfInBounds_toArray, List.set_cons_succ, List.set_cons_zero]
      refine drawn_take (i := 18) (v := .pointer (some ⟨y, 1, none⟩)) (some 31) rfl rfl (by kernel_rfl) (by kernel_rfl) (by kernel_rfl) (fun _ _ _ h => h) (Or.inl ⟨by kernel_rfl, fun wq hw => by go_simp⟩) hHeld ?_
      simp only [Act.put, List.setIfInBounds_toArray, List.set_cons_succ, List.set_cons_zero]
      refine wpAnyH_ready (rs := [19]) (by kernel_rfl) (by simp) ?_
      have hcf := (hK3.cell (p := ⟨y, 1, none⟩) ly0).trans c1
      have hfz := frozen_of_row _ _ 1 _ _ ((hK3.block y ly0).trans hyrow)
      refine rdy_unit (i := 19) rfl rfl none rfl (W3.setCell ⟨y, 1, none⟩ (.slice ga3 n9 gc3)) (by go_simp) ((keeps_of (F := fun b => b = y) hK3 HNE.out).setCell (p := ⟨y, 1, none⟩) rfl _) (fun hHeld => ?_) rdy_nil
      simp only [Act.put]
      refine wpAnyH_done (by kernel_rfl) ?_ _
      refine NoPanic.normal ?_
      have hKeep := hHeld
      clear hHeld
      exact ⟨rfl, _, ⟨b1, ga2, gc2, ga3, gc3, W3, rfl, rfl, hK3, ho3⟩, by kernel_rfl⟩
    have hx1 := (hK0.cell (p := ⟨y, 1, none⟩) ly0).trans c1
    refine rdy_val (i := 5) rfl rfl (some 18) rfl (.slice (some ⟨g, 0, none⟩) N fc) Wd (by have q := hx1; go_simp) (keeps_of hK0 HNE.out) (fun hHeld => ?_) rdy_nil
    simp only [Act.put, List.setIfInBounds_toArray, List.set_cons_succ, List.set_cons_zero]
    refine drawn_take (i := 7) (v := .slice (some ⟨g, 0, none⟩) k fc) (some 20) rfl rfl (by kernel_rfl) (by kernel_rfl) (by kernel_rfl) (fun _ _ _ h => h) (Or.inl ⟨by kernel_rfl, fun wq hw => slH_run (x := .tmp 18) (z := .tmp 19) (N := N) rfl (by kernel_rfl) (by kernel_rfl) hkc⟩) hHeld ?_
    simp only [Act.put, List.setIfInBounds_toArray, List.set_cons_succ, List.set_cons_zero]
    refine wpAnyH_ready (rs := [1]) (by kernel_rfl) (by simp) ?_
    refine rdy_val (i := 1) rfl rfl (some 14) rfl (.slice (some ⟨Wd.heap.size, 0, none⟩) 0 0) (Wd.alloc (.cells #[] 55)) (mk0f_run rfl) (keeps_of (hK0.alloc (hle0) _) HNE.out) (fun hHeld => ?_) rdy_nil
    simp only [Act.put, List.setIfInBounds_toArray, List.set_cons_succ, List.set_cons_zero]
    have he1 := heap_alloc_new Wd (.cells #[] 55)
    have hK1 := hK0.alloc (hle0) (.cells #[] 55)
    have hsz1 : Wd.heap.size ≤ (Wd.alloc (.cells #[] 55)).heap.size := by rw [World.size_alloc]; omega
    obtain ⟨b1, hb1⟩ : ∃ b, b = Wd.heap.size := ⟨_, rfl⟩
    obtain ⟨W1, hW1⟩ : ∃ W', W' = Wd.alloc (.cells #[] 55) := ⟨_, rfl⟩
    rw [← hW1] at hHeld hK1 hsz1
    rw [← hb1, ← hW1] at he1
    rw [← hb1, ← hW1]
    have hn1 : n0 ≤ b1 := by rw [hb1]; exact hle0
    have ho1 : W1.ownsRow n0 55 2 (.slice (some ⟨b1, 0, none⟩) 0 0) 0 [] := own_emptyN he1 hn1
    clear hW1
    refine wpAnyH_ready (rs := [8]) (by kernel_rfl) (by simp) ?_
    obtain ⟨ga2, gc2, W2, hr2, ho2, hg2⟩ := appFl W1 n0 (some ⟨b1, 0, none⟩) 0 0 [] ho1 (Nat.le_trans (hle0) hsz1) (some ⟨g, 0, none⟩) k fc (cellsR (R.take k)) (by omega) (HSrcA.out W1 hK1) k (by omega) (by omega)
    refine rdy_val (i := 8) rfl rfl (some 21) rfl (.slice ga2 k gc2) W2 (app_run3 (x := .tmp 14) (y := .tmp 20) rfl (by kernel_rfl) (by kernel_rfl) hr2) (keeps_of (hK1.grown hg2 (Nat.le_trans (hle0) hsz1) (fun b hb => (ho1.lt b hb).1)) HNE.out) (fun hHeld => ?_) rdy_nil
    simp only [Act.put, List.setIfInBounds_toArray, List.set_cons_succ, List.set_cons_zero]
    clear hr2
    have hK2 := hK1.grown hg2 (Nat.le_trans (hle0) hsz1) (fun b hb => (ho1.lt b hb).1)
    have hsz2 : W1.heap.size ≤ W2.heap.size := hg2.size
    refine wpAnyH_ready (rs := [16]) (by kernel_rfl) (by simp) ?_
    obtain ⟨ga3, gc3, W3, hr3, ho3, hg3⟩ := appFl W2 n0 ga2 k gc2 (cellsR (R.take k)) ho2 (Nat.le_trans (Nat.le_trans (hle0) hsz1) hsz2) a2 m2 c2 (cellsR (R.drop k1)) (by omega) (HSrcB.out W2 hK2) n9 (by omega) (by omega)
    refine rdy_val (i := 16) rfl rfl (some 29) rfl (.slice ga3 n9 gc3) W3 (app_run3 (x := .tmp 21) (y := .tmp 28) rfl (by kernel_rfl) (by kernel_rfl) hr3) (keeps_of (hK2.grown hg3 (Nat.le_trans (Nat.le_trans (hle0) hsz1) hsz2) (fun b hb => (ho2.lt b hb).1)) HNE.out) (fun hHeld => ?_) rdy_nil
    simp only [Act.put, List.setIfInBounds_toArray, List.set_cons_succ, List.set_cons_zero]
    clear hr3
    have hK3 := hK2.grown hg3 (Nat.le_trans (Nat.le_trans (hle0) hsz1) hsz2) (fun b hb => (ho2.lt b hb).1)
    have hsz3 : W2.heap.size ≤ W3.heap.size := hg3.size
    refine drawn_take (i := 17) (v := .pointer (some ⟨y, 0, none⟩)) (some 30) rfl rfl (by kernel_rfl) (by kernel_rfl) (by kernel_rfl) (fun _ _ _ h => h) (Or.inl ⟨by kernel_rfl, fun wq hw => by go_simp⟩) hHeld ?_
    simp only [Act.put, List.setIfInBounds_toArray, List.set_cons_succ, List.set_cons_zero]
    refine drawn_take (i := 18) (v := .pointer (some ⟨y, 1, none⟩)) (some 31) rfl rfl (by kernel_rfl) (by kernel_rfl) (by kernel_rfl) (fun _ _ _ h => h) (Or.inl ⟨by kernel_rfl, fun wq hw => by go_simp⟩) hHeld ?_
    simp only [Act.put, List.setIfInBounds_toArray, List.set_cons_succ, List.set_cons_zero]
    refine wpAnyH_ready (rs := [19]) (by kernel_rfl) (by simp) ?_
    have hcf := (hK3.cell (p := ⟨y, 1, none⟩) ly0).trans c1
    have hfz := frozen_of_row _ _ 1 _ _ ((hK3.block y ly0).trans hyrow)
    refine rdy_unit (i := 19) rfl rfl none rfl (W3.setCell ⟨y, 1, none⟩ (.slice ga3 n9 gc3)) (by go_simp) ((keeps_of (F := fun b => b = y) hK3 HNE.out).setCell (p := ⟨y, 1, none⟩) rfl _) (fun hHeld => ?_) rdy_nil
    simp only [Act.put]
    refine wpAnyH_done (by kernel_rfl) ?_ _
    refine NoPanic.normal ?_
    have hKeep := hHeld
    clear hHeld
    exact ⟨rfl, _, ⟨b1, ga2, gc2, ga3, gc3, W3, rfl, rfl, hK3, ho3⟩, by kernel_rfl⟩
  · rintro l9 w9 ⟨b14, aA, cA, aB, cB, W, rfl, rfl, hBW, hoW⟩
    obtain ⟨hR3, hL3⟩ := HR3.out
    have hlen : (R.take k ++ R.drop k1).length = n9 := by
      rw [List.length_append, List.length_take, List.length_drop, ← HNN.out, Nat.min_eq_left (Nat.le_of_lt HKL.out), HN9.out, HM2.out]
    have hoth : ∀ b, b ≠ y → (W.setCell ⟨y, 1, none⟩ (.slice aB n9 cB)).heap[b]? = W.heap[b]? := fun b hb => Below.heap_setCell W ⟨y, 1, none⟩ _ b hb
    have hle : w3.heap.size = n0 := HNE.out.symm
    have hyW : W.heap[y]? = some (.cells #[.int .i64 room, .slice (some ⟨g, 0, none⟩) R.length fc, .int .i64 (burnt fuse)] 52 (0, 0)) := (hBW.block y ly0).trans hR3.disk
    have hoW2 : (W.setCell ⟨y, 1, none⟩ (.slice aB n9 cB)).ownsRow 0 55 2 (.slice aB n9 cB) n9 (cellsR (R.take k) ++ cellsR (R.drop k1)) := by
      have h1 := own_other hoW (w' := W.setCell ⟨y, 1, none⟩ (.slice aB n9 cB)) (fun b hb => hoth b (fun e => by have := (hoW.lt b hb).1; omega))
      rcases h1.2 with h2 | ⟨g', cap, cur, hv, hbase, r⟩
      · exact ⟨h1.1, .inl h2⟩
      · exact ⟨h1.1, .inr ⟨g', cap, cur, hv, Nat.zero_le _, r⟩⟩
    have hnd : ((R.take k ++ R.drop k1).map Yf.g).Nodup := by
      rw [HK1.out]
      refine hR3.apart.sublist (List.Sublist.map _ ?_)
      have h1 : (R.take k ++ R.drop (k + 1)).Sublist (R.take k ++ R.drop k) := List.Sublist.append (List.Sublist.refl _) (List.drop_sublist_drop_left R (Nat.le_succ k))
      rwa [List.take_append_drop] at h1
    have hFin := hR3.files2 (w' := W.setCell ⟨y, 1, none⟩ (.slice aB n9 cB)) (F' := fun b => F b ∨ (n0 ≤ b ∧ b < W.heap.size)) (R.take k ++ R.drop k1) (fun f hf => by
      rcases List.mem_append.1 hf with hf | hf
      · exact List.mem_of_mem_take hf
      · exact List.mem_of_mem_drop hf) hnd aB cB (by rw [hlen]; exact set3b hyW) (by rw [hlen, cellsR_append]; exact hoW2) (fun b hb hne => (hoth b hne).trans (hBW.block b (by have := hL3 b hb; omega))) (fun b hb => .inl hb) (fun x hx => .inr (by
        subst hx
        have hbx : (Value.slice (some x) n9 cB).ownBlock = some x.block := by
          rcases hoW.2 with ⟨h1, _⟩ | ⟨g', cap, cur, hv, _⟩
          · cases h1
          · cases hv
            rfl
        exact hoW.lt x.block hbx))
    have hsz : (W.setCell ⟨y, 1, none⟩ (.slice aB n9 cB)).heap.size = W.heap.size := by simp [World.setCell]
    have hks : Keeps F w3 (W.setCell ⟨y, 1, none⟩ (.slice aB n9 cB)) := (keeps_of hBW HNE.out).setCell (p := ⟨y, 1, none⟩) hR3.fy _
    have hGr : Gr F (fun b => F b ∨ (n0 ≤ b ∧ b < W.heap.size)) w3 (W.setCell ⟨y, 1, none⟩ (.slice aB n9 cB)) := ⟨hks, fun b hb => by
      rcases hb with hb | hb
      · exact .inl hb
      · exact .inr ⟨by omega, by rw [hsz]; exact hb.2⟩⟩
    have HFin := hidn (And.intro hFin (HG3.out.trans hGr))
    have HKK := hidn HK1.out
    clear hR3 hL3 hlen hoth hle hyW hoW2 hnd hFin hsz hks hBW hoW hGr
    simp only [putAll, List.foldl, Act.put, List.setIfInBounds_toArray, List.set_cons_succ, List.set_cons_zero]
    go_wp2
    go_ret
    exact ⟨rfl, _, _, _, _, HFin.out.1, by rw [HKK.out], HFin.out.2⟩
end Go.Proofs.Ytocfbokgbpaneaa
