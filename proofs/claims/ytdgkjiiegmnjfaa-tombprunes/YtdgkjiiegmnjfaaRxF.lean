/- class. -/
import Derived.Test.YtdgkjiiegmnjfaaRxE
namespace Go.Proofs.Ytdgkjiiegmnjfaa
open Go.RowKit Go.Joins
set_option linter.unusedVariables false

/-- What a call that makes a part tells. -/
def PartPost (c : Option Res) (r : Nat) (ρ' : Nat → Nat) (w' : World) (x y : Nat) (ok : Bool) : Prop := match c with
  | none => ok = false
  | some (f, t, R') => ok = true ∧ x = f ∧ y = t ∧ RDx w' r ρ' R'
def lenAt (w : World) (r : Nat) : Nat := match w.cell? ⟨r, 0, none⟩ with
  | some (.slice _ n _) => n
  | _ => 0
theorem RDx.len {w : World} {r : Nat} {ρ : Nat → Nat} {R : Rd} (h : RDx w r ρ R) : lenAt w r = R.1.length := by
  obtain ⟨la, lc, sv, V, h⟩ := h
  have : w.cell? ⟨r, 0, none⟩ = some (.slice la R.1.length lc) := cell_of_row _ _ _ _ _ _ h.blk
  unfold lenAt
  rw [this]
theorem caretR_eq (l : List Sg) : caretR l = (atR [94] l, tailIf (atR [94] l) l) := by
  unfold caretR takeR tailIf
  cases atR [94] l <;> rfl
theorem spInfo : ∃ i0 z, Try.prog.info? 101 = some i0 ∧ i0.zero = some z ∧ i0.size = 2 ∧ i0.bytes = 8 ∧ z.cells.size = 2 := by
  have h : (Try.prog.info? 101).map (fun i => (i.zero, i.size, i.bytes)) = some (some (.agg #[.int .i32 0, .int .i32 0]), 2, 8) := by kernel_rfl
  cases hi : Try.prog.info? 101 with
  | none => rw [hi] at h; cases h
  | some i0 =>
    rw [hi] at h
    simp only [Option.map_some, Option.some.injEq, Prod.mk.injEq] at h
    exact ⟨i0, _, rfl, h.1, h.2.1, h.2.2, rfl⟩
theorem asc94 : AscS ⟨#[94]⟩ := by unfold AscS; decide
theorem asc93 : AscS ⟨#[93]⟩ := by unfold AscS; decide

set_option maxHeartbeats 4000000 in
set_option maxRecDepth 100000 in
theorem rx_class_any (r : Nat) (ρ : Nat → Nat) (R : Rd) (w : World) (h : RDx w r ρ R) (hb : siz R.2 + 3 ≤ 100000) :
    Calls Try.prog 57 #[.pointer (some ⟨r, 0, none⟩)] w fun e w' => ∃ (x y : Nat) (ok : Bool) (ρ' : Nat → Nat), e = .returned (.tuple #[.agg #[.int .i64 (x : Int), .int .i64 (y : Int)], .bool ok]) ∧ Gw ρ ρ' w w' ∧ PartPost (classR R) r ρ' w' x y ok := by
  have EN : ∀ args w, (callFunc 58 args).run Try.prog w = .ok (.enter 58 args) w := enters_of Try.func58 (by kernel_rfl) rfl
  obtain ⟨l, L⟩ := R
  simp only at hb
  have hfree := h.fr
  obtain ⟨wA, hwA⟩ : ∃ wA, wA = w.alloc (.cells #[.int .i64 0, .int .i64 0] 73) := ⟨_, rfl⟩
  have bA : Below w.heap.size w wA := by rw [hwA]; exact (Below.refl _ w).alloc (Nat.le_refl _) _
  have qA : wA.heap[w.heap.size]? = some (.cells #[.int .i64 0, .int .i64 0] 73 (0, 0)) := by rw [hwA]; exact heap_alloc_new w _
  have hA := h.below bA
  have zA : ρ w.heap.size = 0 := hfree _ (Nat.le_refl _)
  obtain ⟨A, hAe⟩ : ∃ A, A = w.heap.size := ⟨_, rfl⟩
  have hAw : w.heap.size ≤ A := by omega
  have HAA := hidn hAe
  have HWA := hidn hwA
  have G0 : Gw ρ ρ w wA := Gw.of (Kp.of_below bA)
  rw [← hAe] at qA zA
  clear hAe hwA h
  go_enter Try.func57, Try.ntmps57
  go_wp2_with fail
  rw [← HWA.out, ← HAA.out]
  refine (take_any r ρ (l, L) ⟨#[94]⟩ wA (by decide) asc94 hA).mono ?_
  rintro e w1 ⟨rfl, h1, G1⟩
  obtain ⟨q1, z1⟩ := G1.blk qA zA
  have G1' := G0.trans G1
  obtain ⟨o, ho⟩ : ∃ o, o = atR (ptsOf ⟨#[94]⟩) (l, L).1 := ⟨_, rfl⟩
  obtain ⟨l0, hl0⟩ : ∃ l0, l0 = tailIf o l := ⟨_, rfl⟩
  have hcar : Hid (caretR l = (o, l0)) := hidn (by rw [caretR_eq, hl0, ho]; rfl)
  have h1' : RDx w1 r ρ (l0, L) := by rw [hl0, ho]; exact h1
  rw [← ho]
  obtain ⟨bs, hbs⟩ : ∃ bs, bs = w1.heap.size := ⟨_, rfl⟩
  obtain ⟨w2, hw2⟩ : ∃ w2, w2 = w1.alloc (.cells #[.bool o, .slice none 0 0] 97) := ⟨_, rfl⟩
  have b2 : Below w1.heap.size w1 w2 := by rw [hw2]; exact (Below.refl _ w1).alloc (Nat.le_refl _) _
  have qs2 : w2.heap[bs]? = some (.cells #[.bool o, .slice none 0 0] 97 (0, 0)) := by rw [hw2, hbs]; exact heap_alloc_new w1 _
  have q2 : w2.heap[A]? = some (.cells #[.int .i64 0, .int .i64 0] 73 (0, 0)) := (b2.block _ (Array.getElem?_eq_some_iff.1 q1).1).trans q1
  have h2 := h1'.below b2
  have G2' : Gw ρ ρ w w2 := G1'.trans (Gw.of (Kp.of_below b2))
  have zs : ρ bs = 0 := by rw [hbs]; exact h1'.fr _ (Nat.le_refl _)
  have hbsw : w.heap.size ≤ bs := by rw [hbs]; exact G1'.1.size
  have hAbs : A ≠ bs := by
    have := (Array.getElem?_eq_some_iff.1 q1).1
    omega
  have HBS := hidn hbs
  have HW2 := hidn hw2
  clear ho hl0 h1 h1' q1 qA G0 G1 G1' hA b2 hbs hw2
  go_wp2_with fail
  rw [← HW2.out, ← HBS.out]
  obtain ⟨P, hP⟩ : ∃ P, P = classL (l0.length + 1) l0 [] := ⟨_, rfl⟩
  have HP := hidn hP
  clear hP
  go_loopw [] (fun wr => ∃ (k : Nat) (l' : List Sg) (acc : List (Int × Int)) (sv : Value), l'.length < k ∧ acc.length + l'.length ≤ 1000 ∧ RDx wr r ρ (l', L) ∧ wr.heap[bs]? = some (.cells #[.bool o, sv] 97 (0, 0)) ∧ wr.heap[A]? = some (.cells #[.int .i64 0, .int .i64 0] 73 (0, 0)) ∧ Own wr ρ 101 2 0 sv acc.length (vspans acc) ∧ (∀ g, sv.ownBlock = some g → w.heap.size ≤ g) ∧ Gw ρ ρ w wr ∧ Hid (P = classL k l' acc)) (fun wr => lenAt wr r)
  case atStart =>
    refine ⟨l0.length + 1, l0, [], .slice none 0 0, by omega, ?_, h2, qs2, q2, ⟨World.ownsRow_nil _ _ _ _, fun g hg => by simp [Value.ownBlock] at hg⟩, fun g hg => by simp [Value.ownBlock] at hg, G2', HP⟩
    obtain ⟨_, _, _, _, q⟩ := h2
    have := q.sig.1
    simpa using this
  case round =>
    obtain ⟨k, l', acc, sv, hk, hka, hr, qs, q, hown, hge, G, HPk⟩ := hrel
    have hlen := hr.len
    simp only at hlen
    go_wp2_with fail
    refine (take_any r ρ (l', L) ⟨#[93]⟩ wr (by decide) asc93 hr).mono ?_
    rintro e w3 ⟨rfl, h3, G3⟩
    obtain ⟨qs3, _⟩ := G3.blk qs zs
    obtain ⟨q3, _⟩ := G3.blk q zA
    have own3 := hown.gw G3
    have G3' := G.trans G3
    cases hat : atR [93] l' with
    | true =>
      have e0 : atR (ptsOf ⟨#[93]⟩) (l', L).1 = true := hat
      rw [e0] at h3 ⊢
      have hPv : Hid (P = some (acc, l'.tail)) := hidn (by
        rw [HPk.out]
        cases k with
        | zero => omega
        | succ k => simp only [classL, takeR, hat, if_true])
      have h3' : RDx w3 r ρ (l'.tail, L) := h3
      clear e0 h3 hat HPk hown hr G qs q
      obtain ⟨sa, sn, sc, rfl⟩ : ∃ sa sn sc, sv = .slice sa sn sc := by
        rcases own3.1.2 with ⟨h1, _⟩ | ⟨g, cap, cur, h1, _⟩
        · exact ⟨_, _, _, h1⟩
        · exact ⟨_, _, _, h1⟩
      have hsn : sn = acc.length := by
        rcases own3.1.2 with ⟨h1, h2⟩ | ⟨g, cap, cur, h1, _⟩
        · cases h1; omega
        · cases h1; rfl
      have HSN := hidn hsn
      have hsn1 : sn ≤ 1000 := by omega
      clear hsn
      obtain ⟨wd, hwd⟩ : ∃ wd, w3.drew = wd := ⟨_, rfl⟩
      have bd : Below w3.heap.size w3 wd := by rw [← hwd]; exact (Below.refl _ _).drew
      have qsd := (bd.block _ (Array.getElem?_eq_some_iff.1 qs3).1).trans qs3
      have qd := (bd.block _ (Array.getElem?_eq_some_iff.1 q3).1).trans q3
      have hd := h3'.below bd
      have ownd := own3.below bd
      have Gd : Gw ρ ρ w wd := G3'.trans (Gw.of (Kp.of_below bd))
      have cd0 : wd.cell? ⟨bs, 0, none⟩ = some (.bool o) := cell_of_row _ _ _ _ _ _ qsd
      have cd1 : wd.cell? ⟨bs, 1, none⟩ = some (.slice sa sn sc) := cell_of_row _ _ _ _ _ _ qsd
      clear own3 h3' qs3 q3 G3 G3' bd
      go_wp2_with fail
      refine wp_region_noPanic ?_
      refine wp_region_held_drew (S := fun w' => w'.cell? ⟨bs, 0, none⟩ = some (.bool o) ∧ w'.cell? ⟨bs, 1, none⟩ = some (.slice sa sn sc)) (by kernel_rfl) (by rw [hwd]; exact ⟨cd0, cd1⟩) (fun hHeld => ?_)
      rw [hwd] at hHeld ⊢
      refine drawn_take (i := 0) (v := .pointer (some ⟨r, 0, none⟩)) (some 27) rfl rfl (by kernel_rfl) (by kernel_rfl) (by kernel_rfl) (fun _ _ _ h => h) (Or.inl ⟨by kernel_rfl, fun wq hw => by go_simp⟩) hHeld ?_
      simp only [Act.put, List.setIfInBounds_toArray, List.set_cons_succ, List.set_cons_zero]
      refine drawn_take (i := 1) (v := .agg #[.bool o, .slice sa sn sc]) (some 28) rfl rfl (by kernel_rfl) (by kernel_rfl) (by kernel_rfl) (fun _ _ _ h => h) (Or.inl ⟨by kernel_rfl, fun wq hw => by obtain ⟨h1, h2⟩ := hw; go_simp⟩) hHeld ?_
      simp only [Act.put, List.setIfInBounds_toArray, List.set_cons_succ, List.set_cons_zero]
      refine drawn_take (i := 3) (v := .pointer (some ⟨bs, 1, none⟩)) (some 30) rfl rfl (by kernel_rfl) (by kernel_rfl) (by kernel_rfl) (fun _ _ _ h => h) (Or.inl ⟨by kernel_rfl, fun wq hw => by go_simp⟩) hHeld ?_
      simp only [Act.put, List.setIfInBounds_toArray, List.set_cons_succ, List.set_cons_zero]
      refine drawn_take (i := 4) (v := .slice sa sn sc) (some 31) rfl rfl (by kernel_rfl) (by kernel_rfl) (by kernel_rfl) (fun _ _ _ h => h) (Or.inl ⟨by kernel_rfl, fun wq hw => by obtain ⟨h1, h2⟩ := hw; go_simp⟩) hHeld ?_
      simp only [Act.put, List.setIfInBounds_toArray, List.set_cons_succ, List.set_cons_zero]
      refine drawn_take (i := 5) (v := .int .i64 (sn : Int)) (some 32) rfl rfl (by kernel_rfl) (by kernel_rfl) (by kernel_rfl) (fun _ _ _ h => h) (Or.inl ⟨by kernel_rfl, fun wq hw => by go_simp⟩) hHeld ?_
      simp only [Act.put, List.setIfInBounds_toArray, List.set_cons_succ, List.set_cons_zero]
      refine drawn_take (i := 6) (v := .bool (decide ((0 : Int) < (sn : Int)))) (some 33) rfl rfl (by kernel_rfl) (by kernel_rfl) (by kernel_rfl) (fun _ _ _ h => h) (Or.inl ⟨by kernel_rfl, fun wq hw => by go_simp⟩) hHeld ?_
      simp only [Act.put, List.setIfInBounds_toArray, List.set_cons_succ, List.set_cons_zero]
      have hne : ∀ k, (Value.slice sa sn sc).ownBlock = some k → k ≠ bs ∧ k ≠ A := by
        intro k hk
        rcases ownd.1.2 with ⟨h1, _⟩ | ⟨g, cap, cur, h1, _, hh, _⟩
        · rw [h1] at hk; simp [Value.ownBlock] at hk
        · rw [h1] at hk
          simp only [Value.ownBlock, Option.some.injEq] at hk
          subst hk
          refine ⟨fun e => ?_, fun e => ?_⟩
          · rw [e, qsd] at hh; cases hh
          · rw [e, qd] at hh; cases hh
      refine wpAnyH_ready (rs := [2]) (by kernel_rfl) (by simp) ?_
      refine rdy_call (i := 2) rfl rfl (some 29) rfl 58 #[.pointer (some ⟨r, 0, none⟩), .agg #[.bool o, .slice sa sn sc]] (call2_run (x := 27) (y := 28) (ts := #[91, 97]) (by kernel_rfl) EN (by kernel_rfl) (by kernel_rfl)) (fun v w' => v = .agg #[.int .i64 (L.length : Int), .int .i64 ((L.length + 1 : Nat) : Int)] ∧ ∃ ρ', RDx w' r ρ' (l'.tail, stepR L o acc) ∧ Gx (.slice sa sn sc) ρ ρ' wd w') ((step_any r ρ (l'.tail, L) o (.slice sa sn sc) acc wd hd hb ownd).mono fun e w' h => ⟨_, h.1, rfl, h.2⟩) (fun v w4 hR => ?_) rdy_nil
      obtain ⟨rfl, ρ4, h4, G4⟩ := hR
      have qs4 := (G4.1.block bs (Array.getElem?_eq_some_iff.1 qsd).1 (by rintro (e | e); exact e zs; exact (hne _ e).1 rfl)).trans qsd
      have q4 := (G4.1.block A (Array.getElem?_eq_some_iff.1 qd).1 (by rintro (e | e); exact e zA; exact (hne _ e).2 rfl)).trans qd
      have z4 : ρ4 A = 0 := (G4.2 A (Array.getElem?_eq_some_iff.1 qd).1 (fun e => (hne _ e).2 rfl)).trans zA
      have G4' : Gw ρ ρ4 w w4 := G4.after Gd hge
      refine ⟨⟨cell_of_row _ _ _ _ _ _ qs4, cell_of_row _ _ _ _ _ _ qs4⟩, fun hHeld => ?_⟩
      simp only [Act.put, List.setIfInBounds_toArray, List.set_cons_succ, List.set_cons_zero]
      obtain ⟨n, hn⟩ : ∃ n, n = L.length := ⟨_, rfl⟩
      obtain ⟨m, hm⟩ : ∃ m, m = L.length + 1 := ⟨_, rfl⟩
      rw [← hm, ← hn]
      obtain ⟨r0, r1, fr0, fr1, t0, t1, hR, hG⟩ := fin2 q4 (.int .i64 (n : Int)) (.int .i64 (m : Int))
      have s0 : ((w4.setCell ⟨A, 0, none⟩ (.int .i64 (n : Int))).setCell ⟨A, 1, none⟩ (.int .i64 (m : Int))).cell? ⟨bs, 0, none⟩ = some (.bool o) := (World.cell?_of_block ((Below.heap_setCell _ _ _ _ (fun e => hAbs e.symm)).trans (Below.heap_setCell _ _ _ _ (fun e => hAbs e.symm)))).trans (cell_of_row _ _ _ _ _ _ qs4)
      have s1 : ((w4.setCell ⟨A, 0, none⟩ (.int .i64 (n : Int))).setCell ⟨A, 1, none⟩ (.int .i64 (m : Int))).cell? ⟨bs, 1, none⟩ = some (.slice sa sn sc) := (World.cell?_of_block ((Below.heap_setCell _ _ _ _ (fun e => hAbs e.symm)).trans (Below.heap_setCell _ _ _ _ (fun e => hAbs e.symm)))).trans (cell_of_row _ _ _ _ _ _ qs4)
      refine wpAnyH_ready (rs := [7]) (by kernel_rfl) (by simp) ?_
      refine rx_rdy_unit (i := 7) rfl rfl none rfl ((w4.setCell ⟨A, 0, none⟩ (.int .i64 (n : Int))).setCell ⟨A, 1, none⟩ (.int .i64 (m : Int))) (by go_simp) ⟨s0, s1⟩ (fun hHeld => ?_) rdy_nil
      refine drawn_take (i := 8) (v := .bool (decide ((0 : Int) < (sn : Int)))) (some 3) rfl rfl (by kernel_rfl) (by kernel_rfl) (by kernel_rfl) (fun _ _ _ h => h) (Or.inl ⟨by kernel_rfl, fun wq hw => by go_simp⟩) hHeld ?_
      simp only [Act.put, List.setIfInBounds_toArray, List.set_cons_succ, List.set_cons_zero]
      refine wpAnyH_done (by kernel_rfl) ?_ _
      refine NoPanic.normal ?_
      clear hHeld
      have HF := hidn (hR _ _ _ h4 (by decide) z4)
      have HG9 := hidn (hG _ _ _ G4' hAw)
      have HN := hidn hn
      have HM := hidn hm
      clear hR hG hn hm
      obtain ⟨ok, hok⟩ : ∃ ok, ok = decide ((0 : Int) < (sn : Int)) := ⟨_, rfl⟩
      have HOK := hidn hok
      rw [← hok]
      clear hok
      have HPP : Hid (PartPost (classR (l, L)) r ρ4 ((w4.setCell ⟨A, 0, none⟩ (.int .i64 (n : Int))).setCell ⟨A, 1, none⟩ (.int .i64 (m : Int))) n m ok) := hidn (by
        have e : classR (l, L) = if acc.length = 0 then none else some (L.length, L.length + 1, l'.tail, stepR L o acc) := by
          unfold classR
          simp only [hcar.out]
          rw [← HP.out, hPv.out]
        rw [e]
        by_cases h0 : acc.length = 0
        · rw [if_pos h0]
          show ok = false
          rw [HOK.out, HSN.out, h0]
          rfl
        · rw [if_neg h0]
          refine ⟨?_, HN.out, HM.out, HF.out⟩
          rw [HOK.out, HSN.out]
          simp
          omega)
      go_wp2_with fail
      exact bodyPost_ret (v := .tuple #[.agg #[.int .i64 (n : Int), .int .i64 (m : Int)], .bool ok]) (by simp [results, Try.results57, go_sem, t0, t1]) rfl ⟨n, m, ok, ρ4, rfl, HG9.out, HPP.out⟩
    | false =>
      have e0 : atR (ptsOf ⟨#[93]⟩) (l', L).1 = false := hat
      rw [e0] at h3 ⊢
      have h3' : RDx w3 r ρ (l', L) := h3
      clear e0 h3 hown hr G qs q
      go_wp2_with fail
      refine (member_any r ρ (l', L) w3 h3').mono ?_
      rintro e w4 ⟨x, y, ok, rfl, G4, hmem⟩
      simp only at hmem
      obtain ⟨qs4, _⟩ := G4.blk qs3 zs
      obtain ⟨q4, _⟩ := G4.blk q3 zA
      have own4 := own3.gw G4
      have G4' := G3'.trans G4
      cases hm : memberR l' with
      | none =>
        rw [hm] at hmem
        simp only at hmem
        subst hmem
        have hPv : Hid (P = none) := hidn (by
          rw [HPk.out]
          cases k with
          | zero => rfl
          | succ k => simp only [classL, takeR, hat, hm]; rfl)
        have q5 : (w4.alloc (.cells #[.int .i32 x, .int .i32 y] 101)).heap[A]? = some (.cells #[.int .i64 0, .int .i64 0] 73 (0, 0)) := (Below.heap_alloc _ _ _ (Array.getElem?_eq_some_iff.1 q4).1).trans q4
        obtain ⟨r0, r1, fr0, fr1, t0, t1, _, hG⟩ := fin2 q5 (.int .i64 0) (.int .i64 0)
        have HG := hidn (hG _ _ _ (G4'.trans (Gw.of ((Kp.refl _ w4).alloc _))) hAw)
        have hcR : Hid (classR (l, L) = none) := hidn (by
          unfold classR
          simp only [hcar.out]
          rw [← HP.out, hPv.out])
        clear hG
        go_wp2_with fail
        exact bodyPost_ret (v := .tuple #[.agg #[.int .i64 0, .int .i64 0], .bool false]) (by simp [results, Try.results57, go_sem, t0, t1]) rfl ⟨0, 0, false, ρ, rfl, HG.out, by rw [hcR.out]; rfl⟩
      | some ml =>
        obtain ⟨m, l''⟩ := ml
        rw [hm] at hmem
        simp only at hmem
        obtain ⟨rfl, rfl, rfl, h4⟩ := hmem
        obtain ⟨m1, m2⟩ := m
        simp only
        obtain ⟨sa, sn, sc, rfl⟩ : ∃ sa sn sc, sv = .slice sa sn sc := by
          rcases own4.1.2 with ⟨h1, _⟩ | ⟨g, cap, cur, h1, _⟩
          · exact ⟨_, _, _, h1⟩
          · exact ⟨_, _, _, h1⟩
        have hl2 := memberR_len hm
        obtain ⟨w5, hw5⟩ : ∃ w5, w5 = w4.alloc (.cells #[.int .i32 m1, .int .i32 m2] 101) := ⟨_, rfl⟩
        have b5 : Below w4.heap.size w4 w5 := by rw [hw5]; exact (Below.refl _ w4).alloc (Nat.le_refl _) _
        obtain ⟨w6, hw6⟩ : ∃ w6, w6 = w5.alloc (.cells #[.int .i32 m1, .int .i32 m2] 101) := ⟨_, rfl⟩
        have b6 : Below w5.heap.size w5 w6 := by rw [hw6]; exact (Below.refl _ w5).alloc (Nat.le_refl _) _
        have own6 := (own4.below b5).below b6
        have h6 := (h4.below b5).below b6
        have qs5 : w5.heap[bs]? = some (.cells #[.bool o, .slice sa sn sc] 97 (0, 0)) := (b5.block _ (Array.getElem?_eq_some_iff.1 qs4).1).trans qs4
        have qs6 : w6.heap[bs]? = some (.cells #[.bool o, .slice sa sn sc] 97 (0, 0)) := (b6.block _ (Array.getElem?_eq_some_iff.1 qs5).1).trans qs5
        have q6 : w6.heap[A]? = some (.cells #[.int .i64 0, .int .i64 0] 73 (0, 0)) := by
          have q5 := (b5.block _ (Array.getElem?_eq_some_iff.1 q4).1).trans q4
          exact (b6.block _ (Array.getElem?_eq_some_iff.1 q5).1).trans q5
        have G6' : Gw ρ ρ w w6 := (G4'.trans (Gw.of (Kp.of_below b5))).trans (Gw.of (Kp.of_below b6))
        obtain ⟨i0, z, hi0, hz, hzs, hby, hzc⟩ := spInfo
        obtain ⟨g, c, w7, hrun, hown7, hgr, hkk⟩ := app1 (P := Try.prog) w6 95 95 101 i0 z 2 8 Try.underlying95 hi0 hz hzs hby hzc (by decide) (.slice sa sn sc) acc.length _ own6.1 ⟨w5.heap.size, 0, none⟩ 1 [.int .i32 m1, .int .i32 m2] rfl
          (fun j u hj => by
            rw [hw6]
            match j, hj with
            | 0, hj => simp at hj; subst hj; simp [Addr.add]
            | 1, hj => simp at hj; subst hj; simp [Addr.add])
          (fun u hu => by
            simp at hu
            rcases hu with rfl | rfl <;> rfl)
          (by unfold maxLen; omega) (by omega)
        have hspne : ∀ cs, ∀ k, (Value.slice sa sn sc).ownBlock = some k → w6.heap[k]? ≠ some (.cells cs 90 (0, 0)) ∧ k ≠ bs ∧ k ≠ A := by
          intro cs k hk
          rcases own6.1.2 with ⟨h1, _⟩ | ⟨g, cap, cur, h1, _, hh, _⟩
          · rw [h1] at hk; simp [Value.ownBlock] at hk
          · rw [h1] at hk
            simp only [Value.ownBlock, Option.some.injEq] at hk
            subst hk
            refine ⟨fun e => ?_, fun e => ?_, fun e => ?_⟩
            · rw [hh] at e; cases e
            · rw [e, qs6] at hh; cases hh
            · rw [e, q6] at hh; cases hh
        have kp7 : Kp (fun k => (Value.slice sa sn sc).ownBlock = some k) w6 w7 := Kp.of_grown hgr (fun k hk => hk)
        have h7 : RDx w7 r ρ (l'', L) := h6.kp0 kp7 (fun k hk => ⟨own6.2 k hk, fun cs => (hspne cs k hk).1⟩)
        have qs7 : w7.heap[bs]? = some (.cells #[.bool o, .slice sa sn sc] 97 (0, 0)) := (kp7.block _ (Array.getElem?_eq_some_iff.1 qs6).1 (fun e => (hspne #[] _ e).2.1 rfl)).trans qs6
        have q7 : w7.heap[A]? = some (.cells #[.int .i64 0, .int .i64 0] 73 (0, 0)) := (kp7.block _ (Array.getElem?_eq_some_iff.1 q6).1 (fun e => (hspne #[] _ e).2.2 rfl)).trans q6
        have hgw : w.heap.size ≤ g := by
          rcases hkk with hk | hk
          · exact hge g hk
          · exact Nat.le_trans G6'.1.size hk
        have hg0 : ρ g = 0 := by
          rcases hkk with hk | hk
          · exact own6.2 g hk
          · exact h6.fr g hk
        have G7' : Gw ρ ρ w w7 := ⟨⟨kp7.os.trans G6'.1.os, kp7.tape.trans G6'.1.tape, kp7.output.trans G6'.1.output, Nat.le_trans G6'.1.size kp7.size, fun i hi hn => (kp7.block i (Nat.lt_of_lt_of_le hi G6'.1.size) (fun e => by have := hge i e; omega)).trans (G6'.1.block i hi hn)⟩, fun _ _ => rfl⟩
        have cs5 : w5.cell? ⟨bs, 1, none⟩ = some (.slice sa sn sc) := cell_of_row _ _ _ _ _ _ qs5
        have cs6 : w6.cell? ⟨bs, 1, none⟩ = some (.slice sa sn sc) := cell_of_row _ _ _ _ _ _ qs6
        have cs7 : w7.cell? ⟨bs, 1, none⟩ = some (.slice sa sn sc) := cell_of_row _ _ _ _ _ _ qs7
        have fs7 : w7.frozen? ⟨bs, 1, none⟩ = false := unfrozen_of_block qs7 _
        have hsz5 : w5.heap.size = w4.heap.size + 1 := by rw [hw5]; simp
        rw [hsz5] at hrun
        have hb6 : Hid (Below w4.heap.size w4 w6) := hidn (b5.trans (b6.mono b5.size))
        rw [hw6, hw5] at hrun
        rw [hw5] at cs5
        have HRUN := hidn hrun
        have H7 := hidn (h7.loc qs7 (by decide) zs 1 (.slice (some ⟨g, 0, none⟩) (acc.length + 1) c))
        have HS7 := hidn (block_setCell (i := 1) qs7 (.slice (some ⟨g, 0, none⟩) (acc.length + 1) c))
        have HQ7 : Hid ((w7.setCell ⟨bs, 1, none⟩ (.slice (some ⟨g, 0, none⟩) (acc.length + 1) c)).heap[A]? = some (.cells #[.int .i64 0, .int .i64 0] 73 (0, 0))) := hidn (by rw [Below.heap_setCell _ _ _ _ hAbs]; exact q7)
        have HG7 := hidn (G7'.loc (k := bs) hbsw 1 (.slice (some ⟨g, 0, none⟩) (acc.length + 1) c))
        have HO7 : Hid (Own (w7.setCell ⟨bs, 1, none⟩ (.slice (some ⟨g, 0, none⟩) (acc.length + 1) c)) ρ 101 2 0 (.slice (some ⟨g, 0, none⟩) (acc.length + 1) c) (acc ++ [(m1, m2)]).length (vspans (acc ++ [(m1, m2)]))) := hidn (by
          have e1 : vspans (acc ++ [(m1, m2)]) = vspans acc ++ [.int .i32 m1, .int .i32 m2] := by simp [vspans]
          rw [e1]
          refine ⟨rx_own_setCell (by simpa using hown7) (fun e => ?_) _, fun k hk => ?_⟩
          · simp only [Value.ownBlock, Option.some.injEq] at e
            rw [← e] at qs7
            rcases hown7.2 with ⟨h1, _⟩ | ⟨g', cap, cur, h1, _, hh, _⟩
            · cases h1
            · cases h1
              rw [qs7] at hh
              cases hh
          · simp only [Value.ownBlock, Option.some.injEq] at hk
            subst hk
            exact hg0)
        have HP2 : Hid (P = classL (k - 1) l'' (acc ++ [(m1, m2)])) := hidn (by
          rw [HPk.out]
          cases k with
          | zero => omega
          | succ k => simp only [classL, takeR, hat, hm]; rfl)
        have hk2 : l''.length < k - 1 := by omega
        have hka2 : (acc ++ [(m1, m2)]).length + l''.length ≤ 1000 := by simp; omega
        have hdec : Hid (lenAt (w7.setCell ⟨bs, 1, none⟩ (.slice (some ⟨g, 0, none⟩) (acc.length + 1) c)) r < lenAt wr r) := hidn (by
          rw [H7.out.len, hlen]
          simp only
          omega)
        clear hw5 hw6 hrun hi0 hz hzs hby hzc hgr kp7 h6 own6 hspne hown7 hkk h7 h4 qs4 qs5 qs6 q4 q6 q7 G6' G7' own4 own3 G4 G4' G3 G3' h3' qs3 q3 b5 b6 HPk hm hsz5 hlen hat
        go_wp2_with (at_builtin; refine wpList_app_run rfl _ _ 95 95 rfl rfl (.slice sa sn sc) _ _ rfl rfl HRUN.out ?_)
        exact ⟨⟨k - 1, l'', acc ++ [(m1, m2)], _, hk2, hka2, H7.out, by simpa using HS7.out, HQ7.out, HO7.out, fun g' hg' => by simp only [Value.ownBlock, Option.some.injEq] at hg'; subst hg'; exact hgw, HG7.out, HP2⟩, hdec.out⟩
end Go.Proofs.Ytdgkjiiegmnjfaa
