/- postings: slices.Clone, slices.Equal of bytes; awake. -/
import Derived.Test.YthmknpdhgfmogaaBytes
import Derived.Test.YthmknpdhgfmogaaPgF
import Derived.BigQuiet
import Derived.Deep.QuietTactic
namespace Go.Proofs.Ythmknpdhgfmogaa
open Go.RowKit
set_option linter.unusedVariables false

theorem below_drewN {n : Nat} {w w' : World} (h : Below n w w') (k : Nat) : Below n w (w'.drewN k) := h.trans ⟨rfl, rfl, rfl, Nat.le_refl _, fun _ _ => rfl⟩

set_option maxHeartbeats 1000000 in
theorem sclone_any (a : Option Addr) (len cap : Nat) (zs : List Nat) (w : World) (h : Bs w a len zs) (hr : len ≤ 140737488355328) :
    Calls Try.prog 11 #[.slice a len cap] w fun e w' => ∃ v, e = .returned v ∧ w'.ownsRow w.heap.size 5 1 v len (vb zs) ∧ Below w.heap.size w w' := by
  obtain ⟨i0, hi, hz0, hz1, hz2⟩ := info_parts Try.info5
  have heq := fun (wx : World) (aa : Option Addr) (n c : Nat) => Lib.run_eql_slice_nil (P := Try.prog) wx 23 5 aa n c 0 0 Try.underlying23
  obtain ⟨hl, hm, hz, hn, hc⟩ := h
  unfold maxLen at hm
  cases a with
  | none =>
    obtain rfl := hn rfl
    obtain rfl : zs = [] := List.length_eq_zero_iff.1 hl
    go_enter Try.func11, Try.ntmps11
    go_wp2
    go_ret
    exact ⟨_, rfl, World.ownsRow_nil _ _ _ _, Below.refl _ _⟩
  | some x =>
    have hcx := hc x rfl
    clear hc
    have hown := World.ownsRow_lit (base := w.heap.size) (e := 5) (size := 1) w #[] 0 (Nat.le_refl _) (Nat.zero_le _) rfl
    go_enter Try.func11, Try.ntmps11
    go_wp2_with (at_builtin; refine wpList_append_own _ rfl _ _ 23 rfl w.heap.size 5 i0 (.int .u8 0) 1 1 Try.underlying23 hi hz0 hz1 hz2 rfl (by decide) _ 0 [] rfl hown x len cap (vb zs) rfl (by simp [vb, hl]) ?c1 ?c2 (by unfold maxLen; omega) (by omega) (by simp) ?_)
    case c1 =>
      intro j u hj
      have hj' : j < zs.length := by
        have := (List.getElem?_eq_some_iff.1 hj).1; simpa [vb] using this
      rw [vb_getD zs j hj'] at hj
      cases hj
      have h1 := hcx j (by omega)
      exact Lib.cell?_alloc_some _ h1
    case c2 =>
      intro u hu
      simp only [vb, List.mem_map] at hu
      obtain ⟨y, _, rfl⟩ := hu
      rfl
    intro v' w1 hown1 hgrow1 _
    clear hown
    go_wp2
    go_ret
    refine ⟨_, rfl, by simpa using hown1, ?_⟩
    refine ((Below.refl _ _).alloc (Nat.le_refl _) _).grown hgrow1 (by simp) ?_
    intro k hk
    simp [Value.ownBlock] at hk
    omega

theorem zs_drop (zs : List Nat) (k : Nat) (h : k < zs.length) : zs.drop k = zs.getD k 0 :: zs.drop (k + 1) := by
  rw [List.drop_eq_getElem_cons h, List.getD_eq_getElem?_getD, List.getElem?_eq_getElem h]; rfl
theorem zs_step (a b : List Nat) (k : Nat) (ha : k < a.length) (hb : k < b.length) : a.drop k = b.drop k ↔ a.getD k 0 = b.getD k 0 ∧ a.drop (k + 1) = b.drop (k + 1) := by
  rw [zs_drop a k ha, zs_drop b k hb]; simp

set_option maxHeartbeats 4000000 in
set_option maxRecDepth 100000 in
theorem equalB_any (a : Option Addr) (len cap : Nat) (la : List Nat) (b : Option Addr) (len' cap' : Nat) (lb : List Nat) (w : World) (h : Bs w a len la) (h' : Bs w b len' lb) (hr : len ≤ 140737488355328) (hr' : len' ≤ 140737488355328) :
    Calls Try.prog 16 #[.slice a len cap, .slice b len' cap'] w fun e w' => e = .returned (.bool (decide (la = lb))) ∧ Below w.heap.size w w' := by
  have e : ∀ n, decide (la = lb) = n → (Ending.returned (.bool n) = Ending.returned (.bool (decide (la = lb)))) := fun b h => by rw [h]
  have HE := hidn e
  have hl := hidn h.1
  have hl' := hidn h'.1
  clear e
  generalize hdd : decide (la = lb) = dd at *
  have HDD := hidn hdd
  clear hdd
  by_cases hne : len = len'
  · subst hne
    go_enter Try.func16, Try.ntmps16
    go_wp2
    go_loopw [13] (fun i wr => ∃ k : Nat, k ≤ len ∧ i = .int .i64 k ∧ Below w.heap.size w wr ∧ Hid (la = lb ↔ la.drop k = lb.drop k)) (fun i wr => len - (intOf i).toNat)
    case atStart => exact ⟨0, Nat.zero_le _, rfl, Below.refl _ _, Iff.rfl⟩
    case round =>
      obtain ⟨k, hk, rfl, hbl, hn⟩ := hrel
      by_cases hlt : k < len
      · obtain ⟨ba, offa, rfl, hba, hca⟩ := h.pos (by omega)
        obtain ⟨bb, offb, rfl, hbb, hcb⟩ := h'.pos (by omega)
        have c0' : wr.cell? ⟨ba, offa + k, none⟩ = some (.int .u8 ((la.getD k 0 : Nat) : Int)) := (hbl.cell (p := ⟨ba, offa + k, none⟩) hba).trans (hca k hlt)
        have d0' : wr.cell? ⟨bb, offb + k, none⟩ = some (.int .u8 ((lb.getD k 0 : Nat) : Int)) := (hbl.cell (p := ⟨bb, offb + k, none⟩) hbb).trans (hcb k hlt)
        clear hca hcb
        have HST := hidn (hn.out.trans (zs_step la lb k (by rw [hl.out]; exact hlt) (by rw [hl'.out]; exact hlt)))
        clear hn
        generalize hx : la.getD k 0 = x at *
        generalize hy : lb.getD k 0 = y at *
        clear hx hy
        by_cases hxy : x = y
        · have hd : ((x : Int) == (y : Int)) = true := beq_iff_eq.2 (by omega)
          have hd2 : ((x : Int) != (y : Int)) = false := by rw [bne, hd]; rfl
          have HC : Hid (la = lb ↔ la.drop (k + 1) = lb.drop (k + 1)) := hidn (HST.out.trans ⟨fun h => h.2, fun h => ⟨hxy, h⟩⟩)
          clear hxy HST
          go_wp2
          go_quiet (fail)
          go_wp2
          exact ⟨⟨k + 1, by omega, by go_num, below_drewN hbl _, HC⟩, by simp [intOf]; omega⟩
        · have hd : ((x : Int) == (y : Int)) = false := beq_eq_false_iff_ne.2 (by omega)
          have hd2 : ((x : Int) != (y : Int)) = true := by rw [bne, hd]; rfl
          have HC : Hid (¬ la = lb) := hidn (fun h => hxy (HST.out.1 h).1)
          clear hxy HST
          go_wp2
          go_quiet (fail)
          go_wp2
          go_ret
          exact ⟨HE.out _ (by rw [← HDD.out]; exact decide_eq_false HC.out), below_drewN hbl _⟩
      · obtain rfl : k = len := by omega
        have HC : Hid (la = lb) := hidn (hn.out.2 (by rw [List.drop_of_length_le (by rw [hl.out]; omega), List.drop_of_length_le (by rw [hl'.out]; omega)]))
        clear hn
        go_wp2
        go_ret
        exact ⟨HE.out _ (by rw [← HDD.out]; exact decide_eq_true HC.out), hbl⟩
  · have hne' : ((len : Int) == (len' : Int)) = false := beq_eq_false_iff_ne.2 (by omega)
    have HC : Hid (¬ la = lb) := hidn (fun h => hne (by rw [← hl.out, ← hl'.out, h]))
    clear hne
    go_enter Try.func16, Try.ntmps16
    go_wp2
    go_ret
    exact ⟨HE.out _ (by rw [← HDD.out]; exact decide_eq_false HC.out), Below.refl _ _⟩

theorem pack3 : packB [5, 6, 300] = [3, 5, 3, 0, 165, 2] := by
  have e1 : nblk [5, 6, 300] = 1 := rfl
  have e2 : blk [5, 6, 300] 0 = [5, 6, 300] := rfl
  have e3 : body [5, 6, 300] = [0, 165, 2] := by
    show (([] ++ shortB (6 - 5 - 1)) ++ shortB (300 - 6 - 1)) = _
    rw [shortB_lo (n := 6 - 5 - 1) (by decide), shortB_hi (n := 300 - 6 - 1) (by decide), shortB_lo (n := (300 - 6 - 1) / 128) (by decide)]
    rfl
  unfold packB
  rw [e1]
  show ((shortB 3 ++ shortB (5 - 0)) ++ shortB (body (blk [5, 6, 300] 0)).length) ++ ([] ++ body (blk [5, 6, 300] 0)) = _
  rw [e2, e3, shortB_lo (n := 3) (by decide), shortB_lo (n := 5 - 0) (by decide), shortB_lo (n := [0, 165, 2].length) (by decide)]
  rfl

set_option maxHeartbeats 2000000 in
set_option maxRecDepth 100000 in
theorem awake25 (w : World) : Calls Try.prog 18 #[] w fun e w' => e = .returned (.bool true) ∧ Below w.heap.size w w' := by
  obtain ⟨w1, hw1⟩ : ∃ w1, w1 = w.alloc (.cells #[.int .i64 5, .int .i64 6, .int .i64 300] 3) := ⟨_, rfl⟩
  have b1 : Below w.heap.size w w1 := by rw [hw1]; exact (Below.refl _ w).alloc (Nat.le_refl _) _
  have q1 : w1.heap[w.heap.size]? = some (.cells #[.int .i64 5, .int .i64 6, .int .i64 300] 3 (0, 0)) := by rw [hw1]; exact heap_alloc_new w _
  have HI : Ils w1 (some ⟨w.heap.size, 0, none⟩) 3 (up [5, 6, 300]) := by
    refine ⟨rfl, by unfold maxLen; omega, (fun e => by cases e), fun x hx j y hj => ?_⟩
    cases hx
    rw [add_none, Nat.zero_add, cell_of_row _ _ _ _ _ _ q1]
    match j, hj with
    | 0, hj => cases hj; rfl
    | 1, hj => cases hj; rfl
    | 2, hj => cases hj; rfl
    | (j + 3), hj => cases hj
  have hr : RiseN [5, 6, 300] := by
    refine ⟨fun i hi => ?_, fun i hi => ?_⟩
    · match i, hi with
      | 0, _ => decide
      | 1, _ => decide
      | 2, _ => decide
      | (i + 3), hi => simp at hi; omega
    · match i, hi with
      | 0, _ => decide
      | 1, _ => decide
      | (i + 2), hi => simp at hi; omega
  have HP := hidn (pack_yes (some ⟨w.heap.size, 0, none⟩) 3 3 [5, 6, 300] w1 HI hr (by decide) (by decide) (by decide))
  have HW1 := hidn hw1
  have HB1 := hidn b1
  clear hw1 q1 HI hr b1
  go_enter Try.func18, Try.ntmps18
  go_wp2_with fail
  rw [← HW1.out]
  refine HP.out.mono ?_
  rintro e w2 ⟨b2, v, rfl, own2⟩
  rw [pack3] at own2
  obtain ⟨va, vc, rfl, hbs⟩ := bs_of_own own2 (by decide)
  have HB2 := hidn (HB1.out.trans (b2.mono HB1.out.size))
  have HBS := hidn hbs
  obtain ⟨w3, hw3⟩ : ∃ w3, w3 = w2.alloc (.cells #[.int .u8 3, .int .u8 5, .int .u8 3, .int .u8 0, .int .u8 165, .int .u8 2] 5) := ⟨_, rfl⟩
  have b3 : Below w2.heap.size w2 w3 := by rw [hw3]; exact (Below.refl _ w2).alloc (Nat.le_refl _) _
  have HS3 : Bs w3 (some ⟨w2.heap.size, 0, none⟩) 6 [3, 5, 3, 0, 165, 2] := bs_of_block (zs := [3, 5, 3, 0, 165, 2]) (t := 5) (by rw [hw3]; exact heap_alloc_new w2 _) (by unfold maxLen; decide) (by decide)
  have HE := hidn (equalB_any va 6 vc [3, 5, 3, 0, 165, 2] (some ⟨w2.heap.size, 0, none⟩) 6 6 [3, 5, 3, 0, 165, 2] w3 (hbs.below b3) HS3 (by decide) (by decide))
  have HW3 := hidn hw3
  have HB3 := hidn (HB2.out.trans (b3.mono HB2.out.size))
  clear hw3 b3 HS3 hbs own2 b2
  go_wp2_with fail
  rw [← HW3.out]
  refine HE.out.mono ?_
  rintro e w4 ⟨rfl, b4⟩
  have HB4 := hidn (HB3.out.trans (b4.mono HB3.out.size))
  clear b4
  go_wp2_with fail
  go_ret
  exact ⟨rfl, HB4.out⟩
end Go.Proofs.Ythmknpdhgfmogaa
