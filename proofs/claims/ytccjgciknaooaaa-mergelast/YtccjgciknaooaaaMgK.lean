/- merge: Open of the two lists, All, awake. -/
import Derived.Test.YtccjgciknaooaaaMgC
import Derived.Test.YtccjgciknaooaaaMgJ
namespace Go.Proofs.Ytccjgciknaooaaa
open Go.RowKit Go.Joins
set_option linter.unusedVariables false

theorem ok_a : ∀ i, SamOK (samD [⟨1, 1⟩, ⟨3, 1⟩] i) := fun i => by
  match i with
  | 0 => exact ⟨by decide, by decide, by decide⟩
  | 1 => exact ⟨by decide, by decide, by decide⟩
  | (i + 2) => exact samOK_zero
theorem ok_b : ∀ i, SamOK (samD [⟨3, 2⟩] i) := fun i => by
  match i with
  | 0 => exact ⟨by decide, by decide, by decide⟩
  | (i + 1) => exact samOK_zero
theorem sm_a {W : World} {L s0 s1 : Nat} (h : Two W L s0 s1) : Sm W (some ⟨s0, 0, none⟩) 2 [⟨1, 1⟩, ⟨3, 1⟩] := by
  obtain ⟨a1, a2, a3, a4, a5, a6, a7, a8, a9, a10⟩ := h
  refine ⟨rfl, by unfold maxLen; omega, ok_a, (fun e => by cases e), fun x hx j hj => ?_⟩
  cases hx
  simp only [add_none, Nat.zero_add]
  match j, hj with
  | 0, _ => exact ⟨a5, a6⟩
  | 1, _ => exact ⟨a7, a8⟩
theorem sm_b {W : World} {L s0 s1 : Nat} (h : Two W L s0 s1) : Sm W (some ⟨s1, 0, none⟩) 1 [⟨3, 2⟩] := by
  obtain ⟨a1, a2, a3, a4, a5, a6, a7, a8, a9, a10⟩ := h
  refine ⟨rfl, by unfold maxLen; omega, ok_b, (fun e => by cases e), fun x hx j hj => ?_⟩
  cases hx
  simp only [add_none, Nat.zero_add]
  match j, hj with
  | 0, _ => exact ⟨a9, a10⟩
theorem rks_two {W : World} {L s0 s1 : Nat} (h : Two W L s0 s1) : Rks W (some ⟨L, 0, none⟩) 2 [⟨1, some ⟨s0, 0, none⟩, 2, 2, [⟨1, 1⟩, ⟨3, 1⟩]⟩, ⟨2, some ⟨s1, 0, none⟩, 1, 1, [⟨3, 2⟩]⟩] := by
  refine ⟨rfl, by unfold maxLen; omega, fun j r hj => ?_, fun _ => ⟨L, 0, rfl, fun j r hj => ?_⟩⟩
  · match j, hj with
    | 0, hj => cases hj; exact ⟨sm_a h, Nat.le_refl _⟩
    | 1, hj => cases hj; exact ⟨sm_b h, Nat.le_refl _⟩
  · obtain ⟨a1, a2, a3, a4, a5, a6, a7, a8, a9, a10⟩ := h
    match j, hj with
    | 0, hj => cases hj; exact ⟨a1, a2⟩
    | 1, hj => cases hj; exact ⟨a3, a4⟩

theorem ok_two : ∀ i, SamOK (samD [⟨1, 1⟩, ⟨3, 2⟩] i) := fun i => by
  match i with
  | 0 => exact ⟨by decide, by decide, by decide⟩
  | 1 => exact ⟨by decide, by decide, by decide⟩
  | (i + 2) => exact samOK_zero

/-- A cursor over what lies in its block. -/
def CurB (W : World) (b : Nat) (v : Value) : Prop := W.heap[b]? = some (.cells #[v] 57 (0, 0))

set_option maxHeartbeats 4000000 in
set_option maxRecDepth 100000 in
theorem open_two (L s0 s1 : Nat) (w : World) (ht : Two w L s0 s1) :
    Calls Try.prog 8 #[.slice (some ⟨L, 0, none⟩) 2 2, .int .i64 0, .slice none 0 0] w fun e w' => ∃ b a c, e = .returned (.tuple #[.pointer (some ⟨b, 0, none⟩), .int .i64 0]) ∧ w.heap.size ≤ b ∧ CurB w' b (.slice a 2 c) ∧ Sm w' a 2 [⟨1, 1⟩, ⟨3, 2⟩] ∧ Below w.heap.size w w' := by
  have HC := hidn (canMerge_yes (some ⟨L, 0, none⟩) 2 2 _ w (rks_two ht) (by omega) (fun j r hj => by
    match j, hj with
    | 0, hj => cases hj; show riseB [⟨1, 1⟩, ⟨3, 1⟩] = true; decide
    | 1, hj => cases hj; show riseB [⟨3, 2⟩] = true; decide))
  have HT := hidn ht
  clear ht
  go_enter Try.func8, Try.ntmps8
  go_wp2_with fail
  refine HC.out.mono ?_
  rintro e w1 ⟨rfl, b1⟩
  have HM := hidn (merged_two L s0 s1 w1 (HT.out.below b1))
  have HB1 := hidn b1
  clear b1 HC
  go_wp2_with fail
  refine HM.out.mono ?_
  rintro e w2 ⟨v2, rfl, o2, b2⟩
  obtain ⟨va, ca, rfl, _, hsm⟩ := sm_of_own o2 ok_two
  have HO := hidn (outside_all va 2 ca _ 0 w2 hsm (by omega) (fun k hk => by
    match k, hk with
    | 0, _ => decide
    | 1, _ => decide))
  have HB2 := hidn (HB1.out.trans (b2.mono HB1.out.size))
  clear b2 o2 HM hsm
  go_wp2_with fail
  refine HO.out.mono ?_
  rintro e w3 ⟨v3, rfl, o3, b3⟩
  obtain ⟨a3, c3, rfl, _, hsm3⟩ := sm_of_own o3 ok_two
  have HO3 := hidn hsm3
  have HB3 := hidn (HB2.out.trans (b3.mono HB2.out.size))
  clear o3 b3 HO hsm3
  go_wp2_with fail
  go_ret2
  exact ⟨w3.heap.size, a3, c3, rfl, HB3.out.size, heap_alloc_new w3 _, HO3.out.below ((Below.refl _ w3).alloc (Nat.le_refl _) _), HB3.out.alloc HB3.out.size _⟩

set_option maxHeartbeats 4000000 in
set_option maxRecDepth 100000 in
theorem all_any (b : Nat) (a : Option Addr) (len c : Nat) (l : List Sam) (w : World) (hc : CurB w b (.slice a len c)) (h : Sm w a len l) (hm : len ≤ 1000000) :
    Calls Try.prog 11 #[.pointer (some ⟨b, 0, none⟩)] w fun e w' => ∃ v, e = .returned v ∧ w'.ownsRow w.heap.size 36 2 v len (vsm l) ∧ CurB w' b (.slice none 0 0) ∧ ∀ n, n ≤ w.heap.size → n ≤ b → Below n w w' := by
  have h0 : w.cell? ⟨b, 0, none⟩ = some (.slice a len c) := cell_of_row w b 0 _ _ _ hc
  have hbs := (Array.getElem?_eq_some_iff.1 hc).1
  have HC := hidn (samClone_any a len c l w h hm)
  have HQ := hidn hc
  clear hc h
  go_enter Try.func11, Try.ntmps11
  go_wp2_with fail
  refine HC.out.mono ?_
  rintro e w1 ⟨v1, rfl, o1, b1⟩
  have q1 : CurB w1 b (.slice a len c) := (b1.block b hbs).trans HQ.out
  have h1 : w1.cell? ⟨b, 0, none⟩ = some (.slice a len c) := cell_of_row w1 b 0 _ _ _ q1
  have u1 := unfrozen_of_block q1 0
  have HE : Hid (CurB (w1.setCell ⟨b, 0, none⟩ (.slice none 0 0)) b (.slice none 0 0)) := hidn (block_setCell q1 _)
  have HO : Hid ((w1.setCell ⟨b, 0, none⟩ (.slice none 0 0)).ownsRow w.heap.size 36 2 v1 len (vsm l)) := hidn (own_stay o1 (fun k hk => Below.heap_setCell _ ⟨b, 0, none⟩ _ _ (fun e => by
    have h9 := (o1.lt k hk).1
    have e9 : k = b := e
    omega)))
  have HB : Hid (∀ n, n ≤ w.heap.size → n ≤ b → Below n w (w1.setCell ⟨b, 0, none⟩ (.slice none 0 0))) := hidn (fun n hn hnb => (b1.mono hn).setCell (p := ⟨b, 0, none⟩) hnb _)
  obtain ⟨av, cv, rfl⟩ := own_slice o1
  clear o1 b1 q1 HC HQ
  go_wp2_with fail
  go_ret
  exact ⟨_, rfl, HO.out, HE.out, HB.out⟩

set_option maxHeartbeats 4000000 in
set_option maxRecDepth 100000 in
theorem awake26 (w : World) : Calls Try.prog 9 #[] w fun e w' => e = .returned (.bool true) ∧ Below w.heap.size w w' := by
  obtain ⟨w1, hw1⟩ : ∃ w1, w1 = ((w.alloc (.cells #[.int .i64 1, .int .u64 1, .int .i64 3, .int .u64 1] 36)).alloc (.cells #[.int .i64 3, .int .u64 2] 36)).alloc (.cells #[.int .i64 1, .slice (some ⟨w.heap.size, 0, none⟩) 2 2, .int .i64 2, .slice (some ⟨w.heap.size + 1, 0, none⟩) 1 1] 47) := ⟨_, rfl⟩
  have b1 : Below w.heap.size w w1 := by rw [hw1]; exact (((Below.refl _ w).alloc (Nat.le_refl _) _).alloc (by simp) _).alloc (by simp; omega) _
  have qA : w1.heap[w.heap.size]? = some (.cells #[.int .i64 1, .int .u64 1, .int .i64 3, .int .u64 1] 36 (0, 0)) := by
    rw [hw1]
    exact (((Below.refl (w.heap.size + 2) _).alloc (by simp) _).block _ (by omega)).trans (heap_alloc2_old w _ _)
  have qB : w1.heap[w.heap.size + 1]? = some (.cells #[.int .i64 3, .int .u64 2] 36 (0, 0)) := by
    rw [hw1]
    exact (((Below.refl (w.heap.size + 2) _).alloc (by simp) _).block _ (by omega)).trans (heap_alloc2_new w _ _)
  have qC : w1.heap[w.heap.size + 2]? = some (.cells #[.int .i64 1, .slice (some ⟨w.heap.size, 0, none⟩) 2 2, .int .i64 2, .slice (some ⟨w.heap.size + 1, 0, none⟩) 1 1] 47 (0, 0)) := by
    rw [hw1]
    have := heap_alloc_new ((w.alloc (.cells #[.int .i64 1, .int .u64 1, .int .i64 3, .int .u64 1] 36)).alloc (.cells #[.int .i64 3, .int .u64 2] 36)) (.cells #[.int .i64 1, .slice (some ⟨w.heap.size, 0, none⟩) 2 2, .int .i64 2, .slice (some ⟨w.heap.size + 1, 0, none⟩) 1 1] 47)
    simpa using this
  have HT : Two w1 (w.heap.size + 2) w.heap.size (w.heap.size + 1) := ⟨cell_of_row _ _ _ _ _ _ qC, cell_of_row _ _ _ _ _ _ qC, cell_of_row _ _ _ _ _ _ qC, cell_of_row _ _ _ _ _ _ qC, cell_of_row _ _ _ _ _ _ qA, cell_of_row _ _ _ _ _ _ qA, cell_of_row _ _ _ _ _ _ qA, cell_of_row _ _ _ _ _ _ qA, cell_of_row _ _ _ _ _ _ qB, cell_of_row _ _ _ _ _ _ qB⟩
  have HP := hidn (open_two _ _ _ w1 HT)
  have HW1 := hidn hw1
  have HB1 := hidn b1
  clear hw1 qA qB qC HT b1
  go_enter Try.func9, Try.ntmps9
  go_wp2_with fail
  rw [← HW1.out]
  refine HP.out.mono ?_
  rintro e w2 ⟨b, a2, c2, rfl, hb2, hq2, hs2, b2⟩
  have HA := hidn (all_any b a2 2 c2 _ w2 hq2 hs2 (by omega))
  have HB2 := hidn (HB1.out.trans (b2.mono HB1.out.size))
  have HLE := hidn hb2
  have HW := hidn b2.size
  clear hq2 hs2 b2 hb2
  go_wp2_with fail
  refine HA.out.mono ?_
  rintro e w3 ⟨v3, rfl, o3, _, b3⟩
  obtain ⟨a3, c3, rfl, _, hs3⟩ := sm_of_own o3 ok_two
  have hle : w.heap.size ≤ w2.heap.size := HB2.out.size
  have HB3 := hidn (HB2.out.trans (b3 _ hle (Nat.le_trans HB1.out.size HLE.out)))
  obtain ⟨w4, hw4⟩ : ∃ w4, w4 = w3.alloc (.cells #[.int .i64 1, .int .u64 1, .int .i64 3, .int .u64 2] 36) := ⟨_, rfl⟩
  have b4 : Below w3.heap.size w3 w4 := by rw [hw4]; exact (Below.refl _ w3).alloc (Nat.le_refl _) _
  have q4 : w4.heap[w3.heap.size]? = some (.cells #[.int .i64 1, .int .u64 1, .int .i64 3, .int .u64 2] 36 (0, 0)) := by rw [hw4]; exact heap_alloc_new w3 _
  have hs4 : Sm w4 (some ⟨w3.heap.size, 0, none⟩) 2 [⟨1, 1⟩, ⟨3, 2⟩] := by
    refine ⟨rfl, by unfold maxLen; omega, ok_two, (fun e => by cases e), fun x hx j hj => ?_⟩
    cases hx
    simp only [add_none, Nat.zero_add]
    match j, hj with
    | 0, _ => exact ⟨cell_of_row _ _ _ _ _ _ q4, cell_of_row _ _ _ _ _ _ q4⟩
    | 1, _ => exact ⟨cell_of_row _ _ _ _ _ _ q4, cell_of_row _ _ _ _ _ _ q4⟩
  have HE := hidn (seq_any a3 (some ⟨w3.heap.size, 0, none⟩) 2 c3 2 2 _ _ w4 (hs3.below b4) hs4)
  rw [dcd_true rfl] at HE
  have HW4 := hidn hw4
  have HB4 := hidn (HB3.out.trans (b4.mono HB3.out.size))
  clear hw4 b4 q4 hs4 hs3 o3 b3 HA
  go_wp2_with fail
  rw [← HW4.out]
  refine HE.out.mono ?_
  rintro e w5 ⟨rfl, b5⟩
  have HB5 := hidn (HB4.out.trans (b5.mono HB4.out.size))
  clear b5
  go_wp2_with fail
  go_ret
  exact ⟨rfl, HB5.out⟩
end Go.Proofs.Ytccjgciknaooaaa
