/- Stripes: the small ones. -/
import Derived.Test.YtmoeoffjlicdjacDoorStrOfP
namespace Go.Proofs.YtmoeoffjlicdjacDoor
open Go.RowKit Go.Maps
set_option linter.unusedVariables false

set_option maxHeartbeats 1000000 in
theorem stripeMade (w : World) (d : Nat) (F : Nat → Prop) (N : Nat) (M : List UInt8 → List Ext) (free fuse : Int) (h : DiskOf w d F N M free fuse) (hM0 : M [] = []) :
    Calls Tryd.prog 41 #[.pointer (some ⟨d, 0, none⟩)] w fun e w' => e = .returned (.bool true) ∧ Below w.heap.size w w' := by
  have hn : Hid ((0 : Nat) = (M (ByteArray.mk #[]).data.toList).length) := hidn (by show 0 = (M []).length; rw [hM0]; rfl)
  clear hM0
  go_enter Tryd.func41, Tryd.ntmps41
  go_wp2_with fail
  refine (diskRead_none _ d F N M free fuse h ⟨#[]⟩ (by decide) 0 0 hn (Or.inr (by omega))).mono ?_
  rintro e w1 ⟨rfl, hb⟩
  go_wp2
  go_ret
  exact ⟨rfl, hb⟩

/-- A stripe's files. -/
def sf0 (s : ByteArray) : ByteArray := s ++ ⟨#[46, 48]⟩
def sf1 (s : ByteArray) : ByteArray := s ++ ⟨#[46, 49]⟩
def sf2 (s : ByteArray) : ByteArray := s ++ ⟨#[46, 50]⟩
def sf3 (s : ByteArray) : ByteArray := s ++ ⟨#[46, 112]⟩

set_option maxHeartbeats 1000000 in
theorem files_any (w : World) (s : ByteArray) (hs : s.size ≤ 1000) :
    Calls Tryd.prog 43 #[.string s] w fun e w' => e = .returned (.agg #[.string (sf0 s), .string (sf1 s), .string (sf2 s), .string (sf3 s)]) ∧ Below w.heap.size w w' := by
  have ha : s ++ ⟨#[46, 48]⟩ = sf0 s := rfl
  have hb : s ++ ⟨#[46, 49]⟩ = sf1 s := rfl
  have hc : s ++ ⟨#[46, 50]⟩ = sf2 s := rfl
  have hd : s ++ ⟨#[46, 112]⟩ = sf3 s := rfl
  have h1 : s.size + 2 ≤ 1002 := by omega
  go_enter Tryd.func43, Tryd.ntmps43
  go_wp2
  exact bodyPost_ret (v := .agg #[.string (sf0 s), .string (sf1 s), .string (sf2 s), .string (sf3 s)]) (results_cell_row rfl _ _ w.heap.size 80 _ (0, 0) _ rfl (heap_alloc_new _ _) Tryd.underlying80 rfl (by kernel_rfl)) rfl ⟨rfl, (Below.refl _ _).alloc (Nat.le_refl _) _⟩

/-- How many groups a text has. -/
def grpB (len : Nat) : Nat := if len = 0 then 1 else (len - 1) / 315 + 1

set_option maxHeartbeats 1000000 in
theorem groups_any (w : World) (len : Int) (hl : len ≤ 9223372036854775807) :
    Calls Tryd.prog 22 #[.int .i64 len] w fun e w' => e = .returned (.int .i64 (grpB len.toNat : Nat)) ∧ w' = w := by
  by_cases h0 : len ≤ 0
  · have e : grpB len.toNat = 1 := by unfold grpB; rw [if_pos (by omega)]
    rw [e]
    clear e
    go_enter Tryd.func22, Tryd.ntmps22
    go_wp2
    go_ret
    exact ⟨rfl, rfl⟩
  · obtain ⟨m, hm⟩ : ∃ m : Nat, len = (m : Int) + 1 := ⟨(len - 1).toNat, by omega⟩
    have e : grpB len.toNat = m / 315 + 1 := by unfold grpB; rw [if_neg (by omega), hm]; simp
    have E := hidn e
    have h1 : decide (len ≤ 0) = false := by simpa using h0
    have hw1 : IntKind.i64.wrap (len - 1) = (m : Int) := by rw [IntKind.wrap_i64]; omega
    have hw2 : (m : Int).tdiv 315 = ((m / 315 : Nat) : Int) := by rw [Int.tdiv_eq_ediv_of_nonneg (by omega)]; simp
    have hw3 : IntKind.i64.wrap (((m / 315 : Nat) : Int)) = ((m / 315 : Nat) : Int) := by rw [IntKind.wrap_i64]; omega
    have hw4 : IntKind.i64.wrap (((m / 315 : Nat) : Int) + 1) = ((m / 315 : Nat) : Int) + 1 := by rw [IntKind.wrap_i64]; omega
    clear e hm
    generalize m / 315 = q at *
    go_enter Tryd.func22, Tryd.ntmps22
    go_wp2
    go_ret
    rw [E.out]
    exact ⟨rfl, rfl⟩

set_option maxHeartbeats 1000000 in
theorem sneed_any (w : World) (size : Int) (hl : size ≤ 9223372036854775807) :
    Calls Tryd.prog 20 #[.int .i64 size] w fun e w' => e = .returned (.int .i64 (4 * grpB size.toNat : Nat)) ∧ w' = w := by
  obtain ⟨E, hE⟩ : ∃ E, E = grpB size.toNat := ⟨_, rfl⟩
  have hEb : E ≤ 100000000000000000 := by rw [hE]; unfold grpB; split <;> omega
  have hw : IntKind.i64.wrap (4 * (E : Int)) = 4 * (E : Int) := by rw [IntKind.wrap_i64]; omega
  have hEx := fun wx => groups_any wx size hl
  rw [← hE] at hEx ⊢
  clear hE
  go_enter Tryd.func20, Tryd.ntmps20
  go_wp2_with fail
  refine (hEx _).mono ?_
  rintro e w2 ⟨rfl, rfl⟩
  go_wp2
  go_ret
  exact ⟨rfl, rfl⟩

set_option maxHeartbeats 1000000 in
theorem refGroups_any (w : World) (size : Int) (hl : size ≤ 9223372036854775807) :
    Calls Tryd.prog 23 #[.int .i64 size] w fun e w' => e = .returned (.int .i64 (grpB size.toNat : Nat)) ∧ w' = w := by
  by_cases h0 : size ≤ 0
  · have e : grpB size.toNat = 1 := by unfold grpB; rw [if_pos (by omega)]
    have hmx : (if size < 0 then (0 : Int) else size) = 0 := by split <;> omega
    rw [e]
    clear e
    go_enter Tryd.func23, Tryd.ntmps23
    go_wp2
    go_ret
    exact ⟨rfl, rfl⟩
  · obtain ⟨m, hm⟩ : ∃ m : Nat, size = (m : Int) + 1 := ⟨(size - 1).toNat, by omega⟩
    obtain ⟨q, hq⟩ : ∃ q, q = m / 105 := ⟨_, rfl⟩
    obtain ⟨u, hu⟩ : ∃ u, u = q / 3 := ⟨_, rfl⟩
    have e : grpB size.toNat = u + 1 := by
      unfold grpB
      rw [if_neg (by omega), hm, hu, hq, Nat.div_div_eq_div_mul]
      simp
    have E := hidn e
    have hmx : (if size < 0 then (0 : Int) else size) = size := by split <;> omega
    have h1 : (size == 0) = false := beq_eq_false_iff_ne.2 (by omega)
    have hw1 : IntKind.i64.wrap (size - 1) = (m : Int) := by rw [IntKind.wrap_i64]; omega
    have hw2 : (m : Int).tdiv 105 = (q : Int) := by rw [Int.tdiv_eq_ediv_of_nonneg (by omega), hq]; simp
    have hw3 : IntKind.i64.wrap (q : Int) = (q : Int) := by rw [IntKind.wrap_i64]; omega
    have hw4 : IntKind.i64.wrap ((q : Int) + 1) = ((q + 1 : Nat) : Int) := by rw [IntKind.wrap_i64]; omega
    have hw5 : IntKind.i64.wrap (((q + 1 : Nat) : Int) - 1) = (q : Int) := by rw [IntKind.wrap_i64]; omega
    have hw6 : (q : Int).tdiv 3 = (u : Int) := by rw [Int.tdiv_eq_ediv_of_nonneg (by omega), hu]; simp
    have hw7 : IntKind.i64.wrap (u : Int) = (u : Int) := by rw [IntKind.wrap_i64]; omega
    have hw8 : IntKind.i64.wrap ((u : Int) + 1) = (u : Int) + 1 := by rw [IntKind.wrap_i64]; omega
    obtain ⟨q1, hq1⟩ : ∃ q1, q1 = q + 1 := ⟨_, rfl⟩
    rw [← hq1] at hw4 hw5
    clear e hm hq hu hq1
    go_enter Tryd.func23, Tryd.ntmps23
    go_wp2
    go_ret
    rw [E.out]
    exact ⟨by push_cast; rfl, rfl⟩

set_option maxHeartbeats 1000000 in
theorem refNeed6_any (w : World) (size : Int) (hl : size ≤ 9223372036854775807) :
    Calls Tryd.prog 21 #[.int .i64 size] w fun e w' => e = .returned (.int .i64 (4 * grpB size.toNat : Nat)) ∧ w' = w := by
  obtain ⟨E, hE⟩ : ∃ E, E = grpB size.toNat := ⟨_, rfl⟩
  have hEb : E ≤ 100000000000000000 := by rw [hE]; unfold grpB; split <;> omega
  have hw : IntKind.i64.wrap (4 * (E : Int)) = 4 * (E : Int) := by rw [IntKind.wrap_i64]; omega
  have hEx := fun wx => refGroups_any wx size hl
  rw [← hE] at hEx ⊢
  clear hE
  go_enter Tryd.func21, Tryd.ntmps21
  go_wp2_with fail
  refine (hEx _).mono ?_
  rintro e w2 ⟨rfl, rfl⟩
  go_wp2
  go_ret
  exact ⟨rfl, rfl⟩

set_option maxHeartbeats 1000000 in
theorem sdrop_none (w : World) (d : Nat) (F : Nat → Prop) (N : Nat) (M : List UInt8 → List Ext) (free fuse : Int) (h : DiskOf w d F N M free fuse) (hM0 : M [] = []) (s f0 f1 f2 f3 : ByteArray) (hs : s.size ≤ 1000) (e0 : Hid (f0 = sf0 s)) (e1 : Hid (f1 = sf1 s)) (e2 : Hid (f2 = sf2 s)) (e3 : Hid (f3 = sf3 s))
    (H0 : Hid (M f0.data.toList = [])) (H1 : Hid (M f1.data.toList = [])) (H2 : Hid (M f2.data.toList = [])) (H3 : Hid (M f3.data.toList = [])) (h0s : f0.size ≤ maxLen) (h1s : f1.size ≤ maxLen) (h2s : f2.size ≤ maxLen) (h3s : f3.size ≤ maxLen) :
    Calls Tryd.prog 42 #[.pointer (some ⟨d, 0, none⟩), .string s] w fun e w' => e = .returned (.int .i64 0) ∧ Below w.heap.size w w' := by
  have hHv := fun wx => files_any wx s hs
  rw [← e0.out, ← e1.out, ← e2.out, ← e3.out] at hHv
  go_enter Tryd.func42, Tryd.ntmps42
  go_wp2_with fail
  refine (stripeMade _ d F N M free fuse h hM0).mono ?_
  rintro e w1 ⟨rfl, hb1⟩
  go_wp2_with fail
  refine (hHv _).mono ?_
  rintro e w2 ⟨rfl, hb2⟩
  have hb12 : Below w.heap.size w w2 := hb1.trans (hb2.mono hb1.size)
  have hD2 := hidn (h.below hb12)
  clear h hb1 hb2 hHv
  have hi0 : ∀ wx : World, (Instr.index 80 (.agg #[.string f0, .string f1, .string f2, .string f3]) (.int .i64 0)).run Tryd.prog wx = .ok (.string f0) wx := fun wx => by kernel_rfl
  have hi1 : ∀ wx : World, (Instr.index 80 (.agg #[.string f0, .string f1, .string f2, .string f3]) (.int .i64 1)).run Tryd.prog wx = .ok (.string f1) wx := fun wx => by kernel_rfl
  have hi2 : ∀ wx : World, (Instr.index 80 (.agg #[.string f0, .string f1, .string f2, .string f3]) (.int .i64 2)).run Tryd.prog wx = .ok (.string f2) wx := fun wx => by kernel_rfl
  have hi3 : ∀ wx : World, (Instr.index 80 (.agg #[.string f0, .string f1, .string f2, .string f3]) (.int .i64 3)).run Tryd.prog wx = .ok (.string f3) wx := fun wx => by kernel_rfl
  go_wp2_with fail
  go_loopw [13] (fun iv wr => ∃ k : Nat, k ≤ 4 ∧ iv = .int .i64 k ∧ wr = w2) (fun iv _ => 4 - (intOf iv).toNat)
  case atStart => exact ⟨0, by omega, rfl, rfl⟩
  case round =>
    obtain ⟨k, hk, rfl, rfl⟩ := hrel
    match k, hk with
    | 0, _ =>
      go_wp2_with fail
      refine (remove_none _ d F N M free fuse hD2.out f0 h0s H0.out).mono ?_
      rintro e w3 ⟨rfl, rfl⟩
      go_wp2
      go_roundw
      case rel => exact ⟨1, by omega, by first | rfl | go_num | simp, by first | rfl | trivial⟩
      case measure => simp [intOf]
    | 1, _ =>
      go_wp2_with fail
      refine (remove_none _ d F N M free fuse hD2.out f1 h1s H1.out).mono ?_
      rintro e w3 ⟨rfl, rfl⟩
      go_wp2
      go_roundw
      case rel => exact ⟨2, by omega, by first | rfl | go_num | simp, by first | rfl | trivial⟩
      case measure => simp [intOf]
    | 2, _ =>
      go_wp2_with fail
      refine (remove_none _ d F N M free fuse hD2.out f2 h2s H2.out).mono ?_
      rintro e w3 ⟨rfl, rfl⟩
      go_wp2
      go_roundw
      case rel => exact ⟨3, by omega, by first | rfl | go_num | simp, by first | rfl | trivial⟩
      case measure => simp [intOf]
    | 3, _ =>
      go_wp2_with fail
      refine (remove_none _ d F N M free fuse hD2.out f3 h3s H3.out).mono ?_
      rintro e w3 ⟨rfl, rfl⟩
      go_wp2
      go_roundw
      case rel => exact ⟨4, by omega, by first | rfl | go_num | simp, by first | rfl | trivial⟩
      case measure => simp [intOf]
    | 4, _ =>
      go_wp2
      go_ret
      exact ⟨rfl, hb12⟩
end Go.Proofs.YtmoeoffjlicdjacDoor
