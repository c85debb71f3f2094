/- The log: the small ones: Need, isNumber, isMade, halves, Name of a small number. -/
import Derived.Test.YthhnpajaacfapaaDoorPairBase
import Derived.Test.YthhnpajaacfapaaDoorWaShelf
namespace Go.Proofs.YthhnpajaacfapaaDoor
open Go.RowKit Go.Maps
set_option linter.unusedVariables false

/-- How many extents a record has. -/
def needB (size : Int) : Nat := if size < 1 ∨ 1000000 < size then 0 else (size.toNat + 3) / 106 + 1

theorem needB_yes (n : Nat) (h1 : 1 ≤ n) (h2 : n ≤ 1000000) : needB (n : Int) = (n + 3) / 106 + 1 := by
  unfold needB
  rw [if_neg (by omega)]
  simp

set_option maxHeartbeats 1000000 in
theorem wneed_any (w : World) (size : Int) :
    Calls Tryd.prog 14 #[.int .i64 size] w fun e w' => e = .returned (.int .i64 (needB size : Nat)) ∧ w' = w := by
  by_cases h0 : size < 1
  · have e : needB size = 0 := by unfold needB; rw [if_pos (Or.inl h0)]
    rw [e]
    go_enter Tryd.func14, Tryd.ntmps14
    go_wp2
    go_ret
    exact ⟨rfl, rfl⟩
  · by_cases h1 : 1000000 < size
    · have e : needB size = 0 := by unfold needB; rw [if_pos (Or.inr h1)]
      rw [e]
      have h0' : decide (size < 1) = false := by simpa using h0
      have h1' : decide (1000000 < size) = true := by simpa using h1
      go_enter Tryd.func14, Tryd.ntmps14
      go_wp2
      go_ret
      exact ⟨rfl, rfl⟩
    · obtain ⟨m, hm⟩ : ∃ m : Nat, size = (m : Int) := ⟨size.toNat, by omega⟩
      subst hm
      have e : needB (m : Int) = (m + 3) / 106 + 1 := needB_yes m (by omega) (by omega)
      have E := hidn e
      have h0' : decide ((m : Int) < 1) = false := by simpa using h0
      have h1' : decide (1000000 < (m : Int)) = false := by simpa using h1
      obtain ⟨q, hq⟩ : ∃ q : Nat, q = (m + 3) / 106 := ⟨_, rfl⟩
      have hw1 : IntKind.i64.wrap (4 + (m : Int)) = ((m + 4 : Nat) : Int) := by rw [IntKind.wrap_i64]; omega
      have hw1' : IntKind.i64.wrap (((m + 4 : Nat) : Int) - 1) = ((m + 3 : Nat) : Int) := by rw [IntKind.wrap_i64]; omega
      obtain ⟨m4, hm4⟩ : ∃ m4 : Nat, m4 = m + 4 := ⟨_, rfl⟩
      obtain ⟨m3, hm3⟩ : ∃ m3 : Nat, m3 = m + 3 := ⟨_, rfl⟩
      rw [← hm4] at hw1 hw1'
      rw [← hm3] at hw1'
      have hw2 : (m3 : Int).tdiv 106 = (q : Int) := by rw [Int.tdiv_eq_ediv_of_nonneg (by omega)]; omega
      have hw3 : IntKind.i64.wrap ((q : Int)) = (q : Int) := by rw [IntKind.wrap_i64]; omega
      have hw4 : IntKind.i64.wrap ((q : Int) + 1) = (q : Int) + 1 := by rw [IntKind.wrap_i64]; omega
      have HQ := hidn hq
      clear e hq hm4 hm3
      go_enter Tryd.func14, Tryd.ntmps14
      go_wp2
      go_ret
      rw [E.out, ← HQ.out]
      exact ⟨rfl, rfl⟩

set_option maxHeartbeats 1000000 in
theorem isNumber_yes (w : World) (n : Int) (h0 : 0 ≤ n) (h1 : n ≤ 4611686018427387904) :
    Calls Tryd.prog 15 #[.int .i64 n] w fun e w' => e = .returned (.bool true) ∧ w' = w := by
  have h0' : decide (0 ≤ n) = true := by simpa using h0
  have h1' : decide (n ≤ 4611686018427387904) = true := by simpa using h1
  go_enter Tryd.func15, Tryd.ntmps15
  go_wp2
  go_ret
  exact ⟨rfl, rfl⟩

set_option maxHeartbeats 1000000 in
theorem walMade (w : World) (d : Nat) (F : Nat → Prop) (N : Nat) (M : List UInt8 → List Ext) (free fuse : Int) (h : DiskOf w d F N M free fuse) (hM0 : M [] = []) :
    Calls Tryd.prog 13 #[.pointer (some ⟨d, 0, none⟩)] w fun e w' => e = .returned (.bool true) ∧ Below w.heap.size w w' := by
  have hn : Hid ((0 : Nat) = (M (ByteArray.mk #[]).data.toList).length) := hidn (by show 0 = (M []).length; rw [hM0]; rfl)
  clear hM0
  go_enter Tryd.func13, Tryd.ntmps13
  go_wp2_with fail
  refine (diskRead_none _ d F N M free fuse h ⟨#[]⟩ (by decide) 0 0 hn (Or.inr (by omega))).mono ?_
  rintro e w1 ⟨rfl, hb⟩
  go_wp2
  go_ret
  exact ⟨rfl, hb⟩

set_option maxHeartbeats 1000000 in
theorem whalves_any (w : World) (s : ByteArray) (hs : s.size ≤ 1000) :
    Calls Tryd.prog 18 #[.string s] w fun e w' => e = .returned (.agg #[.string (fileA s), .string (fileB s)]) ∧ Below w.heap.size w w' := by
  have ha : s ++ ⟨#[46, 97]⟩ = fileA s := rfl
  have hb : s ++ ⟨#[46, 98]⟩ = fileB s := rfl
  have h1 : s.size + 2 ≤ 1002 := by omega
  go_enter Tryd.func18, Tryd.ntmps18
  go_wp2
  exact bodyPost_ret (v := .agg #[.string (fileA s), .string (fileB s)]) (results_cell_row rfl _ _ w.heap.size 52 _ (0, 0) _ rfl (heap_alloc_new _ _) Tryd.underlying52 rfl (by kernel_rfl)) rfl ⟨rfl, (Below.refl _ _).alloc (Nat.le_refl _) _⟩

/-- A segment's name. -/
def segN (k : Nat) : ByteArray := ⟨#[119]⟩ ++ ⟨(Lib.decDigits k).toArray⟩

set_option maxHeartbeats 1000000 in
theorem wname_small (w : World) (k : Nat) (hk : k < 100) :
    Calls Tryd.prog 19 #[.int .i64 (k : Int)] w fun e w' => e = .returned (.string (segN k)) ∧ w' = w := by
  have hmx : (if (0 : Int) < (k : Int) then (k : Int) else 0) = (k : Int) := by split <;> omega
  have hmx2 : max (k : Int) 0 = (k : Int) := by omega
  have hmx3 : (if (k : Int) < 0 then (0 : Int) else (k : Int)) = (k : Int) := by split <;> omega
  have hsz : (⟨(Lib.decDigits k).toArray⟩ : ByteArray).size ≤ 100 := by
    have : ∀ k < 100, (⟨(Lib.decDigits k).toArray⟩ : ByteArray).size ≤ 100 := by decide +kernel
    exact this k hk
  have hI := Tryd.strconv_Itoa_small k hk w
  have HS : Hid (segN k = ⟨#[119]⟩ ++ ⟨(Lib.decDigits k).toArray⟩) := hidn rfl
  generalize (⟨(Lib.decDigits k).toArray⟩ : ByteArray) = ds at *
  go_enter Tryd.func19, Tryd.ntmps19
  go_wp2_with fail
  refine hI.mono ?_
  rintro e w1 ⟨rfl, rfl⟩
  go_wp2
  go_ret
  rw [HS.out]
  exact ⟨rfl, rfl⟩
end Go.Proofs.YthhnpajaacfapaaDoor
