/- match: takeSign. -/
import Derived.Test.YtobjpofdchjciaaDoorMatA
import Derived.Test.YtobjpofdchjciaaDoorLabUnq
import Derived.Test.YtobjpofdchjciaaDoorMShelf
namespace Go.Proofs.YtobjpofdchjciaaDoor
open Go.RowKit Go.Joins
set_option linter.unusedVariables false
def signAt (k : Nat) : ByteArray := if k = 1 then ⟨#[61]⟩ else if k = 2 then ⟨#[33, 61]⟩ else if k = 3 then ⟨#[61, 126]⟩ else ⟨#[33, 126]⟩
/-- The table of the signs holds what its text lays. -/
def SignTab (w : World) : Prop := ∀ k, 1 ≤ k → k ≤ 4 → w.cell? ⟨0, k, none⟩ = some (.string (signAt k))
theorem SignTab.below {w w' : World} (h : SignTab w) (hb : Below w.heap.size w w') : SignTab w' := fun k h1 h2 => (hb.cell (block_lt_of_cell (h k h1 h2))).trans (h k h1 h2)
def trimS (s p : ByteArray) : ByteArray := ⟨(Lib.trimPrefix s.data.toList p.data.toList).toArray⟩
def hasS (s p : ByteArray) : Bool := Lib.hasPrefix s.data.toList p.data.toList
def signFrom (s : ByteArray) : Nat → Nat × ByteArray
  | 0 => (0, s)
  | k + 1 => if hasS s (signAt (k + 1)) = true then (k + 1, trimS s (signAt (k + 1))) else signFrom s k
theorem cutC (s p : ByteArray) (w : World) :
    Calls Tryd.prog 26 #[.string s, .string p] w fun e w' => e = .returned (.tuple #[.string (trimS s p), .bool (hasS s p)]) ∧ w' = w := by
  refine (Tryd.strings_CutPrefix s p w).mono ?_
  rintro e w1 ⟨rfl, rfl⟩
  exact ⟨rfl, rfl⟩
set_option maxHeartbeats 2000000 in
set_option maxRecDepth 100000 in
theorem takeSign_any (s : ByteArray) (w : World) (ht : SignTab w) :
    Calls Tryd.prog 33 #[.string s] w fun e w' => e = .returned (.tuple #[.int .i64 ((signFrom s 4).1 : Int), .string (signFrom s 4).2]) ∧ Below w.heap.size w w' := by
  obtain ⟨Z, hZ⟩ : ∃ Z, Z = signFrom s 4 := ⟨_, rfl⟩
  rw [← hZ]
  have HZ := hidn hZ
  clear hZ
  go_enter Tryd.func33, Tryd.ntmps33
  go_wp2_with fail
  go_loopw [4] (fun kv wr => ∃ k : Nat, kv = .int .i64 (k : Int) ∧ k ≤ 4 ∧ Below w.heap.size w wr ∧ Hid (Z = signFrom s k)) (fun kv _ => (intOf kv).toNat)
  case atStart => exact ⟨4, rfl, Nat.le_refl _, Below.refl _ _, HZ⟩
  case round =>
    obtain ⟨k, rfl, hk, hb, HPk⟩ := hrel
    cases k with
    | zero =>
      have hS : Hid (Z = (0, s)) := HPk
      have g0 : ¬ (1 : Int) ≤ ((0 : Nat) : Int) := by omega
      go_wp2_with fail
      exact bodyPost_ret (v := .tuple #[.int .i64 0, .string s]) (by simp [results, Tryd.results33, go_sem]) rfl ⟨by rw [hS.out]; rfl, hb⟩
    | succ k =>
      have ht2 := ht.below hb (k + 1) (by omega) hk
      obtain ⟨m, hm⟩ : ∃ m, m = k + 1 := ⟨_, rfl⟩
      rw [← hm] at ht2 hk HPk ⊢
      have g1 : (1 : Int) ≤ (m : Int) := by omega
      have g2 : (m : Int) < 5 := by omega
      have g3 : m < 5 := by omega
      have hmk : (m : Int) - 1 = (k : Int) := by omega
      have HM := hidn hm
      clear hm
      cases hh : hasS s (signAt m) with
      | true =>
        have hS : Hid (Z = (m, trimS s (signAt m))) := hidn (by rw [HPk.out, HM.out, signFrom, ← HM.out, hh]; rfl)
        generalize signAt m = sg at *
        go_wp2_with fail
        refine (cutC s sg _).mono ?_
        rintro e w2 ⟨rfl, rfl⟩
        rw [hh]
        go_wp2_with fail
        exact bodyPost_ret (v := .tuple #[.int .i64 (m : Int), .string (trimS s sg)]) (by simp [results, Tryd.results33, go_sem]) rfl ⟨by rw [hS.out], hb⟩
      | false =>
        have hS : Hid (Z = signFrom s k) := hidn (by rw [HPk.out, HM.out, signFrom, ← HM.out, hh]; rfl)
        generalize signAt m = sg at *
        go_wp2_with fail
        refine (cutC s sg _).mono ?_
        rintro e w2 ⟨rfl, rfl⟩
        rw [hh]
        go_wp2_with fail
        exact ⟨⟨k, rfl, by omega, hb, hS⟩, by simp [intOf]; omega⟩
end Go.Proofs.YtobjpofdchjciaaDoor
