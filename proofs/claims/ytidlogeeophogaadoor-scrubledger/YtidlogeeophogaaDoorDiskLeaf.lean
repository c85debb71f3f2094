/- The small ones of the disk: isMade, burn, the names, New, Free, Fuse. -/
import Derived.Test.YtidlogeeophogaaDoorDiskDef
import Derived.Laws.Cover3
import Derived.Laws.Pointers
namespace Go.Proofs.YtidlogeeophogaaDoor
open Go.RowKit Go.Maps
set_option linter.unusedVariables false

set_option maxHeartbeats 1000000 in
theorem isMade_any (w : World) (d : Nat) (F : Nat → Prop) (N : Nat) (M : List UInt8 → List Ext) (free fuse : Int) (h : DiskOf w d F N M free fuse) :
    Calls Tryd.prog 64 #[.pointer (some ⟨d, 0, none⟩)] w fun e w' => e = .returned (.bool true) ∧ w' = w := by
  obtain ⟨bm, D, G, C, h1, _⟩ := h
  have c0 : w.cell? ⟨d, 0, none⟩ = some (.map (some bm)) := by rw [cell_of_row _ _ _ _ _ _ h1]; rfl
  clear h1
  have hmn := fun (wx : World) (m : Option Nat) => run_neq_map_nil (P := Tryd.prog) wx 36 9 121 m Tryd.underlying36
  have hpn := fun (wx : World) (p : Option Addr) => run_neq_pointer_nil (P := Tryd.prog) wx 35 p (by kernel_rfl)
  go_enter Tryd.func64, Tryd.ntmps64
  go_wp2
  go_ret
  exact ⟨rfl, rfl⟩

set_option maxHeartbeats 1000000 in
theorem burn_zero (w : World) (d : Nat) (F : Nat → Prop) (N : Nat) (M : List UInt8 → List Ext) (free : Int) (h : DiskOf w d F N M free 0) :
    Calls Tryd.prog 71 #[.pointer (some ⟨d, 0, none⟩)] w fun e w' => e = .returned (.bool false) ∧ w' = w := by
  obtain ⟨bm, D, G, C, h1, _⟩ := h
  have c2 : w.cell? ⟨d, 2, none⟩ = some (.int .i64 0) := by rw [cell_of_row _ _ _ _ _ _ h1]; rfl
  clear h1
  go_enter Tryd.func71, Tryd.ntmps71
  go_wp2
  go_ret
  exact ⟨rfl, rfl⟩

set_option maxHeartbeats 1000000 in
theorem canIn_any (w : World) (c : Nat) (hc : c < 256) :
    Calls Tryd.prog 104 #[.int .u8 c] w fun e w' => e = .returned (.bool (decide ((97 ≤ c ∧ c ≤ 122) ∨ (48 ≤ c ∧ c ≤ 57) ∨ c = 46))) ∧ w' = w := by
  by_cases h1 : 97 ≤ c
  · by_cases h2 : c ≤ 122
    · have e : decide ((97 ≤ c ∧ c ≤ 122) ∨ (48 ≤ c ∧ c ≤ 57) ∨ c = 46) = true := by simp [h1, h2]
      rw [e]
      clear e
      have h1' : (97 : Int) ≤ (c : Int) := by omega
      have h2' : (c : Int) ≤ 122 := by omega
      go_enter Tryd.func104, Tryd.ntmps104
      go_wp2
      go_ret
      exact ⟨rfl, rfl⟩
    · have e : decide ((97 ≤ c ∧ c ≤ 122) ∨ (48 ≤ c ∧ c ≤ 57) ∨ c = 46) = false := by simp; omega
      rw [e]
      clear e
      have h1' : (97 : Int) ≤ (c : Int) := by omega
      have h2' : ¬ (c : Int) ≤ 122 := by omega
      have h3' : (48 : Int) ≤ (c : Int) := by omega
      have h4' : ¬ (c : Int) ≤ 57 := by omega
      have h5' : ((c : Int) == 46) = false := beq_eq_false_iff_ne.2 (by omega)
      go_enter Tryd.func104, Tryd.ntmps104
      go_wp2
      go_ret
      exact ⟨rfl, rfl⟩
  · have h1' : ¬ (97 : Int) ≤ (c : Int) := by omega
    by_cases h3 : 48 ≤ c
    · have h3' : (48 : Int) ≤ (c : Int) := by omega
      by_cases h4 : c ≤ 57
      · have e : decide ((97 ≤ c ∧ c ≤ 122) ∨ (48 ≤ c ∧ c ≤ 57) ∨ c = 46) = true := by simp [h3, h4]
        rw [e]
        clear e
        have h4' : (c : Int) ≤ 57 := by omega
        go_enter Tryd.func104, Tryd.ntmps104
        go_wp2
        go_ret
        exact ⟨rfl, rfl⟩
      · have e : decide ((97 ≤ c ∧ c ≤ 122) ∨ (48 ≤ c ∧ c ≤ 57) ∨ c = 46) = false := by simp; omega
        rw [e]
        clear e
        have h4' : ¬ (c : Int) ≤ 57 := by omega
        have h5' : ((c : Int) == 46) = false := beq_eq_false_iff_ne.2 (by omega)
        go_enter Tryd.func104, Tryd.ntmps104
        go_wp2
        go_ret
        exact ⟨rfl, rfl⟩
    · have h3' : ¬ (48 : Int) ≤ (c : Int) := by omega
      by_cases h5 : c = 46
      · subst h5
        go_enter Tryd.func104, Tryd.ntmps104
        go_wp2
        go_ret
        exact ⟨rfl, rfl⟩
      · have e : decide ((97 ≤ c ∧ c ≤ 122) ∨ (48 ≤ c ∧ c ≤ 57) ∨ c = 46) = false := by simp; omega
        rw [e]
        clear e
        have h5' : ((c : Int) == 46) = false := beq_eq_false_iff_ne.2 (by omega)
        go_enter Tryd.func104, Tryd.ntmps104
        go_wp2
        go_ret
        exact ⟨rfl, rfl⟩
end Go.Proofs.YtidlogeeophogaaDoor
