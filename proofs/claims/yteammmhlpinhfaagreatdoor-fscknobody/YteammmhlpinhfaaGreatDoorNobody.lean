/- A disk that no call made: the contracts of what is asked of it. -/
import Derived.Test.YteammmhlpinhfaaGreatDoorDiskLeaf
namespace Go.Proofs.YteammmhlpinhfaaGreatDoor
open Go.RowKit Go.Maps
set_option linter.unusedVariables false

/-- A pointer to no disk, or to one that is zero. -/
def Unmade (w : World) (v : Value) : Prop := v = .pointer none ∨ ∃ b, v = .pointer (some ⟨b, 0, none⟩) ∧ w.cell? ⟨b, 0, none⟩ = some (.map none) ∧ b < w.heap.size
theorem Unmade.below {w w' : World} {v : Value} (h : Unmade w v) (hb : Below w.heap.size w w') : Unmade w' v := by
  rcases h with h | ⟨b, h1, h2, h3⟩
  · exact .inl h
  · exact .inr ⟨b, h1, (hb.cell (p := ⟨b, 0, none⟩) h3).trans h2, Nat.lt_of_lt_of_le h3 hb.size⟩

set_option maxHeartbeats 1000000 in
theorem isMade_un (w : World) (v : Value) (h : Unmade w v) :
    Calls Tryz.prog 22 #[v] w fun e w' => e = .returned (.bool false) ∧ w' = w := by
  have hmn := fun (wx : World) (m : Option Nat) => run_neq_map_nil (P := Tryz.prog) wx 23 9 64 m Tryz.underlying23
  have hpn := fun (wx : World) (p : Option Addr) => run_neq_pointer_nil (P := Tryz.prog) wx 22 p (by kernel_rfl)
  rcases h with rfl | ⟨b, rfl, c0, _⟩
  · go_enter Tryz.func22, Tryz.ntmps22
    go_wp2
    go_ret
    exact ⟨rfl, rfl⟩
  · go_enter Tryz.func22, Tryz.ntmps22
    go_wp2
    go_ret
    exact ⟨rfl, rfl⟩

set_option maxHeartbeats 1000000 in
theorem read_un (w : World) (v : Value) (h : Unmade w v) (x y : Value) :
    Calls Tryz.prog 18 #[v, x, y] w fun e w' => e = .returned (.tuple #[.slice none 0 0, .int .i64 2]) ∧ Below w.heap.size w w' := by
  go_enter Tryz.func18, Tryz.ntmps18
  go_wp2_with fail
  refine (isMade_un _ v h).mono ?_
  rintro e w1 ⟨rfl, rfl⟩
  go_wp2
  exact bodyPost_ret (v := .tuple #[.slice none 0 0, .int .i64 2]) (by simp [results, Tryz.results18, go_sem]) rfl ⟨rfl, Below.refl _ _⟩

set_option maxHeartbeats 1000000 in
theorem sMade_un (w : World) (v : Value) (h : Unmade w v) :
    Calls Tryz.prog 154 #[v] w fun e w' => e = .returned (.bool false) ∧ Below w.heap.size w w' := by
  go_enter Tryz.func154, Tryz.ntmps154
  go_wp2_with fail
  refine (read_un _ v h _ _).mono ?_
  rintro e w1 ⟨rfl, b1⟩
  go_wp2
  go_ret
  exact ⟨rfl, b1⟩

set_option maxHeartbeats 1000000 in
theorem sPart_un (w : World) (v : Value) (h : Unmade w v) (y0 y1 y2 y3 : Value) :
    Calls Tryz.prog 115 #[v, y0, y1, y2, y3] w fun e w' => e = .returned (.tuple #[.slice none 0 0, .int .i64 2]) ∧ Below w.heap.size w w' := by
  go_enter Tryz.func115, Tryz.ntmps115
  go_wp2_with fail
  refine (sMade_un _ v h).mono ?_
  rintro e w1 ⟨rfl, b1⟩
  go_wp2
  exact bodyPost_ret (v := .tuple #[.slice none 0 0, .int .i64 2]) (by simp [results, Tryz.results115, go_sem]) rfl ⟨rfl, b1⟩

set_option maxHeartbeats 1000000 in
theorem pMade_un (w : World) (v : Value) (h : Unmade w v) :
    Calls Tryz.prog 58 #[v] w fun e w' => e = .returned (.bool false) ∧ Below w.heap.size w w' := by
  go_enter Tryz.func58, Tryz.ntmps58
  go_wp2_with fail
  refine (read_un _ v h _ _).mono ?_
  rintro e w1 ⟨rfl, b1⟩
  go_wp2
  go_ret
  exact ⟨rfl, b1⟩

set_option maxHeartbeats 1000000 in
theorem pLoad_un (w : World) (v : Value) (h : Unmade w v) (y0 y1 : Value) :
    Calls Tryz.prog 37 #[v, y0, y1] w fun e w' => e = .returned (.tuple #[.slice none 0 0, .int .i64 2]) ∧ Below w.heap.size w w' := by
  go_enter Tryz.func37, Tryz.ntmps37
  go_wp2_with fail
  refine (pMade_un _ v h).mono ?_
  rintro e w1 ⟨rfl, b1⟩
  go_wp2
  exact bodyPost_ret (v := .tuple #[.slice none 0 0, .int .i64 2]) (by simp [results, Tryz.results37, go_sem]) rfl ⟨rfl, b1⟩

set_option maxHeartbeats 1000000 in
theorem pGet_un (w : World) (v : Value) (h : Unmade w v) (y0 y1 : Value) :
    Calls Tryz.prog 27 #[v, y0, y1] w fun e w' => e = .returned (.tuple #[.slice none 0 0, .int .i64 0, .int .i64 2]) ∧ Below w.heap.size w w' := by
  go_enter Tryz.func27, Tryz.ntmps27
  go_wp2_with fail
  refine (pMade_un _ v h).mono ?_
  rintro e w1 ⟨rfl, b1⟩
  go_wp2
  exact bodyPost_ret (v := .tuple #[.slice none 0 0, .int .i64 0, .int .i64 2]) (by simp [results, Tryz.results27, go_sem]) rfl ⟨rfl, b1⟩

set_option maxHeartbeats 1000000 in
theorem pStore_un (w : World) (v : Value) (h : Unmade w v) (y0 y1 y2 : Value) :
    Calls Tryz.prog 39 #[v, y0, y1, y2] w fun e w' => e = .returned (.int .i64 2) ∧ Below w.heap.size w w' := by
  go_enter Tryz.func39, Tryz.ntmps39
  go_wp2_with fail
  refine (pMade_un _ v h).mono ?_
  rintro e w1 ⟨rfl, b1⟩
  go_wp2
  go_ret
  exact ⟨rfl, b1⟩

set_option maxHeartbeats 1000000 in
theorem pDrop_un (w : World) (v : Value) (h : Unmade w v) (y0 : Value) :
    Calls Tryz.prog 75 #[v, y0] w fun e w' => e = .returned (.int .i64 2) ∧ Below w.heap.size w w' := by
  go_enter Tryz.func75, Tryz.ntmps75
  go_wp2_with fail
  refine (pMade_un _ v h).mono ?_
  rintro e w1 ⟨rfl, b1⟩
  go_wp2
  go_ret
  exact ⟨rfl, b1⟩

set_option maxHeartbeats 1000000 in
theorem pMend_un (w : World) (v : Value) (h : Unmade w v) (y0 y1 : Value) :
    Calls Tryz.prog 12 #[v, y0, y1] w fun e w' => e = .returned (.tuple #[.bool false, .int .i64 2]) ∧ Below w.heap.size w w' := by
  go_enter Tryz.func12, Tryz.ntmps12
  go_wp2_with fail
  refine (pGet_un _ v h y0 y1).mono ?_
  rintro e w1 ⟨rfl, b1⟩
  go_wp2
  exact bodyPost_ret (v := .tuple #[.bool false, .int .i64 2]) (by simp [results, Tryz.results12, go_sem]) rfl ⟨rfl, b1⟩
end Go.Proofs.YteammmhlpinhfaaGreatDoor
