/- A disk that no call made: the contracts of what is asked of it. -/
import Derived.Test.YtfgfkifdokeefaaGreatDoorDiskLeaf
namespace Go.Proofs.YtfgfkifdokeefaaGreatDoor
open Go.RowKit Go.Maps
set_option linter.unusedVariables false

/-- A pointer to no disk, or to one that is zero. -/
def Unmade (w : World) (v : Value) : Prop := v = .pointer none ∨ ∃ b, v = .pointer (some ⟨b, 0, none⟩) ∧ w.cell? ⟨b, 0, none⟩ = some (.map none) ∧ b < w.heap.size
theorem Unmade.below {w w' : World} {v : Value} (h : Unmade w v) (hb : Below w.heap.size w w') : Unmade w' v := by
  rcases h with h | ⟨b, h1, h2, h3⟩
  · exact .inl h
  · exact .inr ⟨b, h1, (hb.cell (p := ⟨b, 0, none⟩) h3).trans h2, Nat.lt_of_lt_of_le h3 hb.size⟩

set_option maxHeartbeats 1000000 in
theorem isMade_un (w : World) (v : Value) (h : Unmade w v) :
    Calls Tryz.prog 75 #[v] w fun e w' => e = .returned (.bool false) ∧ w' = w := by
  have hmn := fun (wx : World) (m : Option Nat) => run_neq_map_nil (P := Tryz.prog) wx 27 9 205 m Tryz.underlying27
  have hpn := fun (wx : World) (p : Option Addr) => run_neq_pointer_nil (P := Tryz.prog) wx 26 p (by kernel_rfl)
  rcases h with rfl | ⟨b, rfl, c0, _⟩
  · go_enter Tryz.func75, Tryz.ntmps75
    go_wp2
    go_ret
    exact ⟨rfl, rfl⟩
  · go_enter Tryz.func75, Tryz.ntmps75
    go_wp2
    go_ret
    exact ⟨rfl, rfl⟩

set_option maxHeartbeats 1000000 in
theorem read_un (w : World) (v : Value) (h : Unmade w v) (x y : Value) :
    Calls Tryz.prog 34 #[v, x, y] w fun e w' => e = .returned (.tuple #[.slice none 0 0, .int .i64 2]) ∧ Below w.heap.size w w' := by
  go_enter Tryz.func34, Tryz.ntmps34
  go_wp2_with fail
  refine (isMade_un _ v h).mono ?_
  rintro e w1 ⟨rfl, rfl⟩
  go_wp2
  exact bodyPost_ret (v := .tuple #[.slice none 0 0, .int .i64 2]) (by simp [results, Tryz.results34, go_sem]) rfl ⟨rfl, Below.refl _ _⟩

set_option maxHeartbeats 1000000 in
theorem sMade_un (w : World) (v : Value) (h : Unmade w v) :
    Calls Tryz.prog 71 #[v] w fun e w' => e = .returned (.bool false) ∧ Below w.heap.size w w' := by
  go_enter Tryz.func71, Tryz.ntmps71
  go_wp2_with fail
  refine (read_un _ v h _ _).mono ?_
  rintro e w1 ⟨rfl, b1⟩
  go_wp2
  go_ret
  exact ⟨rfl, b1⟩

set_option maxHeartbeats 1000000 in
theorem sPart_un (w : World) (v : Value) (h : Unmade w v) (y0 y1 y2 y3 : Value) :
    Calls Tryz.prog 47 #[v, y0, y1, y2, y3] w fun e w' => e = .returned (.tuple #[.slice none 0 0, .int .i64 2]) ∧ Below w.heap.size w w' := by
  go_enter Tryz.func47, Tryz.ntmps47
  go_wp2_with fail
  refine (sMade_un _ v h).mono ?_
  rintro e w1 ⟨rfl, b1⟩
  go_wp2
  exact bodyPost_ret (v := .tuple #[.slice none 0 0, .int .i64 2]) (by simp [results, Tryz.results47, go_sem]) rfl ⟨rfl, b1⟩

set_option maxHeartbeats 1000000 in
theorem sStore_un (w : World) (v : Value) (h : Unmade w v) (y0 y1 y2 : Value) :
    Calls Tryz.prog 30 #[v, y0, y1, y2] w fun e w' => e = .returned (.int .i64 2) ∧ Below w.heap.size w w' := by
  go_enter Tryz.func30, Tryz.ntmps30
  go_wp2_with fail
  refine (sMade_un _ v h).mono ?_
  rintro e w1 ⟨rfl, b1⟩
  go_wp2
  go_ret
  exact ⟨rfl, b1⟩

set_option maxHeartbeats 1000000 in
theorem sDrop_un (w : World) (v : Value) (h : Unmade w v) (y0 : Value) :
    Calls Tryz.prog 32 #[v, y0] w fun e w' => e = .returned (.int .i64 2) ∧ Below w.heap.size w w' := by
  go_enter Tryz.func32, Tryz.ntmps32
  go_wp2_with fail
  refine (sMade_un _ v h).mono ?_
  rintro e w1 ⟨rfl, b1⟩
  go_wp2
  go_ret
  exact ⟨rfl, b1⟩

set_option maxHeartbeats 1000000 in
theorem pMade_un (w : World) (v : Value) (h : Unmade w v) :
    Calls Tryz.prog 35 #[v] w fun e w' => e = .returned (.bool false) ∧ Below w.heap.size w w' := by
  go_enter Tryz.func35, Tryz.ntmps35
  go_wp2_with fail
  refine (read_un _ v h _ _).mono ?_
  rintro e w1 ⟨rfl, b1⟩
  go_wp2
  go_ret
  exact ⟨rfl, b1⟩

set_option maxHeartbeats 1000000 in
theorem pLoad_un (w : World) (v : Value) (h : Unmade w v) (y0 y1 : Value) :
    Calls Tryz.prog 56 #[v, y0, y1] w fun e w' => e = .returned (.tuple #[.slice none 0 0, .int .i64 2]) ∧ Below w.heap.size w w' := by
  go_enter Tryz.func56, Tryz.ntmps56
  go_wp2_with fail
  refine (pMade_un _ v h).mono ?_
  rintro e w1 ⟨rfl, b1⟩
  go_wp2
  exact bodyPost_ret (v := .tuple #[.slice none 0 0, .int .i64 2]) (by simp [results, Tryz.results56, go_sem]) rfl ⟨rfl, b1⟩

set_option maxHeartbeats 1000000 in
theorem pGet_un (w : World) (v : Value) (h : Unmade w v) (y0 y1 : Value) :
    Calls Tryz.prog 12 #[v, y0, y1] w fun e w' => e = .returned (.tuple #[.slice none 0 0, .int .i64 0, .int .i64 2]) ∧ Below w.heap.size w w' := by
  go_enter Tryz.func12, Tryz.ntmps12
  go_wp2_with fail
  refine (pMade_un _ v h).mono ?_
  rintro e w1 ⟨rfl, b1⟩
  go_wp2
  exact bodyPost_ret (v := .tuple #[.slice none 0 0, .int .i64 0, .int .i64 2]) (by simp [results, Tryz.results12, go_sem]) rfl ⟨rfl, b1⟩

set_option maxHeartbeats 1000000 in
theorem pStore_un (w : World) (v : Value) (h : Unmade w v) (y0 y1 y2 : Value) :
    Calls Tryz.prog 25 #[v, y0, y1, y2] w fun e w' => e = .returned (.int .i64 2) ∧ Below w.heap.size w w' := by
  go_enter Tryz.func25, Tryz.ntmps25
  go_wp2_with fail
  refine (pMade_un _ v h).mono ?_
  rintro e w1 ⟨rfl, b1⟩
  go_wp2
  go_ret
  exact ⟨rfl, b1⟩

set_option maxHeartbeats 1000000 in
theorem pDrop_un (w : World) (v : Value) (h : Unmade w v) (y0 : Value) :
    Calls Tryz.prog 33 #[v, y0] w fun e w' => e = .returned (.int .i64 2) ∧ Below w.heap.size w w' := by
  go_enter Tryz.func33, Tryz.ntmps33
  go_wp2_with fail
  refine (pMade_un _ v h).mono ?_
  rintro e w1 ⟨rfl, b1⟩
  go_wp2
  go_ret
  exact ⟨rfl, b1⟩

end Go.Proofs.YtfgfkifdokeefaaGreatDoor
