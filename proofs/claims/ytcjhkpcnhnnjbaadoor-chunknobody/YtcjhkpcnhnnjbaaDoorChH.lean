/- chunk: Open, Err, and Next where nothing comes. -/
import Derived.Test.YtcjhkpcnhnnjbaaDoorChG
import Derived.Test.YtcjhkpcnhnnjbaaDoorClone
namespace Go.Proofs.YtcjhkpcnhnnjbaaDoor
open Go.RowKit Go.Joins
open Cd (Sam Sm canS encS samD SamOK IsPack BitsTab DbTab SamsOK vsm)
set_option linter.unusedVariables false
/-- A cursor that Open made. -/
def Cur (w : World) (g : Nat) (a : Option Addr) (len cap : Nat) (zs : List Nat) (at' er : Int) : Prop :=
  w.heap[g]? = some (.cells #[.bool true, .slice a len cap, .int .i64 at', .int .i64 er] 59 (0, 0)) ∧ Bs w a len zs ∧ len ≤ cap ∧ cap ≤ maxLen ∧ len ≤ 1000000000
def atZ (x : Int) : Int := if x < 0 then 0 else if 2147483647 < x then 2147483647 else x
def OpenP (w : World) (zs : List Nat) (x : Int) (e : Ending) (w' : World) : Prop :=
  ∃ g a cap, e = .returned (.pointer (some ⟨g, 0, none⟩)) ∧ Cur w' g a zs.length cap zs (atZ x) 0 ∧ w.heap.size ≤ g ∧ (∀ k, a = some k → w.heap.size ≤ k.block) ∧ Below w.heap.size w w'
theorem bs_ownC {w : World} {base n : Nat} {v : Value} {zs : List Nat} (h : w.ownsRow base 5 1 v n (vb zs)) (hz : ∀ x ∈ zs, x < 256) (hn : zs.length = n) :
    ∃ a cap, v = .slice a n cap ∧ Bs w a n zs ∧ n ≤ cap ∧ cap ≤ maxLen ∧ ∀ k, a = some k → base ≤ k.block := by
  have h' := h
  rcases h.2 with ⟨rfl, h0⟩ | ⟨g, cap, cur, rfl, hg, hh, hnc, hcm, hcs, htk⟩
  · subst h0
    obtain rfl : zs = [] := List.length_eq_zero_iff.1 hn
    exact ⟨none, 0, rfl, Bs.nil w, Nat.le_refl _, by decide, fun k hk => by cases hk⟩
  · refine ⟨_, cap, rfl, ⟨hn, by omega, hz, (fun h => by cases h), fun x hx j hj => ?_⟩, hnc, hcm, fun k hk => by cases hk; exact hg⟩
    cases hx
    refine h'.cells (g := g) rfl j _ ?_
    simp [vb, List.getD_eq_getElem?_getD, List.getElem?_eq_getElem (show j < zs.length by omega)]
set_option maxHeartbeats 2000000 in
set_option maxRecDepth 100000 in
theorem open_any (a : Option Addr) (len cap : Nat) (zs : List Nat) (x : Int) (w : World) (h : Bs w a len zs) (hl : len ≤ 1000000000) :
    Calls Tryd.prog 18 #[.slice a len cap, .int .i64 x] w (OpenP w zs x) := by
  have HC := hidn (clone_any a len cap zs w h (by omega))
  have hzl := h.1
  have hz := h.2.2.1
  obtain ⟨y, hy⟩ : ∃ y, y = atZ x := ⟨_, rfl⟩
  have HY := hidn hy
  obtain ⟨m, hm⟩ : ∃ m : Int, m = if x < 0 then 0 else x := ⟨_, rfl⟩
  have e1 : (if x < 0 then (0 : Int) else x) = m := hm.symm
  have e1' : max x 0 = m := by rw [hm]; split <;> omega
  have e2 : (if (2147483647 : Int) < m then (2147483647 : Int) else m) = y := by rw [hy, hm]; unfold atZ; split <;> rfl
  have e2' : min m 2147483647 = y := by rw [← e2]; split <;> omega
  have e1'' : (if x < (0 : Int) then (0 : Int) else x) = m := e1
  clear hy hm
  go_enter Tryd.func18, Tryd.ntmps18
  go_wp2_with fail
  refine HC.out.mono ?_
  rintro e w1 ⟨v, rfl, own, b1⟩
  obtain ⟨a1, c1, rfl, hB, hc1, hcm1, hblk⟩ := bs_ownC own hz hzl
  have HB := hidn hB
  have HBK := hidn hblk
  clear hB own hblk
  go_wp2_with fail
  have bA := (Below.refl _ w1).alloc (Nat.le_refl _) (.cells #[.bool true, .slice a1 len c1, .int .i64 y, .int .i64 0] 59)
  exact bodyPost_ret (v := .pointer (some ⟨w1.heap.size, 0, none⟩)) (by simp [results, Tryd.results18, go_sem]) rfl ⟨w1.heap.size, a1, c1, rfl, ⟨by rw [hzl, ← HY.out]; exact heap_alloc_new w1 _, by rw [hzl]; exact HB.out.below bA, by rw [hzl]; exact hc1, hcm1, by rw [hzl]; exact hl⟩, b1.size, HBK.out, b1.trans (bA.mono b1.size)⟩
set_option maxHeartbeats 2000000 in
theorem err_nil (w : World) : Calls Tryd.prog 23 #[.pointer none] w fun e w' => e = .returned (.int .i64 2) ∧ w' = w := by
  go_enter Tryd.func23, Tryd.ntmps23
  go_wp2_with fail
  exact bodyPost_ret (v := .int .i64 2) (by simp [results, Tryd.results23, go_sem]) rfl ⟨rfl, rfl⟩
set_option maxHeartbeats 2000000 in
theorem err_unmade (g : Nat) (w : World) (h : w.cell? ⟨g, 0, none⟩ = some (.bool false)) : Calls Tryd.prog 23 #[.pointer (some ⟨g, 0, none⟩)] w fun e w' => e = .returned (.int .i64 2) ∧ w' = w := by
  go_enter Tryd.func23, Tryd.ntmps23
  go_wp2_with fail
  exact bodyPost_ret (v := .int .i64 2) (by simp [results, Tryd.results23, go_sem]) rfl ⟨rfl, rfl⟩
set_option maxHeartbeats 2000000 in
theorem err_made (g : Nat) (er : Int) (w : World) (h : w.cell? ⟨g, 0, none⟩ = some (.bool true)) (h3 : w.cell? ⟨g, 3, none⟩ = some (.int .i64 er)) : Calls Tryd.prog 23 #[.pointer (some ⟨g, 0, none⟩)] w fun e w' => e = .returned (.int .i64 er) ∧ w' = w := by
  go_enter Tryd.func23, Tryd.ntmps23
  go_wp2_with fail
  exact bodyPost_ret (v := .int .i64 er) (by simp [results, Tryd.results23, go_sem]) rfl ⟨rfl, rfl⟩
def zEnt : Value := .agg #[.slice none 0 0, .int .i64 0, .int .i64 0, .int .i64 0, .int .i64 0]
theorem ent_results {w : World} {g : Nat} {x0 x1 x2 x3 x4 : Value} (fn : Func) (hfn : fn.results = #[.cell 2 41, .tmp 3, .tmp 4]) (tmps : Array Value) (v v2 : Value) (hp : tmps[2]?.getD undef = .pointer (some ⟨g, 0, none⟩)) (hv : tmps[3]?.getD undef = v) (hv2 : tmps[4]?.getD undef = v2)
    (c0 : w.cell? ⟨g, 0, none⟩ = some x0) (c1 : w.cell? ⟨g, 1, none⟩ = some x1) (c2 : w.cell? ⟨g, 2, none⟩ = some x2) (c3 : w.cell? ⟨g, 3, none⟩ = some x3) (c4 : w.cell? ⟨g, 4, none⟩ = some x4) : (results fn tmps).run Tryd.prog w = .ok (.tuple #[.agg #[x0, x1, x2, x3, x4], v, v2]) w := by
  simp [results, hfn, hp, hv, hv2, go_sem, c0, c1, c2, c3, c4]
set_option maxHeartbeats 2000000 in
set_option maxRecDepth 100000 in
theorem next_none (p : Option Addr) (w : World) (h : p = none ∨ ∃ g a c, p = some ⟨g, 0, none⟩ ∧ w.cell? ⟨g, 1, none⟩ = some (.slice a 0 c)) : Calls Tryd.prog 20 #[.pointer p] w fun e w' => e = .returned (.tuple #[zEnt, .slice none 0 0, .bool false]) ∧ Below w.heap.size w w' := by
  have qA : (w.alloc (.cells #[.slice none 0 0, .int .i64 0, .int .i64 0, .int .i64 0, .int .i64 0] 41)).heap[w.heap.size]? = some (.cells #[.slice none 0 0, .int .i64 0, .int .i64 0, .int .i64 0, .int .i64 0] 41 (0, 0)) := heap_alloc_new w _
  have bA := (Below.refl _ w).alloc (Nat.le_refl _) (.cells #[.slice none 0 0, .int .i64 0, .int .i64 0, .int .i64 0, .int .i64 0] 41)
  rcases h with rfl | ⟨g, a, c, rfl, h1⟩
  · go_enter Tryd.func20, Tryd.ntmps20
    go_wp2_with fail
    exact bodyPost_ret (v := .tuple #[zEnt, .slice none 0 0, .bool false]) (ent_results _ rfl _ _ _ (by kernel_rfl) (by kernel_rfl) (by kernel_rfl) (cell_of_row _ _ _ _ _ _ qA) (cell_of_row _ _ _ _ _ _ qA) (cell_of_row _ _ _ _ _ _ qA) (cell_of_row _ _ _ _ _ _ qA) (cell_of_row _ _ _ _ _ _ qA)) rfl ⟨rfl, bA⟩
  · have h1' := Lib.cell?_alloc_some (.cells #[.slice none 0 0, .int .i64 0, .int .i64 0, .int .i64 0, .int .i64 0] 41) h1
    go_enter Tryd.func20, Tryd.ntmps20
    go_wp2_with fail
    exact bodyPost_ret (v := .tuple #[zEnt, .slice none 0 0, .bool false]) (ent_results _ rfl _ _ _ (by kernel_rfl) (by kernel_rfl) (by kernel_rfl) (cell_of_row _ _ _ _ _ _ qA) (cell_of_row _ _ _ _ _ _ qA) (cell_of_row _ _ _ _ _ _ qA) (cell_of_row _ _ _ _ _ _ qA) (cell_of_row _ _ _ _ _ _ qA)) rfl ⟨rfl, bA⟩
end Go.Proofs.YtcjhkpcnhnnjbaaDoor
