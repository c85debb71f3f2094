/- merge: the heap's swap at any places. -/
import Derived.Test.YtccjgciknaooaaaHhA
import Derived.BigRegion
namespace Go.Proofs.Ytccjgciknaooaaa
open Go.RowKit Go.Joins
set_option linter.unusedVariables false

theorem rvs_len (l : List Run) : (rvs l).length = l.length * 3 := by
  induction l with
  | nil => rfl
  | cons r t ih => simp [rvs, ih]; omega

theorem rvs_get (l : List Run) : ∀ (k : Nat) (r : Run), l[k]? = some r → (rvs l)[k * 3]? = some (.slice r.a r.len r.cap) ∧ (rvs l)[k * 3 + 1]? = some (.int .i64 r.rank) ∧ (rvs l)[k * 3 + 2]? = some (.int .i64 r.place) := by
  induction l with
  | nil => intro k r h; simp at h
  | cons x t ih =>
    intro k r h
    cases k with
    | zero =>
      simp at h
      subst h
      exact ⟨rfl, rfl, rfl⟩
    | succ k =>
      have := ih k r (by simpa using h)
      rw [show (k + 1) * 3 = k * 3 + 3 from by omega]
      exact this

theorem rvs_set (R : List Run) (k : Nat) (x : Run) (hk : k < R.length) : (((rvs R).set (k * 3) (.slice x.a x.len x.cap)).set (k * 3 + 1) (.int .i64 x.rank)).set (k * 3 + 2) (.int .i64 x.place) = rvs (R.set k x) := by
  induction R generalizing k with
  | nil => simp at hk
  | cons y t ih =>
    cases k with
    | zero => rfl
    | succ k =>
      have h2 := ih k (by simpa using hk)
      have e1 : (k + 1) * 3 = k * 3 + 1 + 1 + 1 := by omega
      have e0 : ∀ (z : Run) (s : List Run), rvs (z :: s) = .slice z.a z.len z.cap :: .int .i64 z.rank :: .int .i64 z.place :: rvs s := fun _ _ => rfl
      rw [List.set_cons_succ, e0, e0, ← h2, e1]
      rfl

/-- A run of the heap in memory. -/
theorem own_rn {w : World} {B g n c : Nat} {R : List Run} (ho : w.ownsRow B 70 3 (.slice (some ⟨g, 0, none⟩) n c) n (rvs R)) {k : Nat} {x : Run} (hk : R[k]? = some x) :
    w.cell? ⟨g, k * 3, none⟩ = some (.slice x.a x.len x.cap) ∧ w.cell? ⟨g, k * 3 + 1, none⟩ = some (.int .i64 x.rank) ∧ w.cell? ⟨g, k * 3 + 2, none⟩ = some (.int .i64 x.place) ∧ w.frozen? ⟨g, k * 3, none⟩ = false ∧ w.frozen? ⟨g, k * 3 + 1, none⟩ = false ∧ w.frozen? ⟨g, k * 3 + 2, none⟩ = false := by
  obtain ⟨_, _, cur, hcur⟩ := own_blk ho
  obtain ⟨v0, v1, v2⟩ := rvs_get R k x hk
  have h0 := ho.cells (g := g) rfl _ _ v0
  have h1 := ho.cells (g := g) rfl _ _ v1
  have h2 := ho.cells (g := g) rfl _ _ v2
  rw [add_none, Nat.zero_add] at h0 h1 h2
  exact ⟨h0, h1, h2, unfrozen_of_block hcur _, unfrozen_of_block hcur _, unfrozen_of_block hcur _⟩

theorem rvs_swap (rs : List Run) (i j : Nat) (hi : i < rs.length) (hj : j < rs.length) :
    ((((((rvs rs).set (i * 3) (.slice (rn rs j).a (rn rs j).len (rn rs j).cap)).set (i * 3 + 1) (.int .i64 (rn rs j).rank)).set (i * 3 + 2) (.int .i64 (rn rs j).place)).set (j * 3) (.slice (rn rs i).a (rn rs i).len (rn rs i).cap)).set (j * 3 + 1) (.int .i64 (rn rs i).rank)).set (j * 3 + 2) (.int .i64 (rn rs i).place) = rvs (swapL rs i j) := by
  rw [rvs_set _ _ _ hi, rvs_set _ _ _ (by simpa using hj)]
  rfl

set_option maxHeartbeats 4000000 in
set_option maxRecDepth 100000 in
theorem swap_any (B h g n c i j : Nat) (rs : List Run) (w : World) (hh : HpB w h (.slice (some ⟨g, 0, none⟩) n c)) (ho : w.ownsRow B 70 3 (.slice (some ⟨g, 0, none⟩) n c) n (rvs rs)) (hn : rs.length = n) (hi : i < n) (hj : j < n) :
    Calls Try.prog 39 #[.pointer (some ⟨h, 0, none⟩), .int .i64 (i : Int), .int .i64 (j : Int)] w fun e w' => e = .returned (.tuple #[]) ∧
      w'.ownsRow B 70 3 (.slice (some ⟨g, 0, none⟩) n c) n (rvs (swapL rs i j)) ∧ Kr g w w' := by
  have hc2 : w.cell? ⟨h, 0, none⟩ = some (.slice (some ⟨g, 0, none⟩) n c) := cell_of_row w h 0 _ _ _ hh
  have HSW := hidn (rvs_swap rs i j (by omega) (by omega))
  have hi0 := rn_get (rs := rs) (i := i) (by omega)
  have hj0 := rn_get (rs := rs) (i := j) (by omega)
  generalize rn rs i = x at *
  generalize rn rs j = y at *
  obtain ⟨a0, l0, c0, k0, p0⟩ := x
  obtain ⟨a1, l1, c1, k1, p1⟩ := y
  obtain ⟨e0, e1, e2, f0, f1, f2⟩ := own_rn ho hi0
  obtain ⟨d0, d1, d2, g0, g1, g2⟩ := own_rn ho hj0
  simp only at e0 e1 e2 d0 d1 d2 HSW
  have hlen : (rvs rs).length = n * 3 := by rw [rvs_len, hn]
  have hO1 := (ho.stored (i * 3) (.slice a1 l1 c1)).1
  have hO2 := (hO1.stored (i * 3 + 1) (.int .i64 k1)).1
  have hO3 := (hO2.stored (i * 3 + 2) (.int .i64 p1)).1
  obtain ⟨z0, F0⟩ : ∃ z, (w.setCell ⟨g, i * 3, none⟩ (.slice a1 l1 c1)).cell? ⟨g, j * 3, none⟩ = some z := by
    have := hO1.cells (g := g) rfl (j * 3) _ (List.getElem?_eq_getElem (by simp only [List.length_set, hlen]; omega))
    rw [add_none, Nat.zero_add] at this
    exact ⟨_, this⟩
  obtain ⟨z1, F1⟩ : ∃ z, ((w.setCell ⟨g, i * 3, none⟩ (.slice a1 l1 c1)).setCell ⟨g, i * 3 + 1, none⟩ (.int .i64 k1)).cell? ⟨g, j * 3 + 1, none⟩ = some z := by
    have := hO2.cells (g := g) rfl (j * 3 + 1) _ (List.getElem?_eq_getElem (by simp only [List.length_set, hlen]; omega))
    rw [add_none, Nat.zero_add] at this
    exact ⟨_, this⟩
  obtain ⟨z2, F2⟩ : ∃ z, (((w.setCell ⟨g, i * 3, none⟩ (.slice a1 l1 c1)).setCell ⟨g, i * 3 + 1, none⟩ (.int .i64 k1)).setCell ⟨g, i * 3 + 2, none⟩ (.int .i64 p1)).cell? ⟨g, j * 3 + 2, none⟩ = some z := by
    have := hO3.cells (g := g) rfl (j * 3 + 2) _ (List.getElem?_eq_getElem (by simp only [List.length_set, hlen]; omega))
    rw [add_none, Nat.zero_add] at this
    exact ⟨_, this⟩
  have HO := hidn ho
  clear hO1 hO2 hO3 hlen
  have hgh : h ≠ g := fun e => by
    subst e
    obtain ⟨_, _, cur, hcur⟩ := own_blk ho
    rw [show w.heap[h]? = _ from hh] at hcur
    cases hcur
  have hi1 : (i : Int) < (n : Int) := by omega
  have hj1 : (j : Int) < (n : Int) := by omega
  have hi2 : (0 : Int) ≤ (i : Int) := by omega
  have hj2 : (0 : Int) ≤ (j : Int) := by omega
  clear hh ho hi0 hj0
  go_enter Try.func39, Try.ntmps39
  go_region
  go_wp2_with fail
  go_end0
  refine ⟨rfl, ?_, ((((((((Kr.refl g w).setCell _ _).setCell _ _).setCell _ _).setCell _ _).setCell _ _).setCell _ _).drew)⟩
  have h6 := (((((((HO.out.stored (i * 3) (.slice a1 l1 c1)).1.stored (i * 3 + 1) (.int .i64 k1)).1.stored (i * 3 + 2) (.int .i64 p1)).1.stored (j * 3) (.slice a0 l0 c0)).1.stored (j * 3 + 1) (.int .i64 k0)).1.stored (j * 3 + 2) (.int .i64 p0)).1)
  rw [← HSW.out]
  exact own_skip h6 ((Below.refl _ _).drew)
end Go.Proofs.Ytccjgciknaooaaa
