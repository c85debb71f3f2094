/- Spots: slices.Compact. -/
import Derived.Test.YtidlogeeophogaaDoorSpF
import Derived.Lib.SlicesCompact
import Derived.BigQuiet
import Derived.Deep.QuietTactic
import Derived.BigRegion
namespace Go.Proofs.YtidlogeeophogaaDoor.Sp
open Go.RowKit Go.Joins Go.Lib
set_option linter.unusedVariables false
set_option linter.unusedSimpArgs false

noncomputable instance : DecidableEq Spt := fun a b => Classical.propDecidable (a = b)

theorem sameS_dec (x y : Spt) : sameS x y = true ↔ x = y := sameS_iff

theorem eqlS_run (w : World) (x y : Spt) : (binOp .eql 25 (.agg #[.string x.nm, .int .i64 x.ix]) (.agg #[.string y.nm, .int .i64 y.ix])).run Tryd.prog w = .ok (.bool (sameS x y)) w := eql_spt w x y

theorem neqS_run (w : World) (x y : Spt) : (binOp .neq 25 (.agg #[.string x.nm, .int .i64 x.ix]) (.agg #[.string y.nm, .int .i64 y.ix])).run Tryd.prog w = .ok (.bool (!sameS x y)) w := by
  have h := eql_spt w x y
  simp only [binOp] at h ⊢
  revert h
  simp only [Sem.run_bind, Sem.run_pure]
  generalize (Op.equal 25 (Value.agg #[Value.string x.nm, Value.int IntKind.i64 x.ix]) (Value.agg #[Value.string y.nm, Value.int IntKind.i64 y.ix])).run Tryd.prog w = r
  intro h
  cases r <;> simp_all [Result.andThen]

theorem fvs_set (R : List Spt) (k : Nat) (x : Spt) (hk : k < R.length) : ((fvs R).set (k * 2) (.string x.nm)).set (k * 2 + 1) (.int .i64 x.ix) = fvs (R.set k x) := by
  induction R generalizing k with
  | nil => simp at hk
  | cons y t ih =>
    cases k with
    | zero => rfl
    | succ k =>
      have h2 := ih k (by simpa using hk)
      have e1 : (k + 1) * 2 = k * 2 + 1 + 1 := by omega
      rw [List.set_cons_succ, fvs_cons, fvs_cons, ← h2, e1]
      rfl

/-- A row's cells. -/
theorem own_spt {w : World} {B g n cap : Nat} {R : List Spt} (ho : w.ownsRow B 25 2 (.slice (some ⟨g, 0, none⟩) n cap) n (fvs R)) {k : Nat} {x : Spt} (hk : R[k]? = some x) :
    w.cell? ⟨g, k * 2, none⟩ = some (.string x.nm) ∧ w.cell? ⟨g, k * 2 + 1, none⟩ = some (.int .i64 x.ix) ∧ w.frozen? ⟨g, k * 2, none⟩ = false ∧ w.frozen? ⟨g, k * 2 + 1, none⟩ = false := by
  obtain ⟨_, _, cur, hcur⟩ := own_blk ho
  have h0 := ho.cells (g := g) rfl _ _ (fvs_get R k x hk 0 _ rfl)
  have h1 := ho.cells (g := g) rfl _ _ (fvs_get R k x hk 1 _ rfl)
  rw [add_none, Nat.zero_add] at h0 h1
  exact ⟨h0, h1, unfrozen_of_block hcur _, unfrozen_of_block hcur _⟩

theorem own_setCells {B e size g n c : Nat} (vs : List Value) : ∀ {w : World} {xs : List Value} (h : w.ownsRow B e size (.slice (some ⟨g, 0, none⟩) n c) n xs) (o : Nat),
    ∃ ys, (w.setCells g o vs).ownsRow B e size (.slice (some ⟨g, 0, none⟩) n c) n ys ∧ ys.take o = xs.take o := by
  induction vs with
  | nil => intro w xs h o; exact ⟨xs, h, rfl⟩
  | cons v t ih =>
    intro w xs h o
    obtain ⟨ys, h1, h2⟩ := ih (h.stored o v).1 (o + 1)
    refine ⟨ys, h1, ?_⟩
    have h3 := congrArg (List.take o) h2
    rw [List.take_take, List.take_take, Nat.min_eq_left (by omega)] at h3
    rw [h3, List.take_set_of_le (Nat.le_refl _)]

theorem own_less {w : World} {base e size g n c : Nat} {xs : List Value} (h : w.ownsRow base e size (.slice (some ⟨g, 0, none⟩) n c) n xs) (m : Nat) (hm : m ≤ n) : w.ownsRow base e size (.slice (some ⟨g, 0, none⟩) m c) m (xs.take (m * size)) := by
  rcases h.2 with ⟨h1, _⟩ | ⟨g', cap, cur, h1, hb, hg, hnc, hcm, hcs, htk⟩
  · cases h1
  · cases h1
    have hle : m * size ≤ n * size := Nat.mul_le_mul_right _ hm
    refine ⟨by rw [List.length_take, h.1]; omega, .inr ⟨g, c, cur, rfl, hb, hg, by omega, hcm, hcs, ?_⟩⟩
    rw [← htk, List.take_take, Nat.min_eq_left hle]

theorem fvs_take (R : List Spt) (k : Nat) : (fvs R).take (k * 2) = fvs (R.take k) := by
  induction R generalizing k with
  | nil => simp [fvs]
  | cons y t ih =>
    cases k with
    | zero => simp [fvs]
    | succ k =>
      rw [List.take_succ_cons, fvs_cons, fvs_cons, ← ih k, show (k + 1) * 2 = k * 2 + 1 + 1 from by omega]
      rfl

/-- What clear leaves: only this block has changed, and the row ahead of it stays. -/
theorem clearS_run (w : World) (B g n cap k : Nat) (R : List Spt) (ho : w.ownsRow B 25 2 (.slice (some ⟨g, 0, none⟩) n cap) n (fvs R)) (hk : k < n) :
    ∃ w', (∀ ty, (Builtin.clear_ #[22] ty #[.slice (some ⟨g, k * 2, none⟩) (n - k) (cap - k)]).run Tryd.prog w = .ok (.tuple #[]) w') ∧ w'.ownsRow B 25 2 (.slice (some ⟨g, 0, none⟩) k cap) k (fvs (R.take k)) ∧ Kb g w w' := by
  obtain ⟨vs, hvs⟩ : ∃ vs, vs = (Builtin.zeroCells (Value.agg #[.string ⟨#[]⟩, .int .i64 0]).cells (n - k)).toList := ⟨_, rfl⟩
  have hlen : vs.length = (n - k) * 2 := by
    rw [hvs]
    simp [Builtin.zeroCells, Value.cells]
  have hone : ∀ v ∈ vs, v.oneCell' = true := by
    intro v hv
    rw [hvs] at hv
    simp [Builtin.zeroCells, Value.cells] at hv
    obtain ⟨i, hi, rfl⟩ := hv
    rcases Nat.mod_two_eq_zero_or_one i with h0 | h0 <;> simp [h0, Value.oneCell']
  have hRl := ho.1
  rw [fvs_length] at hRl
  have hcells : ∀ j, j < vs.length → (w.cell? ⟨g, k * 2 + 0 + j, none⟩).isSome = true ∧ w.frozen? ⟨g, k * 2 + 0 + j, none⟩ = false := by
    intro j hj
    rw [hlen] at hj
    obtain ⟨_, _, cur, hcur⟩ := own_blk ho
    refine ⟨?_, unfrozen_of_block hcur _⟩
    have hi : k * 2 + j < (fvs R).length := by rw [fvs_length]; omega
    have := ho.cells (g := g) rfl _ _ (List.getElem?_eq_getElem hi)
    rw [add_none, Nat.zero_add] at this
    rw [Nat.add_zero, this]
    rfl
  have hst := run_storeCells_cells (P := Tryd.prog) g (k * 2) vs 0 w (fun j hj => (hcells j hj).1) (fun j hj => (hcells j hj).2) hone
  rw [Nat.add_zero] at hst
  obtain ⟨ys, h1, h2⟩ := own_setCells vs ho (k * 2)
  have h3 := own_less h1 k (by omega)
  rw [h2, fvs_take] at h3
  refine ⟨w.setCells g (k * 2) vs, fun ty => ?_, h3, Kb.setCells vs (Kb.refl _ _) _⟩
  obtain ⟨m, hm⟩ : ∃ m, n - k = m + 1 := ⟨n - k - 1, by omega⟩
  have hzv : ∀ w, (zeroValue 25).run Tryd.prog w = .ok (.agg #[.string ⟨#[]⟩, .int .i64 0]) w := Tryd.zeroValue25
  rw [hm] at hvs ⊢
  simp [Builtin.clear_, run_underlying Tryd.underlying22, hzv, ← hvs, hst]

end Go.Proofs.YtidlogeeophogaaDoor.Sp
