/- append of so many noughts onto a row of bytes of one's own. -/
import Derived.Test.YtplielcjfmomlaaDoorAppA
import Derived.Lib.AppendZerosOnto
namespace Go.Proofs.YtplielcjfmomlaaDoor
open Go.RowKit
set_option linter.unusedVariables false

theorem zeroCells_u8 (n : Nat) : (Builtin.zeroCells (Value.int .u8 0).cells n).toList = vb (List.replicate n 0) := by
  have e : ∀ i, [Value.int .u8 0][i % 1]?.getD default = Value.int .u8 0 := fun i => by rw [Nat.mod_one]; rfl
  simp [Builtin.zeroCells, vb, Value.cells, e]
  rw [List.map_const', List.length_range]

theorem zeroArr_u8 (n : Nat) : Builtin.zeroCells (Value.int .u8 0).cells n = (vb (List.replicate n 0)).toArray := by rw [← zeroCells_u8, Array.toArray_toList]

theorem appZ (w : World) (base : Nat) (v : Value) (n k : Nat) (xs : List Value) (hown : w.ownsRow base 5 1 v n xs) (hbase : base ≤ w.heap.size) (h0 : 0 < k) (hk : n + k ≤ 1000000) :
    ∃ v' w', (∀ ty, (Builtin.append_ #[22, 3] ty #[v, .int .i64 (k : Int)]).run Tryd.prog w = .ok v' w') ∧ w'.ownsRow base 5 1 v' (n + k) (xs ++ vb (List.replicate k 0)) ∧ w.grownBy w' v.ownBlock := by
  obtain ⟨i0, hi, hz0, hz1, hz2⟩ := info_parts Tryd.info5
  have hlen : (xs ++ vb (List.replicate k 0)).length = (n + k) * 1 := by rw [List.length_append, hown.1, length_vb, List.length_replicate]; omega
  have grown : ∀ (old : Nat), old < n + k → ∀ (row : Option Nat),
      (w.drew.alloc (.cells (xs.toArray ++ Builtin.zeroCells (Value.int .u8 0).cells k ++ Builtin.zeroCells (Value.int .u8 0).cells (grownCap w (n + k) old 5 - (n + k))) 5)).ownsRow base 5 1
        (.slice (some ⟨w.heap.size, 0, none⟩) (n + k) (grownCap w (n + k) old 5)) (n + k) (xs ++ vb (List.replicate k 0)) ∧
      w.grownBy (w.drew.alloc (.cells (xs.toArray ++ Builtin.zeroCells (Value.int .u8 0).cells k ++ Builtin.zeroCells (Value.int .u8 0).cells (grownCap w (n + k) old 5 - (n + k))) 5)) row := by
    intro old ho row
    have hge := grownCap_ge w (n + k) old 5
    have hcm : grownCap w (n + k) old 5 ≤ maxLen := grownCap_le_maxLen w (n + k) old 5 (by unfold maxLen; omega)
    refine ⟨⟨hlen, .inr ⟨w.heap.size, _, _, rfl, hbase, heap_alloc_new w.drew _, hge, hcm, ?_, ?_⟩⟩, ⟨rfl, rfl, rfl, by simp, fun k hk _ => Below.heap_alloc w.drew _ k hk⟩⟩
    · simp only [Array.size_append, List.size_toArray, size_zeroCells, hown.1]
      simp only [Value.cells, List.size_toArray, List.length_cons, List.length_nil]
      omega
    · simp only [Array.toList_append, zeroCells_u8]
      rw [← hlen]
      exact List.take_left
  rcases hown.2 with ⟨rfl, rfl⟩ | ⟨g, cap, cur, rfl, hbg, hg, hnc, hcm, hcs, htake⟩
  · have hx : xs = [] := List.eq_nil_of_length_eq_zero (by simpa using hown.1)
    subst hx
    have hgr := grown 0 (by omega) (Value.ownBlock (.slice none 0 0))
    refine ⟨_, _, fun ty => ?_, hgr.1, hgr.2⟩
    have h := Lib.run_append_grow_zeros (P := Tryd.prog) w 22 3 ty 5 i0 (.int .u8 0) .i64 .i64 Tryd.underlying22 Tryd.underlying3 hi hz0 none 0 0 [] (run_firstCells_none w.drew i0.size 0 0 0) k h0 (by omega) (by omega) (by omega) (by rw [hz2]; omega) (growslice_fits (by omega) (by rw [hz2]; omega))
    exact h
  · by_cases hroom : n + k ≤ cap
    · have hst := run_storeCells_at Tryd.prog g (n * 1) 5 (vb (List.replicate k 0)) 0 cur w hg (by rw [length_vb, List.length_replicate, hcs]; omega) (one_vb _)
      simp only [Nat.add_zero] at hst
      refine ⟨.slice (some ⟨g, 0, none⟩) (n + k) cap, w.setRow g (cur.toList.take (n * 1) ++ vb (List.replicate k 0) ++ cur.toList.drop (n * 1 + (vb (List.replicate k 0)).length)).toArray, fun ty => ?_, ⟨hlen, .inr ⟨g, cap, _, rfl, hbg, setRow_heap w g cur _ 5 _ hg, hroom, hcm, ?_, ?_⟩⟩, ⟨rfl, rfl, rfl, by simp, fun k _ hk => setRow_other w g k _ (fun e => hk (by simp [Value.ownBlock, e]))⟩⟩
      · have hk0 : k ≠ 0 := by omega
        have hw : IntKind.i64.wrap (k : Int) = k := by rw [IntKind.wrap_i64]; omega
        have hneg : ¬ ((k : Int) < 0) := by omega
        have h48 : ¬ (281474976710656 < (k : Int)) := by omega
        simp [Builtin.append_, run_underlying Tryd.underlying22, run_underlying Tryd.underlying3, sizeOf, typeInfo, zeroValue, hi, hz0, hz1, hz2, asInt, asIntOf, hw, hroom, hneg, hk0, h48, Addr.add_lit, zeroArr_u8]
        have hst2 : (storeCells ⟨g, n, none⟩ (vb (List.replicate k 0))).run Tryd.prog w = .ok () (w.setRow g (List.take n cur.toList ++ (vb (List.replicate k 0) ++ List.drop (n + (vb (List.replicate k 0)).length) cur.toList)).toArray) := by simpa using hst
        rw [hst2]
        rfl
      · simp only [List.size_toArray, List.length_append, List.length_take, List.length_drop, Array.length_toList, length_vb, List.length_replicate]
        omega
      · rw [htake, ← hlen]
        exact List.take_left
    · have holds : ∀ j u, xs[j]? = some u → w.cell? ((⟨g, 0, none⟩ : Addr).add j) = some u := hown.cells (g := g) rfl
      have hgr := grown cap (by omega) (Value.ownBlock (.slice (some ⟨g, 0, none⟩) n cap))
      refine ⟨_, _, fun ty => ?_, hgr.1, hgr.2⟩
      have h := Lib.run_append_grow_zeros (P := Tryd.prog) w 22 3 ty 5 i0 (.int .u8 0) .i64 .i64 Tryd.underlying22 Tryd.underlying3 hi hz0 (some ⟨g, 0, none⟩) n cap xs (run_firstCells_some (P := Tryd.prog) w.drew i0.size n ⟨g, 0, none⟩ n cap xs (by rw [hz1]; exact hown.1) holds) k h0 (by omega) (by omega) (by omega) (by rw [hz2]; omega) (growslice_fits (by omega) (by rw [hz2]; omega))
      exact h
end Go.Proofs.YtplielcjfmomlaaDoor
