/- scrub: the groups of a new disk; awake. -/
import Derived.Test.YtidlogeeophogaaDoorAnA
import Derived.Test.YtidlogeeophogaaDoorDiskRot
import Derived.Test.YtidlogeeophogaaDoorDiskRead
import Derived.Test.YtidlogeeophogaaDoorNobody
import Derived.Test.YtidlogeeophogaaDoorAppK
import Derived.Test.YtidlogeeophogaaDoorWaShelf
import Derived.Lib.AppendZerosOnto
import Derived.Laws.ResultCell
namespace Go.Proofs.YtidlogeeophogaaDoor
open Go.RowKit Go.Maps
set_option linter.unusedVariables false

theorem wpList_app_runG {P : Program} {w w' : World} {ops : Array Oper} {rest : List Oper} {o : Oper} {a : Act} {Q : Exit → Act → World → Prop} (hgd : o.guard = none) (s x : Operand) (t tn ty : TypeId)
    (ho : o.op = .call { callee := .builtin .append, args := #[s, x], argTypes := #[t, tn] }) (hty : o.type = ty) (v vx v' : Value) (hs : a.eval s = v) (hx : a.eval x = vx) (hr : (Builtin.append_ #[t, tn] ty #[v, vx]).run P w = .ok v' w')
    (h : wpList P ops Q rest (a.put o.dst v') w') : wpList P ops Q (o :: rest) a w :=
  wpList_plain hgd fun _ hK => by
    subst hty
    unfold Oper.wp execOp
    simp only [ho, resolve, invoke, builtin, Sem.run_bind, Sem.run_pure, Result.andThen_ok, List.map_toArray, List.map_cons, List.map_nil, hs, hx, hr]
    exact hK _ _ h

theorem grInfo : ∃ i0 z, Tryd.prog.info? 32 = some i0 ∧ i0.zero = some z ∧ i0.size = 4 ∧ i0.bytes = 40 ∧ z.cells.size = 4 := by
  have h : (Tryd.prog.info? 32).map (fun i => (i.zero, i.size, i.bytes)) = some (some (.agg #[.int .i64 0, .string ⟨#[]⟩, .int .i64 0, .int .i64 0]), 4, 40) := by kernel_rfl
  obtain ⟨i0, hi, h1, h2, h3⟩ := info_parts h
  exact ⟨i0, _, hi, h1, h2, h3, rfl⟩

theorem own_slG {w : World} {base e size n : Nat} {v : Value} {xs : List Value} (h : w.ownsRow base e size v n xs) : ∃ a c, v = .slice a n c ∧ n ≤ c := by
  rcases h.2 with ⟨rfl, rfl⟩ | ⟨g, cap, cur, rfl, _, _, hle, _⟩
  · exact ⟨none, 0, rfl, Nat.le_refl _⟩
  · exact ⟨_, _, rfl, hle⟩

set_option maxHeartbeats 1000000 in
set_option maxRecDepth 100000 in
/-- slices.Grow of a row of one's own. -/
theorem growGr (w : World) (base : Nat) (v : Value) (n : Nat) (xs : List Value) (hown : w.ownsRow base 32 4 v n xs) (hle : base ≤ w.heap.size) (hn : n ≤ 1000) (m : Nat) (hm : m ≤ 1000) :
    Calls Tryd.prog 81 #[v, .int .i64 (m : Int)] w fun e w' => ∃ v', e = .returned v' ∧ w'.ownsRow base 32 4 v' n xs ∧ Below base w w' ∧ (∀ g, v'.ownBlock = some g → v.ownBlock = some g ∨ w.heap.size ≤ g) ∧ (∀ b, b < w.heap.size → w'.heap[b]? = w.heap[b]?) ∧ w.heap.size ≤ w'.heap.size := by
  obtain ⟨i0, z, hi, hz0, hz1, hz2, hzc⟩ := grInfo
  obtain ⟨a, c, rfl, hnc⟩ := own_slG hown
  have hc : c ≤ 9223372036854775807 := by
    rcases hown.2 with ⟨h0, _⟩ | ⟨g, cap, cur, hv, _, _, _, hcm, _⟩
    · cases h0; omega
    · cases hv; unfold maxLen at hcm; exact hcm
  have h1 : ¬ ((m : Int) < 0) := by omega
  have hw1 : IntKind.i64.wrap ((c : Int) - (n : Int)) = (c : Int) - (n : Int) := by rw [IntKind.wrap_i64]; omega
  have hw2 : IntKind.i64.wrap ((m : Int) - ((c : Int) - (n : Int))) = (m : Int) - ((c : Int) - (n : Int)) := by rw [IntKind.wrap_i64]; omega
  have hw3 : (m : Int) - ((c : Int) - (n : Int)) = (m : Int) + (n : Int) - (c : Int) := by omega
  by_cases hfit : m ≤ c - n
  · have hd : decide (0 < (m : Int) - ((c : Int) - (n : Int))) = false := by simp; omega
    have hd2 : ¬ (0 < (m : Int) - ((c : Int) - (n : Int))) := by omega
    have hd3 : (m : Int) ≤ (c : Int) - (n : Int) := by omega
    clear hw3
    go_enter Tryd.func81, Tryd.ntmps81
    go_wp2
    go_ret
    exact ⟨_, rfl, hown, Below.refl _ _, fun g hg => .inl hg, fun _ _ => rfl, Nat.le_refl _⟩
  · obtain ⟨k, hk⟩ : ∃ k : Nat, k = m + n - c := ⟨_, rfl⟩
    have hwk : (m : Int) - ((c : Int) - (n : Int)) = (k : Int) := by omega
    have hk0 : 0 < k := by omega
    have hc2 : c ≤ 2000 := by omega
    have hw2' : IntKind.i64.wrap ((m : Int) - ((c : Int) - (n : Int))) = (k : Int) := hw2.trans hwk
    have hkI : (0 : Int) < (k : Int) := by omega
    obtain ⟨olds, hold, hol, hot⟩ : ∃ olds : List Value, (Builtin.firstCells i0.size c (.slice a c c)).run Tryd.prog w.drew = .ok olds.toArray w.drew ∧ olds.length = c * 4 ∧ olds.take (n * 4) = xs := by
      rcases hown.2 with ⟨h0, hn0⟩ | ⟨g, cap, cur, hv, _, hg, hnc', hcm, hcs, htk⟩
      · cases h0
        refine ⟨[], run_firstCells_none w.drew _ _ _ _, rfl, ?_⟩
        have := hown.1
        cases xs with
        | nil => rfl
        | cons _ _ => simp at this
      · cases hv
        refine ⟨cur.toList, run_firstCells_some w.drew _ _ _ _ _ _ (by rw [hz1, Array.length_toList]; exact hcs) (fun j u hj => ?_), by rw [Array.length_toList]; exact hcs, htk⟩
        rw [add_none, Nat.zero_add]
        have h1 := cell_of_row w g j cur _ _ hg
        show w.cell? ⟨g, j, none⟩ = some u
        rw [h1]
        simpa using hj
    obtain ⟨G, hG⟩ : ∃ G, G = grownCap w (c + k) c 32 := ⟨_, rfl⟩
    obtain ⟨w1, hw1'⟩ : ∃ w1, w1 = w.drew.alloc (.cells (olds.toArray ++ Builtin.zeroCells z.cells k ++ Builtin.zeroCells z.cells (G - (c + k))) 32) := ⟨_, rfl⟩
    have hGn : c + k ≤ G := by rw [hG]; exact grownCap_ge w _ _ _
    have hGm : G ≤ maxLen := by rw [hG]; exact grownCap_le_maxLen w _ _ _ (by unfold maxLen; omega)
    have hrz : ∀ ty, (Builtin.append_ #[44, 3] ty #[.slice a c c, .int .i64 (k : Int)]).run Tryd.prog w = .ok (.slice (some ⟨w.heap.size, 0, none⟩) (c + k) G) w1 := fun ty => by
      have h := Lib.run_append_grow_zeros (P := Tryd.prog) w 44 3 ty 32 i0 z .i64 .i64 Tryd.underlying44 Tryd.underlying3 hi hz0 a c c olds hold k hk0 (by omega) (by omega) (by omega) (by rw [hz2]; omega) (by rw [hz2]; exact growslice_fits (by omega) (by omega))
      rw [← hG] at h
      rw [hw1']
      exact h
    have O1 : Hid (w1.ownsRow base 32 4 (.slice (some ⟨w.heap.size, 0, none⟩) n G) n xs) := hidn (by
      refine ⟨hown.1, .inr ⟨w.heap.size, G, _, rfl, hle, by rw [hw1']; exact heap_alloc_new w.drew _, by omega, hGm, ?_, ?_⟩⟩
      · simp only [Array.size_append, size_zeroCells, hzc, List.size_toArray, hol]
        omega
      · rw [Array.toList_append, Array.toList_append, List.append_assoc, List.toList_toArray, List.take_append_of_le_length (by rw [hol]; omega)]
        exact hot)
    have B1 : Below base w w1 := by rw [hw1']; exact (Below.refl _ w).drew.alloc hle _
    have B2 : Below w.heap.size w w1 := by rw [hw1']; exact (Below.refl _ w).drew.alloc (Nat.le_refl _) _
    have HB2 := hidn (And.intro (fun b hb => B2.block b hb) B2.size)
    clear B2
    have hGi : (n : Int) ≤ (G : Int) := by omega
    have hGx : G ≤ 9223372036854775807 := by unfold maxLen at hGm; exact hGm
    have HRZ := hidn hrz
    obtain ⟨ck, hck⟩ : ∃ ck, ck = c + k := ⟨_, rfl⟩
    rw [← hck] at HRZ
    have hckG : ck ≤ G := by omega
    have hcase : (a = none ∧ c = 0) ∨ ∃ g, a = some ⟨g, 0, none⟩ := by
      rcases hown.2 with ⟨h0, _⟩ | ⟨g, cap, cur, hv, _⟩
      · cases h0; exact .inl ⟨rfl, rfl⟩
      · cases hv; exact .inr ⟨g, rfl⟩
    have HK := hidn hk
    clear hw1' hG hrz hown hold hol hot hck hk hwk hw3 hfit hw2
    rcases hcase with ⟨rfl, rfl⟩ | ⟨g, rfl⟩
    · have hn0 : n = 0 := by omega
      have hkm : k = m := by rw [HK.out]; omega
      subst hn0
      subst hkm
      clear hw1 hw2' HK
      go_enter Tryd.func81, Tryd.ntmps81
      go_wp2_with (at_builtin; refine wpList_app_runG rfl _ _ 44 3 44 rfl rfl (.slice none 0 0) _ _ rfl rfl (HRZ.out _) ?_; clear HRZ)
      go_ret
      exact ⟨_, rfl, O1.out, B1, fun g hg => .inr (by cases hg; exact Nat.le_refl _), HB2.out.1, HB2.out.2⟩
    · go_enter Tryd.func81, Tryd.ntmps81
      go_wp2_with (at_builtin; refine wpList_app_runG rfl _ _ 44 3 44 rfl rfl (.slice (some ⟨g, 0, none⟩) c c) _ _ rfl rfl (HRZ.out _) ?_; clear HRZ)
      go_ret
      exact ⟨_, rfl, O1.out, B1, fun g hg => .inr (by cases hg; exact Nat.le_refl _), HB2.out.1, HB2.out.2⟩
end Go.Proofs.YtidlogeeophogaaDoor
