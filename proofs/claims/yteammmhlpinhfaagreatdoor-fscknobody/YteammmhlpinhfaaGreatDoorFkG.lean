/- The document's Read. -/
import Derived.Test.YteammmhlpinhfaaGreatDoorFkF
import Derived.Test.YteammmhlpinhfaaGreatDoorFkD
import Derived.Test.YteammmhlpinhfaaGreatDoorDrawn
namespace Go.Proofs.YteammmhlpinhfaaGreatDoor
open Go.RowKit
set_option linter.unusedVariables false

/-- an append onto one row leaves a row of another type. -/
theorem fk_ownkeep {w w' : World} {base e size n : Nat} {v : Value} {xs : List Value} (h : w.ownsRow base e size v n xs) {base' e' size' n' : Nat} {v' : Value} {xs' : List Value} (h' : w.ownsRow base' e' size' v' n' xs') (hne : e ≠ e') (hg : w.grownBy w' v'.ownBlock) : w'.ownsRow base e size v n xs := by
  obtain ⟨hl, h1⟩ := h
  refine ⟨hl, ?_⟩
  rcases h1 with h1 | ⟨g, cap, cur, hv, hb, hh, r⟩
  · exact .inl h1
  · refine .inr ⟨g, cap, cur, hv, hb, ?_, r⟩
    rw [← hh]
    refine hg.block g (Array.getElem?_eq_some_iff.1 hh).1 (fun e0 => ?_)
    replace e0 := e0.symm
    rcases h'.2 with ⟨h2, _⟩ | ⟨g', cap', cur', hv', _, hh', _⟩
    · rw [h2] at e0; cases e0
    · rw [hv'] at e0
      cases e0
      rw [hh] at hh'
      simp at hh'
      exact hne hh'.2

theorem fk_blkkeep {w w' : World} {base e size n g : Nat} {v : Value} {xs : List Value} {cs : Array Value} {t : TypeId} {fz : Nat × Nat} (hq : w.heap[g]? = some (.cells cs t fz)) (h : w.ownsRow base e size v n xs) (hne : t ≠ e) (hg : w.grownBy w' v.ownBlock) : w'.heap[g]? = some (.cells cs t fz) := by
  rw [← hq]
  refine hg.block g (Array.getElem?_eq_some_iff.1 hq).1 (fun e0 => ?_)
  replace e0 := e0.symm
  rcases h.2 with ⟨h2, _⟩ | ⟨g', cap', cur', hv', _, hh', _⟩
  · rw [h2] at e0; cases e0
  · rw [hv'] at e0
    cases e0
    rw [hq] at hh'
    simp at hh'
    exact hne hh'.2.1

theorem fk_bs1 {o : Oper} {a : Act} {w : World} {x : Operand} {x0 x1 x2 x3 x4 x5 x6 : Int} (ho : o.op = Op.buildSlice 27 1 #[(0, x)]) (hx : a.eval x = .agg #[.int .i64 x0, .int .i64 x2, .int .i64 x3, .int .i64 x1, .int .i64 x5, .int .i64 x6, .int .i64 x4, .slice none 0 0]) : (execOp a.eval o).run Tryz.prog w = .ok (.value (.slice (some ⟨w.heap.size, 0, none⟩) 1 1)) (w.alloc (.cells #[.int .i64 x0, .int .i64 x2, .int .i64 x3, .int .i64 x1, .int .i64 x5, .int .i64 x6, .int .i64 x4, .slice none 0 0] 40)) := by
  have h : (Instr.buildSlice 27 1 #[(0, .agg #[.int .i64 x0, .int .i64 x2, .int .i64 x3, .int .i64 x1, .int .i64 x5, .int .i64 x6, .int .i64 x4, .slice none 0 0])]).run Tryz.prog w = .ok (.slice (some ⟨w.heap.size, 0, none⟩) 1 1) (w.alloc (.cells #[.int .i64 x0, .int .i64 x2, .int .i64 x3, .int .i64 x1, .int .i64 x5, .int .i64 x6, .int .i64 x4, .slice none 0 0] 40)) := by kernel_rfl
  simp [execOp, ho, hx, h, Result.andThen]

theorem fk_app_run {o : Oper} {a : Act} {w w' : World} {t u : TypeId} {x y : Operand} {vx vy v : Value} (ho : o.op = .call { callee := .builtin .append, args := #[x, y], argTypes := #[t, u] }) (hx : a.eval x = vx) (hy : a.eval y = vy) (hr : (Builtin.append_ #[t, u] o.type #[vx, vy]).run Tryz.prog w = .ok v w') : (execOp a.eval o).run Tryz.prog w = .ok (.value v) w' := by
  unfold execOp
  simp only [ho, resolve, invoke, builtin, Sem.run_bind, Sem.run_pure, Result.andThen_ok, List.map_toArray, List.map_cons, List.map_nil, hx, hy, hr]

def mNs (ws : List Nat) (j : Nat) : List Int := (List.range j).map (mN ws)
theorem mNs_succ (ws : List Nat) (j : Nat) : mNs ws (j + 1) = mNs ws j ++ [mN ws j] := by simp [mNs, List.range_succ]
theorem mNs_len (ws : List Nat) (j : Nat) : (mNs ws j).length = j := by simp [mNs]

end Go.Proofs.YteammmhlpinhfaaGreatDoor
