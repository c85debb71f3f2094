/- The runs of grow's operations, and what they leave. -/
import Derived.Test.YtidlogeeophogaaDoorDiskGrowM
namespace Go.Proofs.YtidlogeeophogaaDoor
open Go.RowKit Go.Maps
set_option linter.unusedVariables false

theorem Tryd.infoExt3 : (Tryd.prog.info? 124).map (fun i => (i.zero, i.size, i.bytes)) = some (some (.agg zeroE.cells.toArray), 385, 385) := by kernel_rfl
theorem builtExt : Tryd.prog.built 124 [] = some zeroE.cells.toArray := by kernel_rfl
theorem fillExt : Instr.fill (fun i => some (i * 385, 385)) ((Array.range (1 * 385)).map ((Value.agg zeroE.cells.toArray).cells[· % (Value.agg zeroE.cells.toArray).cells.size]!)) [(0, Value.agg zeroE.cells.toArray)] = some zeroE.cells.toArray := by kernel_rfl
section
variable {o : Oper} {a : Act} {w : World}
theorem clone_run {s : ByteArray} (ho : o.op = Op.call { callee := Callee.value (Operand.func 105), args := #[Operand.tmp 8], argTypes := #[9] }) (h : a.eval (.tmp 8) = .string s) : (execOp a.eval o).run Tryd.prog w = .ok (.enter 105 #[.string s]) w := by
  simp [go_sem, execOp, ho, resolve, invoke]
  simpa [Act.eval] using h
theorem look_run {bm : Nat} {s : ByteArray} {V : Value} (ho : o.op = Op.lookup 36 (Operand.tmp 13) (Operand.tmp 14) false) (h1 : a.eval (.tmp 13) = .map (some bm)) (h2 : a.eval (.tmp 14) = .string s)
    (hr : (Instr.lookup 36 (.map (some bm)) (.string s) false).run Tryd.prog w = .ok V w) : (execOp a.eval o).run Tryd.prog w = .ok (.value V) w := by
  simp [execOp, ho, h1, h2, hr, Result.andThen]
theorem mk_run {Z : Array Value} (ho : o.op = Op.buildSlice 121 1 #[(0, Operand.tmp 16)]) (h : a.eval (.tmp 16) = .agg Z) (hz : Hid (Z = zeroE.cells.toArray)) : (execOp a.eval o).run Tryd.prog w = .ok (.value (.slice (some ⟨w.heap.size, 0, none⟩) 1 1)) (w.alloc (.cells Z 124)) := by
  obtain ⟨i0, hi, hz0, hz1, hz2⟩ := info_parts Tryd.infoExt3
  have hr := run_buildSlice (P := Tryd.prog) w 121 124 1 #[(0, .agg Z)] Z i0 (.agg zeroE.cells.toArray) Tryd.underlying121 hi hz0 (by rw [hz1]; decide) (by rw [hz1]; decide) (by rw [hz1, hz.out]; exact fillExt)
  simp [execOp, ho, h, hr, Result.andThen]
theorem bld_run {Z : Array Value} (ho : o.op = Op.build 124 #[]) (hz : Hid (Tryd.prog.built 124 [] = some Z)) : (execOp a.eval o).run Tryd.prog w = .ok (.value (.agg Z)) w := by
  have hr := run_build (P := Tryd.prog) w 124 #[] Z hz.out
  simp [execOp, ho, hr, Result.andThen]
end
theorem news_of {w : World} {b : Nat} {Z : Array Value} {t : TypeId} (h : w.heap[b]? = some (.cells Z t (0, 0))) : ∀ j u, Z.toList[j]? = some u → w.cell? ((⟨b, 0, none⟩ : Addr).add j) = some u := by
  intro j u hj
  rw [add_none, Nat.zero_add, cell_of_row _ _ _ _ _ _ h]
  simpa using hj
theorem DiskIs.map_kept {w w4 : World} {d N : Nat} {F : Nat → Prop} {M : List UInt8 → List Ext} {free fuse : Int} {bm : Nat} {D : DataW Unit} {G C : List UInt8 → Nat} (h : DiskIs w d F N M free fuse bm D G C) {V : Value} {s : List UInt8} (hg : w.grownBy w4 V.ownBlock) (hV : ∀ g, V.ownBlock = some g → M s ≠ [] ∧ g = G s) :
    w4.ownsMap Tryd.prog 9 hd bm N D := by
  refine h.2.2.2.1.kept hg (fun e => ?_)
  obtain ⟨hne, e2⟩ := hV bm e.symm
  obtain ⟨es, clock, hb, _⟩ := h.2.2.2.1
  rcases (h.2.2.2.2.2.1 s hne).2.1.2 with ⟨hv, _⟩ | ⟨g2, c2, cur2, hv, _, hh2, _⟩
  · cases hv
  · cases hv
    rw [← e2, hb] at hh2
    cases hh2
theorem DiskIs.cell_kept {w w4 : World} {d N : Nat} {F : Nat → Prop} {M : List UInt8 → List Ext} {free fuse : Int} {bm : Nat} {D : DataW Unit} {G C : List UInt8 → Nat} (h : DiskIs w d F N M free fuse bm D G C) {V : Value} {s : List UInt8} (hg : w.grownBy w4 V.ownBlock) (hV : ∀ g, V.ownBlock = some g → M s ≠ [] ∧ g = G s) :
    w4.cell? ⟨d, 0, none⟩ = some (.map (some bm)) := by
  have h4 : w4.heap[d]? = some (.cells #[.map (some bm), .int .i64 free, .int .i64 fuse] 38 (0, 0)) := by
    refine (hg.block d (Array.getElem?_eq_some_iff.1 h.1).1 (fun e => ?_)).trans h.1
    obtain ⟨hne, e2⟩ := hV d e.symm
    exact row_ne (h.2.2.2.2.2.1 s hne).2.1 h.1 e2.symm
  rw [cell_of_row _ _ _ _ _ _ h4]; rfl
theorem gr_grow {w w1 w4 w5 : World} {F : Nat → Prop} {bm g : Nat} {V : Value} (hb : Below w.heap.size w w1) (hg : w1.grownBy w4 V.ownBlock) (hV : ∀ g, V.ownBlock = some g → F g) (hat : V.ownBlock = some g ∨ g = w1.heap.size) (hlt : g < w4.heap.size) (hg5 : w4.grownBy w5 (some bm)) (hbm : F bm) : Gr F (fun k => F k ∨ k = g) w w5 := by
  have h1 : Keeps F w w5 := ((Keeps.of_below hb).trans (Keeps.of_grown hg hV)).trans (Keeps.of_grown hg5 (fun k hk => by cases hk; exact hbm))
  refine ⟨h1, fun k hk => ?_⟩
  rcases hk with hk | rfl
  · exact .inl hk
  · rcases hat with ha | ha
    · exact .inl (hV _ ha)
    · exact .inr ⟨by have := hb.size; omega, Nat.lt_of_lt_of_le hlt hg5.size⟩
end Go.Proofs.YtidlogeeophogaaDoor
