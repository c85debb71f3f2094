/- A file that has one extent more: what the disk is then; steps of a region that draws its order. -/
import Derived.Test.YtocfbokgbpaneaaMc
import Derived.Test.YtocfbokgbpaneaaStrClone
import Derived.Great.BuildSlice
import Derived.Deep.AppendLies
import Derived.Deep.RegionHeld3
namespace Go.Proofs.Ytocfbokgbpaneaa
open Go.RowKit Go.Maps
set_option linter.unusedVariables false

theorem zeroE_ok : zeroE.ok := by
  have h : (List.replicate 128 0).length = 128 ∧ ∀ y ∈ List.replicate 128 0, y < 256 := ⟨by simp, fun y hy => by have := List.eq_of_mem_replicate hy; omega⟩
  exact ⟨h, h, h⟩
theorem DiskIs.below {w w' : World} {d N : Nat} {F : Nat → Prop} {M : List UInt8 → List Ext} {free fuse : Int} {bm : Nat} {D : DataW Unit} {G C : List UInt8 → Nat} (h : DiskIs w d F N M free fuse bm D G C) (hb : Below w.heap.size w w') : DiskIs w' d F N M free fuse bm D G C := by
  obtain ⟨h1, h2, h3, h4, h5, h6, h7⟩ := h
  refine ⟨(hb.block d (Array.getElem?_eq_some_iff.1 h1).1).trans h1, h2, h3, map_below h4 hb, h5, fun s hs => ?_, h7⟩
  obtain ⟨a1, a2, a3⟩ := h6 s hs
  exact ⟨a1, own_below a2 hb, a3⟩

/-- What a look-up tells, whatever there is. -/
theorem DiskIs.any {w : World} {d N : Nat} {F : Nat → Prop} {M : List UInt8 → List Ext} {free fuse : Int} {bm : Nat} {D : DataW Unit} {G C : List UInt8 → Nat} (h : DiskIs w d F N M free fuse bm D G C) (s : ByteArray) (hs : s.size ≤ maxLen) :
    ∃ V, (∀ w', Below w.heap.size w w' → (Instr.lookup 41 (.map (some bm)) (.string s) false).run Try.prog w' = .ok V w') ∧ w.ownsRow 0 49 385 V (M s.data.toList).length (cellsE (M s.data.toList)) ∧
      (∀ g, V.ownBlock = some g → M s.data.toList ≠ [] ∧ g = G s.data.toList) := by
  by_cases hne : M s.data.toList = []
  · refine ⟨.slice none 0 0, fun w' hb => (h.below hb).look_no s hs hne, ?_, fun g hg => by cases hg⟩
    rw [hne]; exact World.ownsRow_nil _ _ _ _
  · exact ⟨_, fun w' hb => (h.below hb).look s hs hne, (h.2.2.2.2.2.1 _ hne).2.1, fun g hg => ⟨hne, (Option.some.inj hg).symm⟩⟩

/-- One extent more: the row has moved to g, or lies where it lay; the map tells so. -/
theorem DiskIs.grown {w w4 w5 : World} {d N : Nat} {F : Nat → Prop} {M : List UInt8 → List Ext} {free fuse : Int} {bm : Nat} {D : DataW Unit} {G C : List UInt8 → Nat} (h : DiskIs w d F N M free fuse bm D G C) (s : List UInt8) (x : Ext) (hx : x.ok) (V : Value) (hV : ∀ g, V.ownBlock = some g → M s ≠ [] ∧ g = G s)
    (hVr : w.ownsRow 0 49 385 V (M s).length (cellsE (M s))) (g c : Nat) (hg : w.grownBy w4 V.ownBlock) (hat : V.ownBlock = some g ∨ g = w.heap.size)
    (hrow : w4.ownsRow 0 49 385 (.slice (some ⟨g, 0, none⟩) ((M s).length + 1) c) ((M s).length + 1) (cellsE (M s ++ [x])))
    (hmap : w5.ownsMap Try.prog 9 hd bm (N + 1) (D.put (.string s) (encS g ((M s).length + 1) c))) (hg5 : w4.grownBy w5 (some bm)) :
    ∃ G' C', DiskIs w5 d (fun k => F k ∨ k = g) (N + 1) (upd M s (M s ++ [x])) free fuse bm (D.put (.string s) (encS g ((M s).length + 1) c)) G' C' := by
  obtain ⟨h1, h2, h3, h4, h5, h6, h7⟩ := h
  have hlen : (M s ++ [x]).length = (M s).length + 1 := by simp
  have hIs := h4.isMap
  have hkey : WideAt.IsKeyLit (Lit.string s) := trivial
  have hltd := (Array.getElem?_eq_some_iff.1 h1).1
  have hd4 : w4.heap[d]? = some (.cells #[.map (some bm), .int .i64 free, .int .i64 fuse] 43 (0, 0)) := by
    refine (hg.block d hltd (fun e => ?_)).trans h1
    obtain ⟨hne, e2⟩ := hV d e.symm
    exact row_ne (h6 s hne).2.1 h1 e2.symm
  have hd5 : w5.heap[d]? = some (.cells #[.map (some bm), .int .i64 free, .int .i64 fuse] 43 (0, 0)) := by
    refine (hg5.block d (Nat.lt_of_lt_of_le hltd hg.size) (fun e => ?_)).trans hd4
    exact map_ne h4 h1 (Option.some.inj e).symm
  have hkeep : ∀ {v : Value} {n : Nat} {xs : List Value}, w4.ownsRow 0 49 385 v n xs → w5.ownsRow 0 49 385 v n xs := by
    intro v n xs hr
    refine hr.kept hg5 ?_
    rcases hr.2 with ⟨hv, _⟩ | ⟨g', c', cur, hv, _, hh, _⟩
    · subst hv; exact .inl rfl
    · subst hv
      refine .inr (fun e => ?_)
      have e' : g' = bm := Option.some.inj e
      subst e'
      obtain ⟨es, clock, hb, _⟩ := h4
      have hb4 : w4.heap[g']? = some (.map es clock) := by
        refine (hg.block g' (Array.getElem?_eq_some_iff.1 hb).1 (fun e2 => ?_)).trans hb
        obtain ⟨hne, e3⟩ := hV g' e2.symm
        rcases (h6 s hne).2.1.2 with ⟨hv, _⟩ | ⟨g2, c2, cur2, hv, _, hh2, _⟩
        · cases hv
        · cases hv
          rw [← e3, hb] at hh2
          cases hh2
      rw [hb4] at hh
      cases hh
  have hlt : ∀ t, M t ≠ [] → t ≠ s → G t ≠ g := by
    intro t ht hts e
    rcases hat with ha | ha
    · obtain ⟨hne, e2⟩ := hV g ha
      exact h7 t s ht hne hts (by rw [e, e2])
    · have := ownRow_lt (h6 t ht).2.1
      omega
  refine ⟨fun t => if t = s then g else G t, fun t => if t = s then c else C t, hd5, ⟨.inl h2.1, h2.2⟩, ⟨.inl h3.1, fun t ht => ?_⟩, hmap, fun t ht => ?_, fun t ht => ?_, fun t t' ht ht' hne => ?_⟩
  · by_cases e : t = s
    · subst e; simp
    · rw [upd_other _ _ _ _ e] at ht
      simp only [if_neg e]
      exact .inl (h3.2 t ht)
  · by_cases e : t = s
    · subst e; rw [upd_same] at ht; simp at ht
    · rw [upd_other _ _ _ _ e] at ht
      rw [has_put_other (by intro h; exact e (by simpa using h))]
      exact h5 t ht
  · by_cases e : t = s
    · subst e
      rw [upd_same, hlen]
      refine ⟨fun z => ?_, ?_, ?_⟩
      · rw [atKey_put_same hIs hkey]; simp
      · simpa using hkeep hrow
      · intro y hy
        rcases List.mem_append.1 hy with hy | hy
        · by_cases hne : M t = []
          · rw [hne] at hy; simp at hy
          · exact (h6 t hne).2.2 y hy
        · rw [List.mem_singleton.1 hy]; exact hx
    · rw [upd_other _ _ _ _ e] at ht ⊢
      obtain ⟨b1, b2, b3⟩ := h6 t ht
      refine ⟨fun z => ?_, ?_, b3⟩
      · rw [atKey_put_other (by intro h; exact e (by simpa using h)), b1]
        simp [e]
      · have := hkeep (b2.kept hg (.inr (fun hh => ?_)))
        · simpa [e] using this
        · obtain ⟨hne, e2⟩ := hV (G t) hh.symm
          exact h7 t s ht hne e e2
  · by_cases e : t = s
    · subst e
      have e' : t' ≠ t := fun h => hne h.symm
      rw [upd_other _ _ _ _ e'] at ht'
      simp only [if_neg e']
      exact fun h => hlt t' ht' e' h.symm
    · rw [upd_other _ _ _ _ e] at ht
      by_cases e' : t' = s
      · subst e'
        simp only [if_neg e]
        exact hlt t ht e
      · rw [upd_other _ _ _ _ e'] at ht'
        simp only [if_neg e, if_neg e']
        exact h7 t t' ht ht' hne

section
variable {P : Program} {ops : Array Oper} {o : Oper} {a : Act} {w : World} {K : Act → World → Prop} {Q : Exit → Act → World → Prop} {E : Prop}
theorem step_val (hgd : o.guard = none) (v : Value) (w' : World) (hrun : (execOp a.eval o).run P w = .ok (.value v) w') (h : K (a.put o.dst v) w') :
    if Region.wanted o (yielded ops a.tmps) = true then Oper.wp P o a w K Q else E := by
  have hw : Region.wanted o (yielded ops a.tmps) = true := by simp [Region.wanted, hgd]
  rw [if_pos hw]
  unfold Oper.wp
  rw [hrun]
  exact h
theorem step_call (hgd : o.guard = none) (f : FuncId) (args : Array Value) (hrun : (execOp a.eval o).run P w = .ok (.enter f args) w) (R : Value → World → Prop) (hc : Calls P f args w fun e w' => ∃ v, e = .returned v ∧ R v w') (h : ∀ v w', R v w' → K (a.put o.dst v) w') :
    if Region.wanted o (yielded ops a.tmps) = true then Oper.wp P o a w K Q else E := by
  have hw : Region.wanted o (yielded ops a.tmps) = true := by simp [Region.wanted, hgd]
  rw [if_pos hw]
  unfold Oper.wp
  rw [hrun, Oper.upon_enter]
  refine hc.mono fun e w' hh => ?_
  obtain ⟨v, rfl, hR⟩ := hh
  exact h v w' hR
theorem step_update (hgd : o.guard = none) (t : TypeId) (m x v : Operand) (hop : o.op = .mapUpdate t m x v) (vm vx vv : Value) (hm : a.eval m = vm) (hx : a.eval x = vx) (hv : a.eval v = vv) (w' : World) (hrun : (Instr.mapUpdate t vm vx vv).run P w = .ok () w') (h : K (a.put o.dst undef) w') :
    if Region.wanted o (yielded ops a.tmps) = true then Oper.wp P o a w K Q else E := by
  have hw : Region.wanted o (yielded ops a.tmps) = true := by simp [Region.wanted, hgd]
  rw [if_pos hw]
  unfold Oper.wp
  simp [execOp, hop, hm, hx, hv, hrun, Result.andThen]
  exact h
end
end Go.Proofs.Ytocfbokgbpaneaa

namespace Go.Proofs.Ytocfbokgbpaneaa
open Go.RowKit Go.Maps
set_option linter.unusedVariables false

theorem Try.infoExt3 : (Try.prog.info? 49).map (fun i => (i.zero, i.size, i.bytes)) = some (some (.agg zeroE.cells.toArray), 385, 385) := by kernel_rfl
theorem builtExt : Try.prog.built 49 [] = some zeroE.cells.toArray := by kernel_rfl
theorem fillExt : Instr.fill (fun i => some (i * 385, 385)) ((Array.range (1 * 385)).map ((Value.agg zeroE.cells.toArray).cells[· % (Value.agg zeroE.cells.toArray).cells.size]!)) [(0, Value.agg zeroE.cells.toArray)] = some zeroE.cells.toArray := by kernel_rfl
section
variable {o : Oper} {a : Act} {w : World}
theorem clone_run {s : ByteArray} (ho : o.op = Op.call { callee := Callee.value (Operand.func 55), args := #[Operand.tmp 8], argTypes := #[9] }) (h : a.eval (.tmp 8) = .string s) : (execOp a.eval o).run Try.prog w = .ok (.enter 55 #[.string s]) w := by
  simp [go_sem, execOp, ho, resolve, invoke]
  simpa [Act.eval] using h
theorem look_run {bm : Nat} {s : ByteArray} {V : Value} (ho : o.op = Op.lookup 41 (Operand.tmp 13) (Operand.tmp 14) false) (h1 : a.eval (.tmp 13) = .map (some bm)) (h2 : a.eval (.tmp 14) = .string s)
    (hr : (Instr.lookup 41 (.map (some bm)) (.string s) false).run Try.prog w = .ok V w) : (execOp a.eval o).run Try.prog w = .ok (.value V) w := by
  simp [execOp, ho, h1, h2, hr, Result.andThen]
theorem mk_run {Z : Array Value} (ho : o.op = Op.buildSlice 44 1 #[(0, Operand.tmp 16)]) (h : a.eval (.tmp 16) = .agg Z) (hz : Hid (Z = zeroE.cells.toArray)) : (execOp a.eval o).run Try.prog w = .ok (.value (.slice (some ⟨w.heap.size, 0, none⟩) 1 1)) (w.alloc (.cells Z 49)) := by
  obtain ⟨i0, hi, hz0, hz1, hz2⟩ := info_parts Try.infoExt3
  have hr := run_buildSlice (P := Try.prog) w 44 49 1 #[(0, .agg Z)] Z i0 (.agg zeroE.cells.toArray) Try.underlying44 hi hz0 (by rw [hz1]; decide) (by rw [hz1]; decide) (by rw [hz1, hz.out]; exact fillExt)
  simp [execOp, ho, h, hr, Result.andThen]
theorem bld_run {Z : Array Value} (ho : o.op = Op.build 49 #[]) (hz : Hid (Try.prog.built 49 [] = some Z)) : (execOp a.eval o).run Try.prog w = .ok (.value (.agg Z)) w := by
  have hr := run_build (P := Try.prog) w 49 #[] Z hz.out
  simp [execOp, ho, hr, Result.andThen]
end
theorem news_of {w : World} {b : Nat} {Z : Array Value} {t : TypeId} (h : w.heap[b]? = some (.cells Z t (0, 0))) : ∀ j u, Z.toList[j]? = some u → w.cell? ((⟨b, 0, none⟩ : Addr).add j) = some u := by
  intro j u hj
  rw [add_none, Nat.zero_add, cell_of_row _ _ _ _ _ _ h]
  simpa using hj
theorem DiskIs.map_kept {w w4 : World} {d N : Nat} {F : Nat → Prop} {M : List UInt8 → List Ext} {free fuse : Int} {bm : Nat} {D : DataW Unit} {G C : List UInt8 → Nat} (h : DiskIs w d F N M free fuse bm D G C) {V : Value} {s : List UInt8} (hg : w.grownBy w4 V.ownBlock) (hV : ∀ g, V.ownBlock = some g → M s ≠ [] ∧ g = G s) :
    w4.ownsMap Try.prog 9 hd bm N D := by
  refine h.2.2.2.1.kept hg (fun e => ?_)
  obtain ⟨hne, e2⟩ := hV bm e.symm
  obtain ⟨es, clock, hb, _⟩ := h.2.2.2.1
  rcases (h.2.2.2.2.2.1 s hne).2.1.2 with ⟨hv, _⟩ | ⟨g2, c2, cur2, hv, _, hh2, _⟩
  · cases hv
  · cases hv
    rw [← e2, hb] at hh2
    cases hh2
theorem DiskIs.cell_kept {w w4 : World} {d N : Nat} {F : Nat → Prop} {M : List UInt8 → List Ext} {free fuse : Int} {bm : Nat} {D : DataW Unit} {G C : List UInt8 → Nat} (h : DiskIs w d F N M free fuse bm D G C) {V : Value} {s : List UInt8} (hg : w.grownBy w4 V.ownBlock) (hV : ∀ g, V.ownBlock = some g → M s ≠ [] ∧ g = G s) :
    w4.cell? ⟨d, 0, none⟩ = some (.map (some bm)) := by
  have h4 : w4.heap[d]? = some (.cells #[.map (some bm), .int .i64 free, .int .i64 fuse] 43 (0, 0)) := by
    refine (hg.block d (Array.getElem?_eq_some_iff.1 h.1).1 (fun e => ?_)).trans h.1
    obtain ⟨hne, e2⟩ := hV d e.symm
    exact row_ne (h.2.2.2.2.2.1 s hne).2.1 h.1 e2.symm
  rw [cell_of_row _ _ _ _ _ _ h4]; rfl
theorem gr_grow {w w1 w4 w5 : World} {F : Nat → Prop} {bm g : Nat} {V : Value} (hb : Below w.heap.size w w1) (hg : w1.grownBy w4 V.ownBlock) (hV : ∀ g, V.ownBlock = some g → F g) (hat : V.ownBlock = some g ∨ g = w1.heap.size) (hlt : g < w4.heap.size) (hg5 : w4.grownBy w5 (some bm)) (hbm : F bm) : Gr F (fun k => F k ∨ k = g) w w5 := by
  have h1 : Keeps F w w5 := ((Keeps.of_below hb).trans (Keeps.of_grown hg hV)).trans (Keeps.of_grown hg5 (fun k hk => by cases hk; exact hbm))
  refine ⟨h1, fun k hk => ?_⟩
  rcases hk with hk | rfl
  · exact .inl hk
  · rcases hat with ha | ha
    · exact .inl (hV _ ha)
    · exact .inr ⟨by have := hb.size; omega, Nat.lt_of_lt_of_le hlt hg5.size⟩
end Go.Proofs.Ytocfbokgbpaneaa
