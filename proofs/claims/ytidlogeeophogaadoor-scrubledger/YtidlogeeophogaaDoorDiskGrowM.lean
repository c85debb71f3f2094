/- A file that has one extent more: what the disk is then; steps of a region that draws its order. -/
import Derived.Test.YtidlogeeophogaaDoorDiskRead
import Derived.Test.YtidlogeeophogaaDoorStrClone
import Derived.Great.BuildSlice
import Derived.Deep.AppendLies
import Derived.Deep.RegionHeld3
namespace Go.Proofs.YtidlogeeophogaaDoor
open Go.RowKit Go.Maps
set_option linter.unusedVariables false

theorem zeroE_ok : zeroE.ok := by
  have h : (List.replicate 128 0).length = 128 ∧ ∀ y ∈ List.replicate 128 0, y < 256 := ⟨by simp, fun y hy => by have := List.eq_of_mem_replicate hy; omega⟩
  exact ⟨h, h, h⟩
theorem DiskIs.below {w w' : World} {d N : Nat} {F : Nat → Prop} {M : List UInt8 → List Ext} {free fuse : Int} {bm : Nat} {D : DataW Unit} {G C : List UInt8 → Nat} (h : DiskIs w d F N M free fuse bm D G C) (hb : Below w.heap.size w w') : DiskIs w' d F N M free fuse bm D G C := by
  obtain ⟨h1, h2, h3, h4, h5, h6, h7⟩ := h
  refine ⟨(hb.block d (Array.getElem?_eq_some_iff.1 h1).1).trans h1, h2, h3, map_below h4 hb, h5, fun s hs => ?_, h7⟩
  obtain ⟨a1, a2, a3⟩ := h6 s hs
  exact ⟨a1, own_below a2 hb, a3⟩

/-- What a look-up tells, whatever there is. -/
theorem DiskIs.any {w : World} {d N : Nat} {F : Nat → Prop} {M : List UInt8 → List Ext} {free fuse : Int} {bm : Nat} {D : DataW Unit} {G C : List UInt8 → Nat} (h : DiskIs w d F N M free fuse bm D G C) (s : ByteArray) (hs : s.size ≤ maxLen) :
    ∃ V, (∀ w', Below w.heap.size w w' → (Instr.lookup 36 (.map (some bm)) (.string s) false).run Tryd.prog w' = .ok V w') ∧ w.ownsRow 0 124 385 V (M s.data.toList).length (cellsE (M s.data.toList)) ∧
      (∀ g, V.ownBlock = some g → M s.data.toList ≠ [] ∧ g = G s.data.toList) := by
  by_cases hne : M s.data.toList = []
  · refine ⟨.slice none 0 0, fun w' hb => (h.below hb).look_no s hs hne, ?_, fun g hg => by cases hg⟩
    rw [hne]; exact World.ownsRow_nil _ _ _ _
  · exact ⟨_, fun w' hb => (h.below hb).look s hs hne, (h.2.2.2.2.2.1 _ hne).2.1, fun g hg => ⟨hne, (Option.some.inj hg).symm⟩⟩

/-- One extent more: the row has moved to g, or lies where it lay; the map tells so. -/
theorem DiskIs.grown {w w4 w5 : World} {d N : Nat} {F : Nat → Prop} {M : List UInt8 → List Ext} {free fuse : Int} {bm : Nat} {D : DataW Unit} {G C : List UInt8 → Nat} (h : DiskIs w d F N M free fuse bm D G C) (s : List UInt8) (x : Ext) (hx : x.ok) (V : Value) (hV : ∀ g, V.ownBlock = some g → M s ≠ [] ∧ g = G s)
    (hVr : w.ownsRow 0 124 385 V (M s).length (cellsE (M s))) (g c : Nat) (hg : w.grownBy w4 V.ownBlock) (hat : V.ownBlock = some g ∨ g = w.heap.size)
    (hrow : w4.ownsRow 0 124 385 (.slice (some ⟨g, 0, none⟩) ((M s).length + 1) c) ((M s).length + 1) (cellsE (M s ++ [x])))
    (hmap : w5.ownsMap Tryd.prog 9 hd bm (N + 1) (D.put (.string s) (encS g ((M s).length + 1) c))) (hg5 : w4.grownBy w5 (some bm)) :
    ∃ G' C', DiskIs w5 d (fun k => F k ∨ k = g) (N + 1) (upd M s (M s ++ [x])) free fuse bm (D.put (.string s) (encS g ((M s).length + 1) c)) G' C' := by
  obtain ⟨h1, h2, h3, h4, h5, h6, h7⟩ := h
  have hlen : (M s ++ [x]).length = (M s).length + 1 := by simp
  have hIs := h4.isMap
  have hkey : WideAt.IsKeyLit (Lit.string s) := trivial
  have hltd := (Array.getElem?_eq_some_iff.1 h1).1
  have hd4 : w4.heap[d]? = some (.cells #[.map (some bm), .int .i64 free, .int .i64 fuse] 38 (0, 0)) := by
    refine (hg.block d hltd (fun e => ?_)).trans h1
    obtain ⟨hne, e2⟩ := hV d e.symm
    exact row_ne (h6 s hne).2.1 h1 e2.symm
  have hd5 : w5.heap[d]? = some (.cells #[.map (some bm), .int .i64 free, .int .i64 fuse] 38 (0, 0)) := by
    refine (hg5.block d (Nat.lt_of_lt_of_le hltd hg.size) (fun e => ?_)).trans hd4
    exact map_ne h4 h1 (Option.some.inj e).symm
  have hkeep : ∀ {v : Value} {n : Nat} {xs : List Value}, w4.ownsRow 0 124 385 v n xs → w5.ownsRow 0 124 385 v n xs := by
    intro v n xs hr
    refine hr.kept hg5 ?_
    rcases hr.2 with ⟨hv, _⟩ | ⟨g', c', cur, hv, _, hh, _⟩
    · subst hv; exact .inl rfl
    · subst hv
      refine .inr (fun e => ?_)
      have e' : g' = bm := Option.some.inj e
      subst e'
      obtain ⟨es, clock, hb, _⟩ := h4
      have hb4 : w4.heap[g']? = some (.map es clock) := by
        refine (hg.block g' (Array.getElem?_eq_some_iff.1 hb).1 (fun e2 => ?_)).trans hb
        obtain ⟨hne, e3⟩ := hV g' e2.symm
        rcases (h6 s hne).2.1.2 with ⟨hv, _⟩ | ⟨g2, c2, cur2, hv, _, hh2, _⟩
        · cases hv
        · cases hv
          rw [← e3, hb] at hh2
          cases hh2
      rw [hb4] at hh
      cases hh
  have hlt : ∀ t, M t ≠ [] → t ≠ s → G t ≠ g := by
    intro t ht hts e
    rcases hat with ha | ha
    · obtain ⟨hne, e2⟩ := hV g ha
      exact h7 t s ht hne hts (by rw [e, e2])
    · have := ownRow_lt (h6 t ht).2.1
      omega
  refine ⟨fun t => if t = s then g else G t, fun t => if t = s then c else C t, hd5, ⟨.inl h2.1, h2.2⟩, ⟨.inl h3.1, fun t ht => ?_⟩, hmap, fun t ht => ?_, fun t ht => ?_, fun t t' ht ht' hne => ?_⟩
  · by_cases e : t = s
    · subst e; simp
    · rw [upd_other _ _ _ _ e] at ht
      simp only [if_neg e]
      exact .inl (h3.2 t ht)
  · by_cases e : t = s
    · subst e; rw [upd_same] at ht; simp at ht
    · rw [upd_other _ _ _ _ e] at ht
      rw [has_put_other (by intro h; exact e (by simpa using h))]
      exact h5 t ht
  · by_cases e : t = s
    · subst e
      rw [upd_same, hlen]
      refine ⟨fun z => ?_, ?_, ?_⟩
      · rw [atKey_put_same hIs hkey]; simp
      · simpa using hkeep hrow
      · intro y hy
        rcases List.mem_append.1 hy with hy | hy
        · by_cases hne : M t = []
          · rw [hne] at hy; simp at hy
          · exact (h6 t hne).2.2 y hy
        · rw [List.mem_singleton.1 hy]; exact hx
    · rw [upd_other _ _ _ _ e] at ht ⊢
      obtain ⟨b1, b2, b3⟩ := h6 t ht
      refine ⟨fun z => ?_, ?_, b3⟩
      · rw [atKey_put_other (by intro h; exact e (by simpa using h)), b1]
        simp [e]
      · have := hkeep (b2.kept hg (.inr (fun hh => ?_)))
        · simpa [e] using this
        · obtain ⟨hne, e2⟩ := hV (G t) hh.symm
          exact h7 t s ht hne e e2
  · by_cases e : t = s
    · subst e
      have e' : t' ≠ t := fun h => hne h.symm
      rw [upd_other _ _ _ _ e'] at ht'
      simp only [if_neg e']
      exact fun h => hlt t' ht' e' h.symm
    · rw [upd_other _ _ _ _ e] at ht
      by_cases e' : t' = s
      · subst e'
        simp only [if_neg e]
        exact hlt t ht e
      · rw [upd_other _ _ _ _ e'] at ht'
        simp only [if_neg e, if_neg e']
        exact h7 t t' ht ht' hne

section
variable {P : Program} {ops : Array Oper} {o : Oper} {a : Act} {w : World} {K : Act → World → Prop} {Q : Exit → Act → World → Prop} {E : Prop}
theorem step_val (hgd : o.guard = none) (v : Value) (w' : World) (hrun : (execOp a.eval o).run P w = .ok (.value v) w') (h : K (a.put o.dst v) w') :
    if Region.wanted o (yielded ops a.tmps) = true then Oper.wp P o a w K Q else E := by
  have hw : Region.wanted o (yielded ops a.tmps) = true := by simp [Region.wanted, hgd]
  rw [if_pos hw]
  unfold Oper.wp
  rw [hrun]
  exact h
theorem step_call (hgd : o.guard = none) (f : FuncId) (args : Array Value) (hrun : (execOp a.eval o).run P w = .ok (.enter f args) w) (R : Value → World → Prop) (hc : Calls P f args w fun e w' => ∃ v, e = .returned v ∧ R v w') (h : ∀ v w', R v w' → K (a.put o.dst v) w') :
    if Region.wanted o (yielded ops a.tmps) = true then Oper.wp P o a w K Q else E := by
  have hw : Region.wanted o (yielded ops a.tmps) = true := by simp [Region.wanted, hgd]
  rw [if_pos hw]
  unfold Oper.wp
  rw [hrun, Oper.upon_enter]
  refine hc.mono fun e w' hh => ?_
  obtain ⟨v, rfl, hR⟩ := hh
  exact h v w' hR
theorem step_update (hgd : o.guard = none) (t : TypeId) (m x v : Operand) (hop : o.op = .mapUpdate t m x v) (vm vx vv : Value) (hm : a.eval m = vm) (hx : a.eval x = vx) (hv : a.eval v = vv) (w' : World) (hrun : (Instr.mapUpdate t vm vx vv).run P w = .ok () w') (h : K (a.put o.dst undef) w') :
    if Region.wanted o (yielded ops a.tmps) = true then Oper.wp P o a w K Q else E := by
  have hw : Region.wanted o (yielded ops a.tmps) = true := by simp [Region.wanted, hgd]
  rw [if_pos hw]
  unfold Oper.wp
  simp [execOp, hop, hm, hx, hv, hrun, Result.andThen]
  exact h
end
end Go.Proofs.YtidlogeeophogaaDoor
