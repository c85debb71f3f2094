/- chunk.chunks: the iterator over what each chunk has. -/
import Derived.Test.YtcjhkpcnhnnjbaaDoorChC
import Derived.RangeFuncNested
import Derived.RangeFuncBound
import Derived.RangeFuncCalls
import Derived.RangeFuncLeaves
import Derived.RangeFuncBox
import Derived.Shelf.Abstract
import Derived.Shelf.RegionOpen
import Derived.WalkKit
import Derived.OwnWalkIn
import Derived.TacticsInMore
import Derived.LoopNIn
import Derived.LoopIn
namespace Go.Proofs.YtcjhkpcnhnnjbaaDoor
open Go.RowKit Go.Joins Go.Shelf
open Cd (Sam Sm canS encS samD SamOK IsPack BitsTab DbTab)
set_option linter.unusedVariables false
section
variable {n : Nat} {P : Program} {md : Region.Mode} {ops : Array Oper} {Q : Exit → Act → World → Prop} {fuel : Nat} {listed : Array Bool} {a : Act} {w : World} {i : Nat} {o : Oper} {rs : List Nat}
theorem takeI {oi : Oper} {v : Value} (dst : Option Nat) (hi : ops[i]? = some oi) (hd : oi.dst = dst) (hs : Region.noSelect ops = true) (hf : Region.free md ops listed i = true) (hr : (Region.ready md ops listed).contains i = true)
    (hQ : ∀ c a w, Q (.panic c) (a.put dst v) w → Q (.panic c) a w) (hy : YieldsFenced P ops oi v a)
    (h : wpAnyIn Fence.wide n P md ops Q fuel (listed.setIfInBounds i true) (a.put dst v) w) : wpAnyIn Fence.wide n P md ops Q (fuel + 1) listed a w := by
  subst hd
  exact wpAnyIn_take rfl hi hs hf hr hQ hy h
theorem rdyI_val (ho : ops[i]? = some o) (hgd : o.guard = none) (dst : Option Nat) (hd : o.dst = dst) (v : Value) (hrun : (execOp a.eval o).run P w = .ok (.value v) w)
    (h : wpAnyIn Fence.wide n P md ops Q fuel (listed.setIfInBounds i true) (a.put dst v) w) (hs : AllReadyIn Fence.wide n P md ops Q fuel listed a w rs) : AllReadyIn Fence.wide n P md ops Q fuel listed a w (i :: rs) := by
  subst hd
  refine AllReadyIn.cons ho (fun K hK => ?_) hs
  have hw : Region.wanted o (yielded ops a.tmps) = true := by simp [Region.wanted, hgd]
  rw [if_pos hw]
  refine ⟨fun _ _ => trivial, ?_⟩
  show Oper.uponIn _ _ _ _ _ _ _ ((Oper.semAt none a.eval o).run P w)
  rw [Oper.semAt_none, hrun]
  exact hK _ _ h
theorem rdyI_round {l : Nat} {fn : FuncId} {tmps : Array Value} {assign body : Code} {R : Ending → World → Prop} (ho : ops[i]? = some o) (hgd : o.guard = none) (dst : Option Nat) (hd : o.dst = dst) (hrun : (execOp a.eval o).run P w = .ok (.round l fn tmps assign body) w) (hR : RoundIn Fence.wide (n - 1) P l fn tmps assign body w R)
    (h : ∀ e w', R e w' → ∃ v, e = .returned v ∧ wpAnyIn Fence.wide n P md ops Q fuel (listed.setIfInBounds i true) (a.put dst v) w') (hs : AllReadyIn Fence.wide n P md ops Q fuel listed a w rs) : AllReadyIn Fence.wide n P md ops Q fuel listed a w (i :: rs) := by
  subst hd
  refine AllReadyIn.cons ho (fun K hK => ?_) hs
  have hw : Region.wanted o (yielded ops a.tmps) = true := by simp [Region.wanted, hgd]
  rw [if_pos hw]
  refine ⟨fun _ _ => trivial, ?_⟩
  show Oper.uponIn _ _ _ _ _ _ _ ((Oper.semAt none a.eval o).run P w)
  rw [Oper.semAt_none, hrun]
  refine ⟨fun h => (by cases h), hR.mono fun e w' hr => ?_⟩
  obtain ⟨v, rfl, hx⟩ := h e w' hr
  exact hK _ _ hx
end
/-- What a chunk of a series has. -/
def partAt (s : Ser) (k : Nat) : Ser := { s with sa := s.sa.map (fun x => x.add (20 * k * 2)), sl := min 20 (s.sl - 20 * k), sc := s.sc - 20 * k, sm := (s.sm.drop (20 * k)).take 20 }
def partsOf (s : Ser) : List Ser := (List.range ((s.sl + 19) / 20)).map (partAt s)
def allParts (l : List Ser) : List Ser := l.flatMap partsOf
theorem allParts_snoc (l : List Ser) (s : Ser) : allParts (l ++ [s]) = allParts l ++ partsOf s := by simp [allParts]
theorem partAt_ok {w : World} {s : Ser} (h : s.ok w) (k : Nat) (hk : 20 * k < s.sl) : (partAt s k).ok w := by
  obtain ⟨h1, h2, h3, h4, h5⟩ := h
  refine ⟨h1, h2, ?_, ?_, ?_⟩
  · obtain ⟨g1, g2, g3, g4, g5⟩ := h3
    have hD : ∀ j, j < min 20 (s.sl - 20 * k) → samD ((s.sm.drop (20 * k)).take 20) j = samD s.sm (20 * k + j) := by
      intro j hj
      unfold samD
      rw [List.getD_eq_getElem?_getD, List.getD_eq_getElem?_getD, List.getElem?_take, if_pos (by omega), List.getElem?_drop]
    refine ⟨?_, ?_, ?_, ?_, ?_⟩
    · show ((s.sm.drop (20 * k)).take 20).length = min 20 (s.sl - 20 * k)
      rw [List.length_take, List.length_drop, g1]
    · show min 20 (s.sl - 20 * k) ≤ maxLen
      unfold maxLen; omega
    · intro i
      by_cases hi : i < min 20 (s.sl - 20 * k)
      · show SamOK (samD ((s.sm.drop (20 * k)).take 20) i)
        rw [hD i hi]; exact g3 _
      · show SamOK (samD ((s.sm.drop (20 * k)).take 20) i)
        unfold samD
        rw [List.getD_eq_getElem?_getD, List.getElem?_eq_none (by rw [List.length_take, List.length_drop, g1]; omega)]
        exact Cd.samOK_zero
    · intro e
      show min 20 (s.sl - 20 * k) = 0
      have : s.sa = none := by
        cases hs : s.sa with
        | none => rfl
        | some x => rw [show (partAt s k).sa = s.sa.map _ from rfl, hs] at e; cases e
      have := g4 this
      omega
    · intro x hx j hj
      have hj' : j < min 20 (s.sl - 20 * k) := hj
      show w.cell? (x.add (j * 2)) = some (.int .i64 (samD ((s.sm.drop (20 * k)).take 20) j).t) ∧ w.cell? (x.add (j * 2 + 1)) = some (.int .u64 (samD ((s.sm.drop (20 * k)).take 20) j).v)
      rw [hD j hj']
      cases hs : s.sa with
      | none => rw [show (partAt s k).sa = s.sa.map _ from rfl, hs] at hx; cases hx
      | some y =>
        rw [show (partAt s k).sa = s.sa.map _ from rfl, hs] at hx
        simp only [Option.map_some, Option.some.injEq] at hx
        subst hx
        obtain ⟨a1, a2⟩ := g5 y hs (20 * k + j) (by omega)
        rw [Deep.add_add, Deep.add_add, show 20 * k * 2 + j * 2 = (20 * k + j) * 2 from by omega, show 20 * k * 2 + (j * 2 + 1) = (20 * k + j) * 2 + 1 from by omega]
        exact ⟨a1, a2⟩
  · show min 20 (s.sl - 20 * k) ≤ s.sc - 20 * k
    omega
  · show s.sc - 20 * k ≤ maxLen
    omega
/-- What a round of the loop over chunks keeps: all that lay below, and the iterator's own copies of series. -/
def KpS (n₀ : Nat) (W W' : World) : Prop := Below n₀ W W' ∧ ∀ (k : Nat) c fz, W.heap[k]? = some (Obj.cells c 55 fz) → W'.heap[k]? = some (Obj.cells c 55 fz)
theorem KpS.trans {n₀ : Nat} {A B C : World} (h : KpS n₀ A B) (k : KpS n₀ B C) : KpS n₀ A C := ⟨h.1.trans k.1, fun i c fz hi => k.2 i c fz (h.2 i c fz hi)⟩
theorem kpS_b {n₀ : Nat} {w : World} (hn : n₀ ≤ w.heap.size) (W : World) (l : Nat) (o o' : Obj) (hl : w.heap.size ≤ l) (h : W.heap[l]? = some o) (hc : o.isCells = false) (hw : o.isWalk = false) : KpS n₀ W (W.putObj l o') := by
  refine ⟨belowK_b hn W l o o' hl h hc hw, fun k c fz hk => ?_⟩
  rw [(grownBy_putObj' W l o').block k (Array.getElem?_eq_some_iff.1 hk).1 (fun e => ?_)]
  · exact hk
  · cases e
    rw [h] at hk
    cases hk
    cases hc
/-- What the body may know of what it is handed. -/
abbrev Chk (w : World) : Type := { x : Ser // x.ok w ∧ canOK x.ls = true ∧ canS x.sm = true }
def Chk.args {w : World} (x : Chk w) : Array Value := #[.slice x.1.la x.1.ll x.1.lc, .slice x.1.sa x.1.sl x.1.sc]
theorem riseS_part {m : List Sam} {a b : Nat} (h : Cd.riseS m) : Cd.riseS ((m.drop a).take b) := by
  intro k hk
  rw [List.length_take, List.length_drop] at hk
  have e : ∀ j, j < b → samD ((m.drop a).take b) j = samD m (a + j) := by
    intro j hj
    unfold samD
    rw [List.getD_eq_getElem?_getD, List.getD_eq_getElem?_getD, List.getElem?_take, if_pos hj, List.getElem?_drop]
  rw [e k (by omega), e (k + 1) (by omega)]
  exact h (a + k) (by omega)
theorem canS_part {m : List Sam} {a b : Nat} (h : canS m = true) : canS ((m.drop a).take b) = true := by
  obtain ⟨h1, h2⟩ := (Cd.canS_iff m).1 h
  exact (Cd.canS_iff _).2 ⟨by rw [List.length_take, List.length_drop]; omega, riseS_part h2⟩
theorem callY_run {o : Oper} {a : Act} {w : World} {l x y z : Nat} {vy vz : Value} {ts : Array TypeId} {fn : FuncId} {tmps : Array Value} {assign body : Code} (ho : o.op = Op.call { callee := Callee.value (Operand.tmp x), args := #[.tmp y, .tmp z], argTypes := ts }) (hx : a.eval (.tmp x) = .func (.yield l) #[] #[]) (hy : a.eval (.tmp y) = vy) (hz : a.eval (.tmp z) = vz)
    (hr : (Instr.yield l #[vy, vz]).run Tryd.prog w = .ok (.round l fn tmps assign body) w) : (execOp a.eval o).run Tryd.prog w = .ok (.round l fn tmps assign body) w := by
  simp only [Act.eval] at hx hy hz
  simp [execOp, ho, resolve, invoke, hx, hy, hz, go_sem, hr]
end Go.Proofs.YtcjhkpcnhnnjbaaDoor
