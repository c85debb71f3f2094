/- slices.Chunk of bytes: the parts of a text, one behind the other. -/
import Derived.Test.YthhnpajaacfapaaDoorMe
import Derived.RangeFuncNested
import Derived.RangeFuncBound
import Derived.RangeFuncCalls
import Derived.RangeFuncLeaves
import Derived.RangeFuncBox
import Derived.Shelf.Abstract
import Derived.Shelf.RegionOpen
import Derived.WalkKit
import Derived.OwnWalkIn
import Derived.TacticsInMore
import Derived.LoopNIn
import Derived.LoopIn
namespace Go.Proofs.YthhnpajaacfapaaDoor
open Go.RowKit Go.Shelf
set_option linter.unusedVariables false
attribute [local go_sem] Oper.semAt_some

/-- A part of a text: where it lies, and its bytes. -/
structure Pt where
  a : Option Addr
  len : Nat
  zs : List Nat

abbrev Prt (F : Nat → Prop) (w : World) : Type := { x : Pt // BsF F w x.a x.len x.zs ∧ x.len ≤ 106 }

def Prt.args {F : Nat → Prop} {w : World} (x : Prt F w) : Array Value := #[.slice x.1.a x.1.len x.1.len]

/-- The part k of the text at b, off. -/
def ptAt (b off : Nat) (zs : List Nat) (k : Nat) : Pt := ⟨some ⟨b, off + 106 * k, none⟩, min 106 (zs.length - 106 * k), (zs.drop (106 * k)).take 106⟩

def ptsOf (b off : Nat) (zs : List Nat) : List Pt := (List.range ((zs.length + 105) / 106)).map (ptAt b off zs)

theorem ptAt_ok {F : Nat → Prop} {w : World} {b off len : Nat} {zs : List Nat} (h : BsF F w (some ⟨b, off, none⟩) len zs) (k : Nat) (hk : 106 * k < len) : BsF F w (ptAt b off zs k).a (ptAt b off zs k).len (ptAt b off zs k).zs ∧ (ptAt b off zs k).len ≤ 106 := by
  obtain ⟨⟨hl, hm, hz, hn, hc⟩, hF⟩ := h
  have e : (ptAt b off zs k).len = min 106 (len - 106 * k) := by unfold ptAt; rw [hl]
  refine ⟨⟨⟨?_, ?_, ?_, ?_, ?_⟩, ?_⟩, ?_⟩
  · rw [e]; show ((zs.drop (106 * k)).take 106).length = _; rw [List.length_take, List.length_drop, hl]
  · rw [e]; unfold maxLen; omega
  · intro x hx; exact hz x (List.mem_of_mem_drop (List.mem_of_mem_take hx))
  · intro h; cases h
  · intro x hx j hj
    rw [e] at hj
    have hx' : x = ⟨b, off + 106 * k, none⟩ := by cases hx; rfl
    subst hx'
    have := hc ⟨b, off, none⟩ rfl (106 * k + j) (by omega)
    rw [add_none] at this ⊢
    rw [Nat.add_assoc, this]
    congr 3
    show zs.getD (106 * k + j) 0 = ((zs.drop (106 * k)).take 106).getD j 0
    simp only [List.getD_eq_getElem?_getD]
    rw [List.getElem?_take, if_pos (by omega), List.getElem?_drop]
  · intro x hx _
    have hx' : x = ⟨b, off + 106 * k, none⟩ := by cases hx; rfl
    subst hx'
    exact hF ⟨b, off, none⟩ rfl (by omega)
  · rw [e]; omega

/-- What a round keeps of the iterator's own two boxes. -/
def KpW (b1 b2 : Nat) (W W' : World) : Prop := W'.heap[b1]? = W.heap[b1]? ∧ W'.heap[b2]? = W.heap[b2]?

theorem KpW.trans {b1 b2 : Nat} {A B C : World} (h : KpW b1 b2 A B) (k : KpW b1 b2 B C) : KpW b1 b2 A C := ⟨k.1.trans h.1, k.2.trans h.2⟩

theorem kpW_b {b1 b2 n : Nat} (h1 : b1 < n) (h2 : b2 < n) (W : World) (l : Nat) (o o' : Obj) (hl : n ≤ l) (h : W.heap[l]? = some o) (hc : o.isCells = false) (hw : o.isWalk = false) : KpW b1 b2 W (W.putObj l o') :=
  ⟨World.putObj_heap_other (by omega), World.putObj_heap_other (by omega)⟩

theorem pts_step (b off : Nat) (zs : List Nat) (k : Nat) : (List.range (k + 1)).map (ptAt b off zs) = (List.range k).map (ptAt b off zs) ++ [ptAt b off zs k] := by rw [List.range_succ, List.map_append]; rfl

theorem pts_part (b off : Nat) (zs : List Nat) (k : Nat) (hk : k ≤ (zs.length + 105) / 106) {l : List Pt} (h : l = (List.range k).map (ptAt b off zs)) : ∃ qs, l ++ qs = ptsOf b off zs := by
  refine ⟨((List.range ((zs.length + 105) / 106)).drop k).map (ptAt b off zs), ?_⟩
  unfold ptsOf
  rw [h, ← List.map_append]
  congr 1
  have e : List.range k = (List.range ((zs.length + 105) / 106)).take k := by rw [List.take_range, Nat.min_eq_left hk]
  rw [e, List.take_append_drop]

set_option maxRecDepth 100000 in
set_option maxHeartbeats 4000000 in
theorem chunk1_in (n : Nat) (hn : 1 ≤ n) (l b1 b2 : Nat) (w : World) (F : Nat → Prop) (b off len cap : Nat) (zs : List Nat) (hB : BsF F w (some ⟨b, off, none⟩) len zs) (hcap : len ≤ cap) (hlm : len ≤ 2000000) (J Jx : List (Prt F w) → World → Prop)
    (B0 : Nat) (hA : AbidesFrom B0 J)
    (hY : ∀ pre x W, J pre W → pre.length < (ptsOf b off zs).length → YieldAt Fence.wide (n - 1) Tryd.prog l x.args W fun e W' =>
      (e = .returned (.bool true) ∧ J (pre ++ [x]) W' ∧ KpW b1 b2 W W') ∨ (e = .returned (.bool false) ∧ Jx (pre ++ [x]) W'))
    (W : World) (c1 : W.cell? ⟨b1, 0, none⟩ = some (.slice (some ⟨b, off, none⟩) len cap)) (c2 : W.cell? ⟨b2, 0, none⟩ = some (.int .i64 106)) (h0 : J [] W) :
    CallsIn Fence.wide n Tryd.prog 46 #[.func (.yield l) #[] #[], .pointer (some ⟨b1, 0, none⟩), .pointer (some ⟨b2, 0, none⟩)] W fun e W' => (∃ v, e = .returned v) ∧
      ((∃ ys, ys.map Subtype.val = ptsOf b off zs ∧ J ys W') ∨ (∃ pre, (∃ qs, pre.map Subtype.val ++ qs = ptsOf b off zs) ∧ Jx pre W')) := by
  have hlen := hidn hB.1.1
  refine callsIn_of_wp Tryd.func46 rfl trivial ?_ rfl
  simp only [Tryd.ntmps46, List.size_toArray, List.length_cons, List.length_nil, Nat.reduceAdd, Nat.reduceSub, Array.replicate_succ, Array.replicate_zero, List.push_toArray, List.append_toArray, List.nil_append, List.cons_append]
  gi_wp2
  gi_loopw [4] (fun iv wr => ∃ (k fr : Nat) (pre : List (Prt F w)), Hid (fr = 106 * k) ∧ fr < len + 106 ∧ iv = .int .i64 (fr : Int) ∧ Hid (pre.map Subtype.val = (List.range k).map (ptAt b off zs)) ∧ J pre wr ∧ wr.cell? ⟨b1, 0, none⟩ = some (.slice (some ⟨b, off, none⟩) len cap) ∧ wr.cell? ⟨b2, 0, none⟩ = some (.int .i64 106))
    (fun iv _ => len + 106 - (intOf iv).toNat)
  case atStart => exact ⟨0, 0, [], hidn rfl, by omega, rfl, hidn rfl, h0, c1, c2⟩
  case round =>
    obtain ⟨k, fr, pre, hfr, hfl, rfl, hpre, hJ1, d1, d2⟩ := hrel
    by_cases hlt : fr < len
    · have hlt2 : (fr : Int) < (len : Int) := by omega
      have t0 : (0 : Int) ≤ (fr : Int) := by omega
      obtain ⟨en, hen⟩ : ∃ en : Nat, en = min 106 (len - fr) := ⟨_, rfl⟩
      obtain ⟨te, hte⟩ : ∃ te : Nat, te = fr + en := ⟨_, rfl⟩
      have t1 : (fr : Int) ≤ (te : Int) := by omega
      have t2 : (te : Int) ≤ (cap : Int) := by omega
      have t3 : fr ≤ te := by omega
      have t4 : te ≤ cap := by omega
      have t5 : ¬ cap = fr := by omega
      have t7 : (fr : Int) ≤ (len : Int) := by omega
      have t8 : fr ≤ len := by omega
      have m1 : min (106 : Int) ((len - fr : Nat) : Int) = (en : Int) := by omega
      have m2 : (if ((len - fr : Nat) : Int) < 106 then ((len - fr : Nat) : Int) else 106) = (en : Int) := by split <;> omega
      have m3 : (if len - fr < 106 then ((len - fr : Nat) : Int) else 106) = (en : Int) := by split <;> omega
      have t9 : (fr : Int) + (en : Int) = (te : Int) := by omega
      have t10 : te - fr = en := by omega
      have JD : J pre wr.drew := hA _ _ _ none hJ1 ⟨rfl, rfl, rfl, Nat.le_refl _, fun _ _ _ => rfl⟩ (fun r e => by cases e)
      obtain ⟨x, hx1⟩ : ∃ x : Prt F w, x.1 = ptAt b off zs k := ⟨⟨ptAt b off zs k, ptAt_ok hB k (by have := hfr.out; omega)⟩, rfl⟩
      have hargs : x.args = #[.slice (some ⟨b, off + fr, none⟩) en en] := by
        have e := hfr.out
        unfold Prt.args
        rw [hx1]
        simp only [ptAt]
        rw [← e, hlen.out, ← hen]
      have hplen : pre.length < (ptsOf b off zs).length := by
        have e1 := congrArg List.length hpre.out
        simp only [List.length_map, List.length_range] at e1
        have e4 := hfr.out
        have e5 : (ptsOf b off zs).length = (len + 105) / 106 := by simp [ptsOf, hlen.out]
        omega
      obtain ⟨fn, tmps, assign, body, hy, hR⟩ := hY pre x wr.drew JD hplen
      rw [hargs] at hy
      have HX1 := hidn hx1
      have HEN := hidn hen
      have HTE := hidn hte
      clear hargs hplen JD hx1 hen hte hJ1
      have HLT := hidn hlt
      gi_wp2
      gi_region
      gi_wp2
      refine hR.mono ?_
      clear hR hy
      rintro e W3 (⟨rfl, hJ3, hk3⟩ | ⟨rfl, hJx3⟩)
      · have r1 : W3.cell? ⟨b1, 0, none⟩ = some (.slice (some ⟨b, off, none⟩) len cap) := (World.cell?_of_block (w := wr.drew) hk3.1).trans d1
        have r2 : W3.cell? ⟨b2, 0, none⟩ = some (.int .i64 106) := (World.cell?_of_block (w := wr.drew) hk3.2).trans d2
        clear d1 d2 m1 m2 m3
        gi_wp2
        go_roundw
        case rel => exact ⟨k + 1, fr + 106, pre ++ [x], hidn (by rw [hfr.out]; omega), by have := HLT.out; omega, by simp, hidn (by rw [List.map_append, hpre.out, pts_step, ← HX1.out]; rfl), hJ3, r1, r2⟩
        case measure => simp [intOf]; have := HLT.out; omega
      · gi_wp2
        refine bodyPost_ret (results_none rfl _ _ _) rfl ?_
        refine ⟨⟨_, rfl⟩, .inr ⟨_, ?_, hJx3⟩⟩
        refine pts_part b off zs (k + 1) (by rw [hlen.out]; have := HLT.out; have := hfr.out; omega) ?_
        rw [List.map_append, hpre.out, pts_step, ← HX1.out]
        rfl
    · have hlt2 : ¬ (fr : Int) < (len : Int) := by omega
      have HE : Hid (pre.map Subtype.val = ptsOf b off zs) := hidn (by
        rw [hpre.out]
        have e := hfr.out
        unfold ptsOf
        rw [hlen.out, show k = (len + 105) / 106 from by omega])
      gi_wp2
      go_end0
      exact ⟨⟨_, rfl⟩, .inl ⟨_, HE.out, hJ1⟩⟩

theorem chunk_in (n : Nat) (a : Option Addr) (len cap : Nat) (w : World) :
    CallsIn Fence.wide n Tryd.prog 33 #[.slice a len cap, .int .i64 106] w fun e w' => e = .returned (.func (.func 46) #[] #[.pointer (some ⟨w.heap.size, 0, none⟩), .pointer (some ⟨w.heap.size + 1, 0, none⟩)]) ∧ w' = (w.alloc (.cells #[.slice a len cap] 29)).alloc (.cells #[.int .i64 106] 3) := by
  refine callsIn_of_wp Tryd.func33 rfl trivial ?_ rfl
  simp only [Tryd.ntmps33, List.size_toArray, List.length_cons, List.length_nil, Nat.reduceAdd, Nat.reduceSub, Array.replicate_succ, Array.replicate_zero, List.push_toArray, List.append_toArray, List.nil_append, List.cons_append]
  gi_wp2
  go_ret
  exact ⟨rfl, rfl⟩

theorem chunk_stops (n : Nat) (hn : 1 ≤ n) (b1 b2 : Nat) (w w0 : World) (F : Nat → Prop) (b off len cap : Nat) (zs : List Nat) (hB : BsF F w (some ⟨b, off, none⟩) len zs) (hcap : len ≤ cap) (hlm : len ≤ 2000000) (c1 : w0.cell? ⟨b1, 0, none⟩ = some (.slice (some ⟨b, off, none⟩) len cap)) (c2 : w0.cell? ⟨b2, 0, none⟩ = some (.int .i64 106)) :
    SeqStopsK Fence.wide n Tryd.prog 46 #[.pointer (some ⟨b1, 0, none⟩), .pointer (some ⟨b2, 0, none⟩)] (fun x : Prt F w => x.args) (KpW b1 b2) (fun ys => ys.map Subtype.val = ptsOf b off zs) (fun pre => ∃ qs, pre.map Subtype.val ++ qs = ptsOf b off zs) (ptsOf b off zs).length w0 := fun l J Jx W hW hA _ hY h0 => by
  refine (chunk1_in n hn l b1 b2 w F b off len cap zs hB hcap hlm J Jx W.heap.size hA hY W ((hW.cell (block_lt_of_cell c1)).trans c1) ((hW.cell (block_lt_of_cell c2)).trans c2) h0).mono ?_
  rintro e W' ⟨he, ⟨ys, h1, h2⟩ | ⟨pre, h, h'⟩⟩
  · exact ⟨he, .inl ⟨ys, h1, h2⟩⟩
  · exact ⟨he, .inr ⟨pre, h, h'⟩⟩
end Go.Proofs.YthhnpajaacfapaaDoor
