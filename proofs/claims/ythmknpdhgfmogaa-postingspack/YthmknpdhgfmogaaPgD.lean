/- slices.Chunk of numbers: the blocks of a list, one behind the other; putShort of what may be below 0. -/
import Derived.Test.YthmknpdhgfmogaaPgC
import Derived.RangeFuncNested
import Derived.RangeFuncBound
import Derived.RangeFuncCalls
import Derived.RangeFuncLeaves
import Derived.RangeFuncBox
import Derived.Shelf.Abstract
import Derived.Shelf.RegionOpen
import Derived.OwnWalkIn
import Derived.TacticsInMore
import Derived.LoopNIn
import Derived.LoopIn
namespace Go.Proofs.Ythmknpdhgfmogaa
open Go.RowKit Go.Shelf
set_option linter.unusedVariables false
attribute [local go_sem] Oper.semAt_some

/-- A block of a list: where it lies, and its numbers. -/
structure Pt where
  a : Option Addr
  len : Nat
  zs : List Nat

abbrev Prt (B : Nat) (w : World) : Type := { x : Pt // IlB w B x.a x.len x.zs ∧ 0 < x.len ∧ x.len ≤ 8 ∧ RiseN x.zs }

def Prt.args {B : Nat} {w : World} (x : Prt B w) : Array Value := #[.slice x.1.a x.1.len x.1.len]

/-- The block k of the list at b, off. -/
def ptAt (b off : Nat) (zs : List Nat) (k : Nat) : Pt := ⟨some ⟨b, off + 8 * k, none⟩, min 8 (zs.length - 8 * k), blk zs k⟩

def ptsOf (b off : Nat) (zs : List Nat) : List Pt := (List.range (nblk zs)).map (ptAt b off zs)

theorem ptAt_ok {B : Nat} {w : World} {b off len : Nat} {zs : List Nat} (h : IlB w B (some ⟨b, off, none⟩) len zs) (hr : RiseN zs) (k : Nat) (hk : 8 * k < len) : IlB w B (ptAt b off zs k).a (ptAt b off zs k).len (ptAt b off zs k).zs ∧ 0 < (ptAt b off zs k).len ∧ (ptAt b off zs k).len ≤ 8 ∧ RiseN (ptAt b off zs k).zs := by
  have hl : zs.length = len := by rw [← up_len]; exact h.1.1
  have e : (ptAt b off zs k).len = min 8 (len - 8 * k) := by unfold ptAt; rw [hl]
  refine ⟨⟨⟨?_, ?_, ?_, ?_⟩, ?_⟩, ?_, ?_, blk_rise hr k⟩
  · rw [up_len, e]; show (blk zs k).length = _; rw [blk_len, hl]
  · rw [e]; unfold maxLen; omega
  · intro h; cases h
  · intro x hx j y hj
    have hx' : x = ⟨b, off + 8 * k, none⟩ := by cases hx; rfl
    subst hx'
    have hjl : j < (blk zs k).length := by
      have := (List.getElem?_eq_some_iff.1 hj).1
      rw [up_len] at this
      exact this
    have h1 := up_get (xs := blk zs k) hjl
    rw [blk_len] at hjl
    have h2 : (up (ptAt b off zs k).zs)[j]? = some ((nD zs (8 * k + j) : Nat) : Int) := by rw [← blk_get (by omega) (by omega)]; exact h1
    rw [h2] at hj
    cases hj
    have h3 := h.1.2.2.2 ⟨b, off, none⟩ rfl (8 * k + j) _ (up_get (by omega))
    rw [add_none] at h3 ⊢
    rw [Nat.add_assoc]
    exact h3
  · intro _ b' off' sp' hx
    cases hx
    exact h.2 (by omega) _ _ _ rfl
  · rw [e]; omega
  · rw [e]; omega

/-- What a round keeps of the iterator's own two boxes. -/
def KpW (b1 b2 : Nat) (W W' : World) : Prop := W'.heap[b1]? = W.heap[b1]? ∧ W'.heap[b2]? = W.heap[b2]?

theorem KpW.trans {b1 b2 : Nat} {A B C : World} (h : KpW b1 b2 A B) (k : KpW b1 b2 B C) : KpW b1 b2 A C := ⟨k.1.trans h.1, k.2.trans h.2⟩

theorem kpW_b {b1 b2 n : Nat} (h1 : b1 < n) (h2 : b2 < n) (W : World) (l : Nat) (o o' : Obj) (hl : n ≤ l) (h : W.heap[l]? = some o) (hc : o.isCells = false) (hw : o.isWalk = false) : KpW b1 b2 W (W.putObj l o') :=
  ⟨World.putObj_heap_other (by omega), World.putObj_heap_other (by omega)⟩

theorem pts_step (b off : Nat) (zs : List Nat) (k : Nat) : (List.range (k + 1)).map (ptAt b off zs) = (List.range k).map (ptAt b off zs) ++ [ptAt b off zs k] := by rw [List.range_succ, List.map_append]; rfl

theorem pts_part (b off : Nat) (zs : List Nat) (k : Nat) (hk : k ≤ nblk zs) {l : List Pt} (h : l = (List.range k).map (ptAt b off zs)) : ∃ qs, l ++ qs = ptsOf b off zs := by
  refine ⟨((List.range (nblk zs)).drop k).map (ptAt b off zs), ?_⟩
  unfold ptsOf
  rw [h, ← List.map_append]
  congr 1
  have e : List.range k = (List.range (nblk zs)).take k := by rw [List.take_range, Nat.min_eq_left hk]
  rw [e, List.take_append_drop]

set_option maxRecDepth 100000 in
set_option maxHeartbeats 4000000 in
theorem chunk1_in (n : Nat) (hn : 1 ≤ n) (l b1 b2 : Nat) (w : World) (B : Nat) (a : Option Addr) (b off len cap : Nat) (ha : 0 < len → a = some ⟨b, off, none⟩) (zs : List Nat) (hB : IlB w B a len zs) (hr : RiseN zs) (hcap : len ≤ cap) (hlm : len ≤ 2000000) (J Jx : List (Prt B w) → World → Prop)
    (B0 : Nat) (hA : AbidesFrom B0 J)
    (hY : ∀ pre x W, J pre W → pre.length < (ptsOf b off zs).length → YieldAt Fence.wide (n - 1) Try.prog l x.args W fun e W' =>
      (e = .returned (.bool true) ∧ J (pre ++ [x]) W' ∧ KpW b1 b2 W W') ∨ (e = .returned (.bool false) ∧ Jx (pre ++ [x]) W'))
    (W : World) (c1 : W.cell? ⟨b1, 0, none⟩ = some (.slice a len cap)) (c2 : W.cell? ⟨b2, 0, none⟩ = some (.int .i64 8)) (h0 : J [] W) :
    CallsIn Fence.wide n Try.prog 54 #[.func (.yield l) #[] #[], .pointer (some ⟨b1, 0, none⟩), .pointer (some ⟨b2, 0, none⟩)] W fun e W' => (∃ v, e = .returned v) ∧
      ((∃ ys, ys.map Subtype.val = ptsOf b off zs ∧ J ys W') ∨ (∃ pre, (∃ qs, pre.map Subtype.val ++ qs = ptsOf b off zs) ∧ Jx pre W')) := by
  have hlen : Hid (zs.length = len) := hidn (by rw [← up_len]; exact hB.1.1)
  have HR := hidn hr
  have HB := hidn hB
  have HA := hidn ha
  clear hr hB ha
  refine callsIn_of_wp Try.func54 rfl trivial ?_ rfl
  simp only [Try.ntmps54, List.size_toArray, List.length_cons, List.length_nil, Nat.reduceAdd, Nat.reduceSub, Array.replicate_succ, Array.replicate_zero, List.push_toArray, List.append_toArray, List.nil_append, List.cons_append]
  gi_wp2
  gi_loopw [4] (fun iv wr => ∃ (k fr : Nat) (pre : List (Prt B w)), Hid (fr = 8 * k) ∧ fr < len + 8 ∧ iv = .int .i64 (fr : Int) ∧ Hid (pre.map Subtype.val = (List.range k).map (ptAt b off zs)) ∧ J pre wr ∧ wr.cell? ⟨b1, 0, none⟩ = some (.slice a len cap) ∧ wr.cell? ⟨b2, 0, none⟩ = some (.int .i64 8))
    (fun iv _ => len + 8 - (intOf iv).toNat)
  case atStart => exact ⟨0, 0, [], hidn rfl, by omega, rfl, hidn rfl, h0, c1, c2⟩
  case round =>
    obtain ⟨k, fr, pre, hfr, hfl, rfl, hpre, hJ1, d1, d2⟩ := hrel
    by_cases hlt : fr < len
    · have hlt2 : (fr : Int) < (len : Int) := by omega
      have t0 : (0 : Int) ≤ (fr : Int) := by omega
      have ea := HA.out (by omega)
      subst ea
      obtain ⟨en, hen⟩ : ∃ en : Nat, en = min 8 (len - fr) := ⟨_, rfl⟩
      obtain ⟨te, hte⟩ : ∃ te : Nat, te = fr + en := ⟨_, rfl⟩
      have t1 : (fr : Int) ≤ (te : Int) := by omega
      have t2 : (te : Int) ≤ (cap : Int) := by omega
      have t3 : fr ≤ te := by omega
      have t4 : te ≤ cap := by omega
      have t5 : ¬ cap = fr := by omega
      have t7 : (fr : Int) ≤ (len : Int) := by omega
      have t8 : fr ≤ len := by omega
      have m1 : min (8 : Int) ((len - fr : Nat) : Int) = (en : Int) := by omega
      have m2 : (if ((len - fr : Nat) : Int) < 8 then ((len - fr : Nat) : Int) else 8) = (en : Int) := by split <;> omega
      have m3 : (if len - fr < 8 then ((len - fr : Nat) : Int) else 8) = (en : Int) := by split <;> omega
      have t9 : (fr : Int) + (en : Int) = (te : Int) := by omega
      have t10 : te - fr = en := by omega
      have JD : J pre wr.drew := hA _ _ _ none hJ1 ⟨rfl, rfl, rfl, Nat.le_refl _, fun _ _ _ => rfl⟩ (fun r e => by cases e)
      obtain ⟨x, hx1⟩ : ∃ x : Prt B w, x.1 = ptAt b off zs k := ⟨⟨ptAt b off zs k, ptAt_ok HB.out HR.out k (by have := hfr.out; omega)⟩, rfl⟩
      have hargs : x.args = #[.slice (some ⟨b, off + fr, none⟩) en en] := by
        have e := hfr.out
        unfold Prt.args
        rw [hx1]
        simp only [ptAt]
        rw [← e, hlen.out, ← hen]
      have hplen : pre.length < (ptsOf b off zs).length := by
        have e1 := congrArg List.length hpre.out
        simp only [List.length_map, List.length_range] at e1
        have e4 := hfr.out
        have e5 : (ptsOf b off zs).length = (len + 7) / 8 := by simp [ptsOf, nblk, hlen.out]
        omega
      obtain ⟨fn, tmps, assign, body, hy, hR⟩ := hY pre x wr.drew JD hplen
      rw [hargs] at hy
      have HX1 := hidn hx1
      have HEN := hidn hen
      have HTE := hidn hte
      clear hargs hplen JD hx1 hen hte hJ1
      have HLT := hidn hlt
      gi_wp2
      gi_region
      gi_wp2
      refine hR.mono ?_
      clear hR hy
      rintro e W3 (⟨rfl, hJ3, hk3⟩ | ⟨rfl, hJx3⟩)
      · have r1 : W3.cell? ⟨b1, 0, none⟩ = some (.slice (some ⟨b, off, none⟩) len cap) := (World.cell?_of_block (w := wr.drew) hk3.1).trans d1
        have r2 : W3.cell? ⟨b2, 0, none⟩ = some (.int .i64 8) := (World.cell?_of_block (w := wr.drew) hk3.2).trans d2
        clear d1 d2 m1 m2 m3
        gi_wp2
        go_roundw
        case rel => exact ⟨k + 1, fr + 8, pre ++ [x], hidn (by rw [hfr.out]; omega), by have := HLT.out; omega, by simp, hidn (by rw [List.map_append, hpre.out, pts_step, ← HX1.out]; rfl), hJ3, r1, r2⟩
        case measure => simp [intOf]; have := HLT.out; omega
      · gi_wp2
        refine bodyPost_ret (results_none rfl _ _ _) rfl ?_
        refine ⟨⟨_, rfl⟩, .inr ⟨_, ?_, hJx3⟩⟩
        refine pts_part b off zs (k + 1) (by unfold nblk; rw [hlen.out]; have := HLT.out; have := hfr.out; omega) ?_
        rw [List.map_append, hpre.out, pts_step, ← HX1.out]
        rfl
    · have hlt2 : ¬ (fr : Int) < (len : Int) := by omega
      have HE : Hid (pre.map Subtype.val = ptsOf b off zs) := hidn (by
        rw [hpre.out]
        have e := hfr.out
        unfold ptsOf nblk
        rw [hlen.out, show k = (len + 7) / 8 from by omega])
      gi_wp2
      go_end0
      exact ⟨⟨_, rfl⟩, .inl ⟨_, HE.out, hJ1⟩⟩

theorem chunk_in (n : Nat) (a : Option Addr) (len cap : Nat) (w : World) :
    CallsIn Fence.wide n Try.prog 35 #[.slice a len cap, .int .i64 8] w fun e w' => e = .returned (.func (.func 54) #[] #[.pointer (some ⟨w.heap.size, 0, none⟩), .pointer (some ⟨w.heap.size + 1, 0, none⟩)]) ∧ w' = (w.alloc (.cells #[.slice a len cap] 22)).alloc (.cells #[.int .i64 8] 3) := by
  refine callsIn_of_wp Try.func35 rfl trivial ?_ rfl
  simp only [Try.ntmps35, List.size_toArray, List.length_cons, List.length_nil, Nat.reduceAdd, Nat.reduceSub, Array.replicate_succ, Array.replicate_zero, List.push_toArray, List.append_toArray, List.nil_append, List.cons_append]
  gi_wp2
  go_ret
  exact ⟨rfl, rfl⟩

theorem chunk_stops (n : Nat) (hn : 1 ≤ n) (b1 b2 : Nat) (w w0 : World) (B : Nat) (a : Option Addr) (b off len cap : Nat) (ha : 0 < len → a = some ⟨b, off, none⟩) (zs : List Nat) (hB : IlB w B a len zs) (hr : RiseN zs) (hcap : len ≤ cap) (hlm : len ≤ 2000000) (c1 : w0.cell? ⟨b1, 0, none⟩ = some (.slice a len cap)) (c2 : w0.cell? ⟨b2, 0, none⟩ = some (.int .i64 8)) :
    SeqStopsK Fence.wide n Try.prog 54 #[.pointer (some ⟨b1, 0, none⟩), .pointer (some ⟨b2, 0, none⟩)] (fun x : Prt B w => x.args) (KpW b1 b2) (fun ys => ys.map Subtype.val = ptsOf b off zs) (fun pre => ∃ qs, pre.map Subtype.val ++ qs = ptsOf b off zs) (ptsOf b off zs).length w0 := fun l J Jx W hW hA _ hY h0 => by
  refine (chunk1_in n hn l b1 b2 w B a b off len cap ha zs hB hr hcap hlm J Jx W.heap.size hA hY W ((hW.cell (block_lt_of_cell c1)).trans c1) ((hW.cell (block_lt_of_cell c2)).trans c2) h0).mono ?_
  rintro e W' ⟨he, ⟨ys, h1, h2⟩ | ⟨pre, h, h'⟩⟩
  · exact ⟨he, .inl ⟨ys, h1, h2⟩⟩
  · exact ⟨he, .inr ⟨pre, h, h'⟩⟩

/-- A short number's bytes, of a number that may be below 0, too. -/
def shortZ (n : Int) : List Nat := if n < 0 then [(n % 256).toNat] else shortB n.toNat

theorem shortZ_nat (n : Nat) : shortZ (n : Int) = shortB n := by unfold shortZ; rw [if_neg (by omega), Int.toNat_natCast]

theorem shortZ_len (n : Int) (h : n < 34359738368) : (shortZ n).length ≤ 5 := by
  unfold shortZ
  split
  · simp
  · exact shortB_len5 _ (by omega)

set_option maxHeartbeats 1000000 in
set_option maxRecDepth 100000 in
theorem putShort_neg (B : Nat) (v : Value) (zs : List Nat) (n : Int) (w : World) (h : w.ownsRow B 5 1 v zs.length (vb zs)) (hn : n < 0) (hl : zs.length ≤ 10000000) (hB : B ≤ w.heap.size) :
    Calls Try.prog 34 #[v, .int .i64 n] w (PsP w B v.ownBlock (zs ++ shortZ n)) := by
  obtain ⟨row, hrow⟩ : ∃ row, row = v.ownBlock := ⟨_, rfl⟩
  rw [← hrow]
  have HS0 : Hid (Bld w w B row v zs) := hidn (by rw [hrow]; exact Bld.start h)
  obtain ⟨va, vc, e0⟩ := own_slice h
  subst e0
  have HB0 := hidn hB
  obtain ⟨y, hy⟩ : ∃ y, y = (n % 256).toNat := ⟨_, rfl⟩
  have hw8 : IntKind.u8.wrap n = (y : Int) := by rw [IntKind.wrap_u8, hy]; omega
  have HE : Hid (shortZ n = [y]) := hidn (by unfold shortZ; rw [if_pos hn, hy])
  obtain ⟨L, hL⟩ : ∃ L, L = zs.length := ⟨_, rfl⟩
  rw [← hL] at HS0 hl ⊢
  have n1 : ¬ (127 : Int) < n := by omega
  obtain ⟨g, c', w', hr, hb⟩ := HS0.out.app1 HB0.out y (by rw [← hL]; omega)
  rw [← hL] at hr hb
  have HR := hidn hr
  have HB2 : Hid (Bld w w' B row (.slice (some ⟨g, 0, none⟩) (L + 1) c') (zs ++ shortZ n)) := hidn (by rw [HE.out]; exact hb)
  clear h hrow hr hb hy HE hL
  go_enter Try.func34, Try.ntmps34
  go_wp2_with fail
  go_loopw [0, 1] (fun bv iv wr => iv = .int .i64 n ∧ bv = .slice va L vc ∧ Hid (wr = w)) (fun _ iv _ => 0)
  case atStart => exact ⟨rfl, rfl, hidn rfl⟩
  case round =>
    obtain ⟨rfl, rfl, HW⟩ := hrel
    have hw := HW.out
    subst hw
    go_wp2_with (at_builtin; refine wpList_app_run2 rfl _ _ 23 23 rfl rfl _ _ _ rfl rfl HR.out ?_; clear HR)
    go_ret
    exact ⟨_, rfl, HB2.out⟩

theorem putShortZ_any (B : Nat) (v : Value) (zs : List Nat) (n : Int) (w : World) (h : w.ownsRow B 5 1 v zs.length (vb zs)) (hn : n < 34359738368) (hl : zs.length ≤ 10000000) (hB : B ≤ w.heap.size) :
    Calls Try.prog 34 #[v, .int .i64 n] w (PsP w B v.ownBlock (zs ++ shortZ n)) := by
  by_cases h0 : n < 0
  · exact putShort_neg B v zs n w h h0 hl hB
  · obtain ⟨m, rfl⟩ : ∃ m : Nat, n = (m : Int) := ⟨n.toNat, by omega⟩
    rw [shortZ_nat]
    exact putShort_any B v zs m w h (by omega) hl hB
end Go.Proofs.Ythmknpdhgfmogaa
