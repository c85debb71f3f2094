/- chunk.Can. -/
import Derived.Test.YtfgfkifdokeefaaDoorChA
import Derived.Test.YtfgfkifdokeefaaDoorMe
import Derived.Deep.QuietTactic
import Derived.BigQuiet
import Derived.RangeFuncNested
import Derived.RangeFuncBound
import Derived.RangeFuncCalls
import Derived.RangeFuncLeaves
import Derived.RangeFuncBox
import Derived.Shelf.Abstract
import Derived.Shelf.RegionOpen
import Derived.WalkKit
import Derived.OwnWalkIn
import Derived.TacticsInMore
import Derived.LoopNIn
import Derived.LoopIn
import Derived.Test.YtfgfkifdokeefaaDoorChB
namespace Go.Proofs.YtfgfkifdokeefaaDoor
open Go.RowKit Go.Joins
open Cd (Sam Sm canS encS samD SamOK IsPack BitsTab DbTab)
set_option linter.unusedVariables false
def lsAt (l : List (List Lab × List Sam)) (i : Nat) : List Lab := (l.getD i ([], [])).1
def smAt (l : List (List Lab × List Sam)) (i : Nat) : List Sam := (l.getD i ([], [])).2
def serAt (l : List (List Lab × List Sam)) (i : Nat) : Bool := canOK (lsAt l i) && (decide (0 < (smAt l i).length) && (canS (smAt l i) && (decide (i = 0) || decide (cmpL (lsAt l (i - 1)) (lsAt l i) < 0))))
/-- Whether series may stand in a stream. -/
def canSr (l : List (List Lab × List Sam)) : Bool := (List.range l.length).all (serAt l)
def Ser.pl (s : Ser) : List Lab × List Sam := (s.ls, s.sm)
theorem lsAt_map {l : List Ser} {i : Nat} {s : Ser} (h : l[i]? = some s) : lsAt (l.map Ser.pl) i = s.ls ∧ smAt (l.map Ser.pl) i = s.sm := by
  unfold lsAt smAt
  rw [List.getD_eq_getElem?_getD, List.getElem?_map, h]
  exact ⟨rfl, rfl⟩
theorem canSr_take (l : List (List Lab × List Sam)) (k : Nat) (hk : k < l.length) (h : serAt l k = false) : canSr l = false := by
  rw [Bool.eq_false_iff]
  intro e
  have := List.all_eq_true.1 e k (List.mem_range.2 hk)
  rw [h] at this
  cases this
set_option maxHeartbeats 4000000 in
set_option maxRecDepth 100000 in
theorem canSr_any (a : Option Addr) (len cap : Nat) (l : List Ser) (w : World) (h : Srs w a len l) :
    Calls Tryd.prog 29 #[.slice a len cap] w fun e w' => e = .returned (.bool (canSr (l.map Ser.pl))) ∧ Below w.heap.size w w' := by
  have hlen := hidn h.1
  have hlm := h.2.1
  unfold maxLen at hlm
  obtain ⟨Z, hZ⟩ : ∃ Z, Z = canSr (l.map Ser.pl) := ⟨_, rfl⟩
  rw [← hZ]
  have HZ := hidn hZ
  clear hZ
  go_enter Tryd.func29, Tryd.ntmps29
  go_wp2_with fail
  go_loopw [7] (fun iv wr => ∃ j : Nat, iv = .int .i64 (j : Int) ∧ j ≤ len ∧ Below w.heap.size w wr ∧ Hid (∀ i, i < j → serAt (l.map Ser.pl) i = true)) (fun iv _ => len - (intOf iv).toNat)
  case atStart => exact ⟨0, rfl, Nat.zero_le _, Below.refl _ _, hidn (fun i hi => by omega)⟩
  case round =>
    obtain ⟨j, rfl, hj, hb, hall⟩ := hrel
    by_cases hlt : j < len
    · have hlt2 : (j : Int) < (len : Int) := by omega
      obtain ⟨s, hs⟩ : ∃ s, l[j]? = some s := ⟨_, List.getElem?_eq_getElem (by rw [hlen.out]; exact hlt)⟩
      obtain ⟨b, off, rfl, hbk, c0, c1, hok⟩ := (h.below hb).at hs
      have hno : Hid (serAt (l.map Ser.pl) j = false → Z = false) := hidn (fun e => by rw [HZ.out]; exact canSr_take _ j (by rw [List.length_map, hlen.out]; exact hlt) e)
      have hst : Hid (serAt (l.map Ser.pl) j = (canOK s.ls && (decide (0 < s.sm.length) && (canS s.sm && (decide (j = 0) || decide (cmpL (lsAt (l.map Ser.pl) (j - 1)) s.ls < 0)))))) := hidn (by
        unfold serAt; rw [(lsAt_map hs).1, (lsAt_map hs).2])
      have hnx : Hid (serAt (l.map Ser.pl) j = true → ∀ i, i < j + 1 → serAt (l.map Ser.pl) i = true) := hidn (fun e i hi => by
        by_cases hij : i = j
        · rw [hij]; exact e
        · exact hall.out i (by omega))
      have HPRE : Hid (∀ i, j = i + 1 → ∃ q, l[i]? = some q ∧ lsAt (l.map Ser.pl) (j - 1) = q.ls) := hidn (fun i hi => by
        obtain ⟨q, hq⟩ : ∃ q, l[i]? = some q := ⟨_, List.getElem?_eq_getElem (by rw [hlen.out]; omega)⟩
        refine ⟨q, hq, ?_⟩
        rw [show j - 1 = i from by omega]
        exact (lsAt_map hq).1)
      generalize serAt (l.map Ser.pl) j = sj at *
      clear hs hall
      obtain ⟨la, ll, lc, ls, sa, sl, sc, sm⟩ := s
      obtain ⟨hL, hll, hS, hsc, hscm⟩ := hok
      simp only at c0 c1 hL hll hS hsc hscm hst
      obtain ⟨wA, hwA⟩ : ∃ wA, wA = wr.alloc (.cells #[.slice la ll lc, .slice sa sl sc] 53) := ⟨_, rfl⟩
      have bA : Below wr.heap.size wr wA := by rw [hwA]; exact (Below.refl _ wr).alloc (Nat.le_refl _) _
      have qA : wA.heap[wr.heap.size]? = some (.cells #[.slice la ll lc, .slice sa sl sc] 53 (0, 0)) := by rw [hwA]; exact heap_alloc_new wr _
      have BA := hb.trans (bA.mono hb.size)
      have HCL := hidn (can_any la ll lc ls wA (hL.below bA) hll)
      have HWA := hidn hwA
      clear hwA
      generalize canOK ls = cl at *
      go_wp2_with fail
      rw [← HWA.out]
      refine HCL.out.mono ?_
      rintro e w1 ⟨rfl, b1⟩
      have B1 := BA.trans (b1.mono BA.size)
      have q1 := (b1.block _ (Array.getElem?_eq_some_iff.1 qA).1).trans qA
      have d0 : w1.cell? ⟨wr.heap.size, 0, none⟩ = some (.slice la ll lc) := cell_of_row _ _ _ _ _ _ q1
      have d1 : w1.cell? ⟨wr.heap.size, 1, none⟩ = some (.slice sa sl sc) := cell_of_row _ _ _ _ _ _ q1
      cases cl with
      | false =>
        have hx : Hid (Z = false) := hidn (hno.out (by rw [hst.out]; rfl))
        go_wp2_with fail
        exact bodyPost_ret (v := .bool false) (by simp [results, Tryd.results29, go_sem]) rfl ⟨by rw [hx.out], B1⟩
      | true =>
        by_cases s0 : sl = 0
        · have hx : Hid (Z = false) := hidn (hno.out (by rw [hst.out, decide_eq_false (show ¬ 0 < sm.length by rw [hS.1]; omega)]; rfl))
          subst s0
          go_wp2_with fail
          exact bodyPost_ret (v := .bool false) (by simp [results, Tryd.results29, go_sem]) rfl ⟨by rw [hx.out], B1⟩
        · have s1 : ((sl : Int) == 0) = false := beq_eq_false_iff_ne.2 (by omega)
          have hst2 : Hid (sj = (canS sm && (decide (j = 0) || decide (cmpL (lsAt (l.map Ser.pl) (j - 1)) ls < 0)))) := hidn (by rw [hst.out, decide_eq_true (show 0 < sm.length by rw [hS.1]; omega)]; rfl)
          have HCS := hidn (Cd.scan_any sa sl sc sm w1 ((hS.below bA).below b1))
          clear hst s0
          generalize canS sm = cs at *
          go_wp2_with fail
          refine HCS.out.mono ?_
          rintro e w2 ⟨rfl, b2⟩
          have B2 := B1.trans (b2.mono B1.size)
          have q2 := (b2.block _ (Array.getElem?_eq_some_iff.1 q1).1).trans q1
          have e0 : w2.cell? ⟨wr.heap.size, 0, none⟩ = some (.slice la ll lc) := cell_of_row _ _ _ _ _ _ q2
          cases cs with
          | false =>
            have hx : Hid (Z = false) := hidn (hno.out (by rw [hst2.out]; rfl))
            go_wp2_with fail
            exact bodyPost_ret (v := .bool false) (by simp [results, Tryd.results29, go_sem]) rfl ⟨by rw [hx.out], B2⟩
          | true =>
            cases j with
            | zero =>
              have hx : Hid (∀ i, i < 0 + 1 → serAt (l.map Ser.pl) i = true) := hidn (hnx.out (by rw [hst2.out]; rfl))
              go_wp2_with fail
              go_quiet (fail)
              go_wp2_with fail
              exact ⟨⟨1, by simp, by omega, below_drewN B2 _, hx⟩, by simp [intOf]; omega⟩
            | succ i =>
              obtain ⟨q, hq, hql⟩ := HPRE.out i rfl
              obtain ⟨b', off', e', hbk', p0, _, hok'⟩ := (h.below B2).at hq
              cases e'
              have HCM := hidn (compare_any q.la q.ll q.lc q.ls la ll lc ls w2.drew (hok'.1.below ((Below.refl _ w2).drew)) ((((hL.below bA).below b1).below b2).below ((Below.refl _ w2).drew)) hok'.2.1 hll)
              have hst3 : Hid (sj = decide (cmpL q.ls ls < 0)) := hidn (by rw [hst2.out, hql]; simp)
              obtain ⟨qa, ql, qc, hqc⟩ : ∃ qa ql qc, (Value.slice q.la q.ll q.lc) = .slice qa ql qc := ⟨_, _, _, rfl⟩
              generalize cmpL q.ls ls = cc at *
              have hen : ∀ args w, (callFunc 34 args).run Tryd.prog w = .ok (.enter 34 args) w := enters_of Tryd.func34 (by kernel_rfl) rfl
              have hi0 : ((i + 1 : Nat) : Int) = (i : Int) + 1 := by omega
              have hgt : decide (0 < (i : Int) + 1) = true := decide_eq_true (by omega)
              have hil : (i : Int) < (len : Int) := by omega
              have hil2 : i < len := by omega
              rw [hi0]
              clear c0 c1 hst2
              go_wp2_with fail
              refine wp_region_noPanic ?_
              refine wp_region_held_drew (S := fun w' => w'.cell? ⟨b, off + i * 2, none⟩ = some (.slice q.la q.ll q.lc) ∧ w'.cell? ⟨wr.heap.size, 0, none⟩ = some (.slice la ll lc)) (by kernel_rfl) (⟨p0, e0⟩) (fun hHeld => ?_)
              refine drawn_take (i := 0) (v := .int .i64 ((i : Int) + 1)) (some 28) rfl rfl (by kernel_rfl) (by kernel_rfl) (by kernel_rfl) (fun _ _ _ h => h) (Or.inl ⟨by kernel_rfl, fun wq hw => by go_simp⟩) hHeld ?_
              simp only [Act.put, List.setIfInBounds_toArray, List.set_cons_succ, List.set_cons_zero]
              refine drawn_take (i := 1) (v := .bool true) (some 29) rfl rfl (by kernel_rfl) (by kernel_rfl) (by kernel_rfl) (fun _ _ _ h => h) (Or.inl ⟨by kernel_rfl, fun wq hw => by go_simp⟩) hHeld ?_
              simp only [Act.put, List.setIfInBounds_toArray, List.set_cons_succ, List.set_cons_zero]
              refine drawn_take (i := 2) (v := .bool true) (some 30) rfl rfl (by kernel_rfl) (by kernel_rfl) (by kernel_rfl) (fun _ _ _ h => h) (Or.inl ⟨by kernel_rfl, fun wq hw => by go_simp⟩) hHeld ?_
              simp only [Act.put, List.setIfInBounds_toArray, List.set_cons_succ, List.set_cons_zero]
              refine drawn_take (i := 3) (v := .slice (some ⟨b, off, none⟩) len cap) (some 31) rfl rfl (by kernel_rfl) (by kernel_rfl) (by kernel_rfl) (fun _ _ _ h => h) (Or.inl ⟨by kernel_rfl, fun wq hw => by go_simp⟩) hHeld ?_
              simp only [Act.put, List.setIfInBounds_toArray, List.set_cons_succ, List.set_cons_zero]
              refine drawn_take (i := 4) (v := .int .i64 ((i : Int) + 1)) (some 32) rfl rfl (by kernel_rfl) (by kernel_rfl) (by kernel_rfl) (fun _ _ _ h => h) (Or.inl ⟨by kernel_rfl, fun wq hw => by go_simp⟩) hHeld ?_
              simp only [Act.put, List.setIfInBounds_toArray, List.set_cons_succ, List.set_cons_zero]
              refine drawn_take (i := 5) (v := .int .i64 (i : Int)) (some 33) rfl rfl (by kernel_rfl) (by kernel_rfl) (by kernel_rfl) (fun _ _ _ h => h) (Or.inl ⟨by kernel_rfl, fun wq hw => by go_simp; rw [IntKind.wrap_i64]; omega⟩) hHeld ?_
              simp only [Act.put, List.setIfInBounds_toArray, List.set_cons_succ, List.set_cons_zero]
              refine drawn_take (i := 6) (v := .pointer (some ⟨b, off + i * 2, none⟩)) (some 34) rfl rfl (by kernel_rfl) (by kernel_rfl) (by kernel_rfl) (fun _ _ _ h => h) (Or.inl ⟨by kernel_rfl, fun wq hw => by go_simp⟩) hHeld ?_
              simp only [Act.put, List.setIfInBounds_toArray, List.set_cons_succ, List.set_cons_zero]
              refine drawn_take (i := 7) (v := .pointer (some ⟨b, off + i * 2, none⟩)) (some 35) rfl rfl (by kernel_rfl) (by kernel_rfl) (by kernel_rfl) (fun _ _ _ h => h) (Or.inl ⟨by kernel_rfl, fun wq hw => by go_simp⟩) hHeld ?_
              simp only [Act.put, List.setIfInBounds_toArray, List.set_cons_succ, List.set_cons_zero]
              refine drawn_take (i := 8) (v := .slice q.la q.ll q.lc) (some 36) rfl rfl (by kernel_rfl) (by kernel_rfl) (by kernel_rfl) (fun _ _ _ h => h) (Or.inl ⟨by kernel_rfl, fun wq hw => by obtain ⟨g1, g2⟩ := hw; go_simp⟩) hHeld ?_
              simp only [Act.put, List.setIfInBounds_toArray, List.set_cons_succ, List.set_cons_zero]
              refine drawn_take (i := 9) (v := .pointer (some ⟨wr.heap.size, 0, none⟩)) (some 37) rfl rfl (by kernel_rfl) (by kernel_rfl) (by kernel_rfl) (fun _ _ _ h => h) (Or.inl ⟨by kernel_rfl, fun wq hw => by go_simp⟩) hHeld ?_
              simp only [Act.put, List.setIfInBounds_toArray, List.set_cons_succ, List.set_cons_zero]
              refine drawn_take (i := 10) (v := .slice la ll lc) (some 38) rfl rfl (by kernel_rfl) (by kernel_rfl) (by kernel_rfl) (fun _ _ _ h => h) (Or.inl ⟨by kernel_rfl, fun wq hw => by obtain ⟨g1, g2⟩ := hw; go_simp⟩) hHeld ?_
              simp only [Act.put, List.setIfInBounds_toArray, List.set_cons_succ, List.set_cons_zero]
              refine wpAnyH_ready (rs := [11]) (by kernel_rfl) (by simp) ?_
              refine rdy_callw (i := 11) rfl (by kernel_rfl) (some 39) rfl 34 #[.slice q.la q.ll q.lc, .slice la ll lc] (call2_run (x := 36) (y := 38) (ts := #[48, 48]) (by kernel_rfl) hen (by kernel_rfl) (by kernel_rfl)) (fun v w' => v = .int .i64 cc ∧ Below w2.heap.size w2 w') (HCM.out.mono fun e w' h => ⟨_, h.1, rfl, ((Below.refl _ w2).drew).trans h.2⟩) (fun r w9 hR => ?_) rdy_nil
              obtain ⟨rfl, b9⟩ := hR
              refine ⟨⟨(b9.cell (p := ⟨b, off + i * 2, none⟩) hbk').trans p0, (b9.cell (p := ⟨wr.heap.size, 0, none⟩) (Array.getElem?_eq_some_iff.1 q2).1).trans e0⟩, fun hHeld => ?_⟩
              simp only [Act.put, List.setIfInBounds_toArray, List.set_cons_succ, List.set_cons_zero]
              have B9 := B2.trans (b9.mono B2.size)
              by_cases hcc : 0 ≤ cc
              · have hx : Hid (Z = false) := hidn (hno.out (by rw [hst3.out]; simp; omega))
                refine drawn_take (i := 12) (v := .bool true) (some 40) rfl rfl (by kernel_rfl) (by kernel_rfl) (by kernel_rfl) (fun _ _ _ h => h) (Or.inl ⟨by kernel_rfl, fun wq hw => by go_simp⟩) hHeld ?_
                simp only [Act.put, List.setIfInBounds_toArray, List.set_cons_succ, List.set_cons_zero]
                refine drawn_take (i := 13) (v := .bool true) (some 41) rfl rfl (by kernel_rfl) (by kernel_rfl) (by kernel_rfl) (fun _ _ _ h => h) (Or.inl ⟨by kernel_rfl, fun wq hw => by go_simp⟩) hHeld ?_
                simp only [Act.put, List.setIfInBounds_toArray, List.set_cons_succ, List.set_cons_zero]
                refine wpAnyH_done (by kernel_rfl) ?_ _
                refine NoPanic.normal ?_
                clear hHeld
                go_wp2_with fail
                exact bodyPost_ret (v := .bool false) (by simp [results, Tryd.results29, go_sem]) rfl ⟨by rw [hx.out], B9⟩
              · have hx : Hid (∀ k, k < i + 1 + 1 → serAt (l.map Ser.pl) k = true) := hidn (hnx.out (by rw [hst3.out]; simp; omega))
                refine drawn_take (i := 12) (v := .bool false) (some 40) rfl rfl (by kernel_rfl) (by kernel_rfl) (by kernel_rfl) (fun _ _ _ h => h) (Or.inl ⟨by kernel_rfl, fun wq hw => by go_simp⟩) hHeld ?_
                simp only [Act.put, List.setIfInBounds_toArray, List.set_cons_succ, List.set_cons_zero]
                refine drawn_take (i := 13) (v := .bool false) (some 41) rfl rfl (by kernel_rfl) (by kernel_rfl) (by kernel_rfl) (fun _ _ _ h => h) (Or.inl ⟨by kernel_rfl, fun wq hw => by go_simp⟩) hHeld ?_
                simp only [Act.put, List.setIfInBounds_toArray, List.set_cons_succ, List.set_cons_zero]
                refine wpAnyH_done (by kernel_rfl) ?_ _
                refine NoPanic.normal ?_
                clear hHeld
                go_wp2_with fail
                exact ⟨⟨i + 1 + 1, by simp, by omega, B9, hx⟩, by simp [intOf]; omega⟩
    · have hlt2 : ¬ (j : Int) < (len : Int) := by omega
      have hZt : Hid (Z = true) := hidn (by
        rw [HZ.out]
        unfold canSr
        rw [List.all_eq_true]
        intro i hi
        have := List.mem_range.1 hi
        rw [List.length_map, hlen.out] at this
        exact hall.out i (by omega))
      go_wp2_with fail
      exact bodyPost_ret (v := .bool true) (by simp [results, Tryd.results29, go_sem]) rfl ⟨by rw [hZt.out], hb⟩
end Go.Proofs.YtfgfkifdokeefaaDoor

namespace Go.Proofs.YtfgfkifdokeefaaDoor
open Go.RowKit Go.Joins Go.Shelf
open Cd (Sam Sm canS encS samD SamOK IsPack BitsTab DbTab)
set_option linter.unusedVariables false
section
variable {n : Nat} {P : Program} {md : Region.Mode} {ops : Array Oper} {Q : Exit → Act → World → Prop} {fuel : Nat} {listed : Array Bool} {a : Act} {w : World} {i : Nat} {o : Oper} {rs : List Nat}
theorem takeI {oi : Oper} {v : Value} (dst : Option Nat) (hi : ops[i]? = some oi) (hd : oi.dst = dst) (hs : Region.noSelect ops = true) (hf : Region.free md ops listed i = true) (hr : (Region.ready md ops listed).contains i = true)
    (hQ : ∀ c a w, Q (.panic c) (a.put dst v) w → Q (.panic c) a w) (hy : YieldsFenced P ops oi v a)
    (h : wpAnyIn Fence.wide n P md ops Q fuel (listed.setIfInBounds i true) (a.put dst v) w) : wpAnyIn Fence.wide n P md ops Q (fuel + 1) listed a w := by
  subst hd
  exact wpAnyIn_take rfl hi hs hf hr hQ hy h
theorem rdyI_val (ho : ops[i]? = some o) (hgd : o.guard = none) (dst : Option Nat) (hd : o.dst = dst) (v : Value) (hrun : (execOp a.eval o).run P w = .ok (.value v) w)
    (h : wpAnyIn Fence.wide n P md ops Q fuel (listed.setIfInBounds i true) (a.put dst v) w) (hs : AllReadyIn Fence.wide n P md ops Q fuel listed a w rs) : AllReadyIn Fence.wide n P md ops Q fuel listed a w (i :: rs) := by
  subst hd
  refine AllReadyIn.cons ho (fun K hK => ?_) hs
  have hw : Region.wanted o (yielded ops a.tmps) = true := by simp [Region.wanted, hgd]
  rw [if_pos hw]
  refine ⟨fun _ _ => trivial, ?_⟩
  show Oper.uponIn _ _ _ _ _ _ _ ((Oper.semAt none a.eval o).run P w)
  rw [Oper.semAt_none, hrun]
  exact hK _ _ h
theorem rdyI_round {l : Nat} {fn : FuncId} {tmps : Array Value} {assign body : Code} {R : Ending → World → Prop} (ho : ops[i]? = some o) (hgd : o.guard = none) (dst : Option Nat) (hd : o.dst = dst) (hrun : (execOp a.eval o).run P w = .ok (.round l fn tmps assign body) w) (hR : RoundIn Fence.wide (n - 1) P l fn tmps assign body w R)
    (h : ∀ e w', R e w' → ∃ v, e = .returned v ∧ wpAnyIn Fence.wide n P md ops Q fuel (listed.setIfInBounds i true) (a.put dst v) w') (hs : AllReadyIn Fence.wide n P md ops Q fuel listed a w rs) : AllReadyIn Fence.wide n P md ops Q fuel listed a w (i :: rs) := by
  subst hd
  refine AllReadyIn.cons ho (fun K hK => ?_) hs
  have hw : Region.wanted o (yielded ops a.tmps) = true := by simp [Region.wanted, hgd]
  rw [if_pos hw]
  refine ⟨fun _ _ => trivial, ?_⟩
  show Oper.uponIn _ _ _ _ _ _ _ ((Oper.semAt none a.eval o).run P w)
  rw [Oper.semAt_none, hrun]
  refine ⟨fun h => (by cases h), hR.mono fun e w' hr => ?_⟩
  obtain ⟨v, rfl, hx⟩ := h e w' hr
  exact hK _ _ hx
end
/-- What a chunk of a series has. -/
def partAt (s : Ser) (k : Nat) : Ser := { s with sa := s.sa.map (fun x => x.add (20 * k * 2)), sl := min 20 (s.sl - 20 * k), sc := s.sc - 20 * k, sm := (s.sm.drop (20 * k)).take 20 }
def partsOf (s : Ser) : List Ser := (List.range ((s.sl + 19) / 20)).map (partAt s)
def allParts (l : List Ser) : List Ser := l.flatMap partsOf
theorem allParts_snoc (l : List Ser) (s : Ser) : allParts (l ++ [s]) = allParts l ++ partsOf s := by simp [allParts]
theorem partAt_ok {w : World} {s : Ser} (h : s.ok w) (k : Nat) (hk : 20 * k < s.sl) : (partAt s k).ok w := by
  obtain ⟨h1, h2, h3, h4, h5⟩ := h
  refine ⟨h1, h2, ?_, ?_, ?_⟩
  · obtain ⟨g1, g2, g3, g4, g5⟩ := h3
    have hD : ∀ j, j < min 20 (s.sl - 20 * k) → samD ((s.sm.drop (20 * k)).take 20) j = samD s.sm (20 * k + j) := by
      intro j hj
      unfold samD
      rw [List.getD_eq_getElem?_getD, List.getD_eq_getElem?_getD, List.getElem?_take, if_pos (by omega), List.getElem?_drop]
    refine ⟨?_, ?_, ?_, ?_, ?_⟩
    · show ((s.sm.drop (20 * k)).take 20).length = min 20 (s.sl - 20 * k)
      rw [List.length_take, List.length_drop, g1]
    · show min 20 (s.sl - 20 * k) ≤ maxLen
      unfold maxLen; omega
    · intro i
      by_cases hi : i < min 20 (s.sl - 20 * k)
      · show SamOK (samD ((s.sm.drop (20 * k)).take 20) i)
        rw [hD i hi]; exact g3 _
      · show SamOK (samD ((s.sm.drop (20 * k)).take 20) i)
        unfold samD
        rw [List.getD_eq_getElem?_getD, List.getElem?_eq_none (by rw [List.length_take, List.length_drop, g1]; omega)]
        exact Cd.samOK_zero
    · intro e
      show min 20 (s.sl - 20 * k) = 0
      have : s.sa = none := by
        cases hs : s.sa with
        | none => rfl
        | some x => rw [show (partAt s k).sa = s.sa.map _ from rfl, hs] at e; cases e
      have := g4 this
      omega
    · intro x hx j hj
      have hj' : j < min 20 (s.sl - 20 * k) := hj
      show w.cell? (x.add (j * 2)) = some (.int .i64 (samD ((s.sm.drop (20 * k)).take 20) j).t) ∧ w.cell? (x.add (j * 2 + 1)) = some (.int .u64 (samD ((s.sm.drop (20 * k)).take 20) j).v)
      rw [hD j hj']
      cases hs : s.sa with
      | none => rw [show (partAt s k).sa = s.sa.map _ from rfl, hs] at hx; cases hx
      | some y =>
        rw [show (partAt s k).sa = s.sa.map _ from rfl, hs] at hx
        simp only [Option.map_some, Option.some.injEq] at hx
        subst hx
        obtain ⟨a1, a2⟩ := g5 y hs (20 * k + j) (by omega)
        rw [Deep.add_add, Deep.add_add, show 20 * k * 2 + j * 2 = (20 * k + j) * 2 from by omega, show 20 * k * 2 + (j * 2 + 1) = (20 * k + j) * 2 + 1 from by omega]
        exact ⟨a1, a2⟩
  · show min 20 (s.sl - 20 * k) ≤ s.sc - 20 * k
    omega
  · show s.sc - 20 * k ≤ maxLen
    omega
/-- What a round of the loop over chunks keeps: all that lay below, and the iterator's own copies of series. -/
def KpS (n₀ : Nat) (W W' : World) : Prop := Below n₀ W W' ∧ ∀ (k : Nat) c fz, W.heap[k]? = some (Obj.cells c 53 fz) → W'.heap[k]? = some (Obj.cells c 53 fz)
theorem KpS.trans {n₀ : Nat} {A B C : World} (h : KpS n₀ A B) (k : KpS n₀ B C) : KpS n₀ A C := ⟨h.1.trans k.1, fun i c fz hi => k.2 i c fz (h.2 i c fz hi)⟩
theorem kpS_b {n₀ : Nat} {w : World} (hn : n₀ ≤ w.heap.size) (W : World) (l : Nat) (o o' : Obj) (hl : w.heap.size ≤ l) (h : W.heap[l]? = some o) (hc : o.isCells = false) (hw : o.isWalk = false) : KpS n₀ W (W.putObj l o') := by
  refine ⟨belowK_b hn W l o o' hl h hc hw, fun k c fz hk => ?_⟩
  rw [(grownBy_putObj' W l o').block k (Array.getElem?_eq_some_iff.1 hk).1 (fun e => ?_)]
  · exact hk
  · cases e
    rw [h] at hk
    cases hk
    cases hc
/-- What the body may know of what it is handed. -/
abbrev Chk (w : World) : Type := { x : Ser // x.ok w ∧ canOK x.ls = true ∧ canS x.sm = true }
def Chk.args {w : World} (x : Chk w) : Array Value := #[.slice x.1.la x.1.ll x.1.lc, .slice x.1.sa x.1.sl x.1.sc]
theorem riseS_part {m : List Sam} {a b : Nat} (h : Cd.riseS m) : Cd.riseS ((m.drop a).take b) := by
  intro k hk
  rw [List.length_take, List.length_drop] at hk
  have e : ∀ j, j < b → samD ((m.drop a).take b) j = samD m (a + j) := by
    intro j hj
    unfold samD
    rw [List.getD_eq_getElem?_getD, List.getD_eq_getElem?_getD, List.getElem?_take, if_pos hj, List.getElem?_drop]
  rw [e k (by omega), e (k + 1) (by omega)]
  exact h (a + k) (by omega)
theorem canS_part {m : List Sam} {a b : Nat} (h : canS m = true) : canS ((m.drop a).take b) = true := by
  obtain ⟨h1, h2⟩ := (Cd.canS_iff m).1 h
  exact (Cd.canS_iff _).2 ⟨by rw [List.length_take, List.length_drop]; omega, riseS_part h2⟩
theorem callY_run {o : Oper} {a : Act} {w : World} {l x y z : Nat} {vy vz : Value} {ts : Array TypeId} {fn : FuncId} {tmps : Array Value} {assign body : Code} (ho : o.op = Op.call { callee := Callee.value (Operand.tmp x), args := #[.tmp y, .tmp z], argTypes := ts }) (hx : a.eval (.tmp x) = .func (.yield l) #[] #[]) (hy : a.eval (.tmp y) = vy) (hz : a.eval (.tmp z) = vz)
    (hr : (Instr.yield l #[vy, vz]).run Tryd.prog w = .ok (.round l fn tmps assign body) w) : (execOp a.eval o).run Tryd.prog w = .ok (.round l fn tmps assign body) w := by
  simp only [Act.eval] at hx hy hz
  simp [execOp, ho, resolve, invoke, hx, hy, hz, go_sem, hr]
end Go.Proofs.YtfgfkifdokeefaaDoor

namespace Go.Proofs.YtfgfkifdokeefaaDoor
open Go.RowKit Go.Joins Go.Shelf
open Cd (Sam Sm canS encS samD SamOK IsPack BitsTab DbTab)
set_option linter.unusedVariables false
attribute [local go_sem] Oper.semAt_some
theorem min_te (fr sl te : Nat) (h : te = min (fr + 20) sl) (hf : fr < 65600) : min ((fr : Int) + 20) (sl : Int) = (te : Int) ∧ (if (sl : Int) < (fr : Int) + 20 then (sl : Int) else (fr : Int) + 20) = (te : Int) := by
  rw [h]
  refine ⟨by omega, ?_⟩
  split <;> omega
theorem kpS_drew {n₀ : Nat} {W : World} : KpS n₀ W W.drew := ⟨(Below.refl _ _).drew, fun _ _ _ h => h⟩
theorem parts_step (s : Ser) (k : Nat) : (List.range (k + 1)).map (partAt s) = (List.range k).map (partAt s) ++ [partAt s k] := by rw [List.range_succ, List.map_append]; rfl
set_option maxRecDepth 100000 in
set_option maxHeartbeats 4000000 in
theorem chunks1_in (n : Nat) (hn : 1 ≤ n) (l Bn : Nat) (w : World) (a : Option Addr) (len cap : Nat) (ss : List Ser) (hS : Srs w a len ss) (hcan : ∀ s ∈ ss, canOK s.ls = true ∧ canS s.sm = true) (J Jx : List (Chk w) → World → Prop)
    (B0 : Nat) (hA : AbidesFrom B0 J)
    (hY : ∀ pre x W, J pre W → pre.length < (allParts ss).length → YieldAt Fence.wide (n - 1) Tryd.prog l x.args W fun e W' =>
      (e = .returned (.bool true) ∧ J (pre ++ [x]) W' ∧ KpS w.heap.size W W') ∨ (e = .returned (.bool false) ∧ Jx (pre ++ [x]) W'))
    (W : World) (hW : Below w.heap.size w W) (hBn : W.cell? ⟨Bn, 0, none⟩ = some (.slice a len cap)) (h0 : J [] W) :
    CallsIn Fence.wide n Tryd.prog 35 #[.func (.yield l) #[] #[], .pointer (some ⟨Bn, 0, none⟩)] W fun e W' => (∃ v, e = .returned v) ∧
      ((∃ ys, ys.map Subtype.val = allParts ss ∧ J ys W') ∨ (∃ pre, Jx pre W')) := by
  have hlen := hidn hS.1
  have hlm := hS.2.1
  unfold maxLen at hlm
  refine callsIn_of_wp Tryd.func35 rfl trivial ?_ rfl
  simp only [Tryd.ntmps35, List.size_toArray, List.length_cons, List.length_nil, Nat.reduceAdd, Nat.reduceSub, Array.replicate_succ, Array.replicate_zero, List.push_toArray, List.append_toArray, List.nil_append, List.cons_append]
  gi_wp2
  gi_loopw [9] (fun i wr => ∃ (j : Nat) (pre : List (Chk w)), j ≤ len ∧ i = .int .i64 (j : Int) ∧ Hid (pre.map Subtype.val = allParts (ss.take j)) ∧ J pre wr ∧ Below w.heap.size w wr)
    (fun i _ => len - (intOf i).toNat)
  case atStart => exact ⟨0, [], Nat.zero_le _, rfl, hidn rfl, h0, hW⟩
  case round =>
    obtain ⟨j, pre0, hj, rfl, hpre0, hJ0, hb⟩ := hrel
    by_cases hlt : j < len
    · have hlt2 : (j : Int) < (len : Int) := by omega
      obtain ⟨s, hs⟩ : ∃ s, ss[j]? = some s := ⟨_, List.getElem?_eq_getElem (by rw [hlen.out]; exact hlt)⟩
      obtain ⟨b, off, rfl, hbk, c0, c1, hok⟩ := (hS.below hb).at hs
      have hokw := hS.2.2.2.1 s (List.mem_of_getElem? hs)
      have hcn := hcan s (List.mem_of_getElem? hs)
      have HT : Hid (ss.take (j + 1) = ss.take j ++ [s]) := hidn (by rw [List.take_add_one, hs]; rfl)
      obtain ⟨wA, hwA⟩ : ∃ wA, wA = wr.alloc (.cells #[.slice s.la s.ll s.lc, .slice s.sa s.sl s.sc] 53) := ⟨_, rfl⟩
      have bA : Below wr.heap.size wr wA := by rw [hwA]; exact (Below.refl _ wr).alloc (Nat.le_refl _) _
      have qA : wA.heap[wr.heap.size]? = some (.cells #[.slice s.la s.ll s.lc, .slice s.sa s.sl s.sc] 53 (0, 0)) := by rw [hwA]; exact heap_alloc_new wr _
      have BA := hb.trans (bA.mono hb.size)
      have JA : J pre0 wA := by rw [hwA]; exact hA _ _ _ none hJ0 (World.grownBy_alloc wr _ none) (fun r e => by cases e)
      have HWA := hidn hwA
      have hsl : s.sl ≤ 65535 := by
        have := ((Cd.canS_iff s.sm).1 hcn.2).1
        rw [hokw.2.2.1.1] at this
        exact this
      obtain ⟨bx, hbx⟩ : ∃ bx, bx = wr.heap.size := ⟨_, rfl⟩
      rw [← hbx] at qA
      have HBX := hidn hbx
      clear hwA hbx
      gi_wp2
      rw [← HWA.out, ← HBX.out]
      gi_loopw [5] (fun fv W1 => ∃ (k fr : Nat) (pre : List (Chk w)), Hid (fr = 20 * k) ∧ fr < s.sl + 20 ∧ fv = .int .i64 (fr : Int) ∧ Hid (pre.map Subtype.val = allParts (ss.take j) ++ (List.range k).map (partAt s)) ∧ J pre W1 ∧ W1.heap[bx]? = some (.cells #[.slice s.la s.ll s.lc, .slice s.sa s.sl s.sc] 53 (0, 0)) ∧ KpS w.heap.size wA W1)
        (fun fv _ => s.sl + 20 - (intOf fv).toNat)
      case atStart => exact ⟨0, 0, pre0, hidn rfl, by omega, rfl, hidn (by rw [hpre0.out]; simp), JA, qA, ⟨Below.refl _ _, fun _ _ _ h => h⟩⟩
      case round =>
        obtain ⟨k, fr, pre, hfr, hfl, rfl, hpre, hJ1, qx, hKx⟩ := hrel
        have d0 : wr.cell? ⟨bx, 0, none⟩ = some (.slice s.la s.ll s.lc) := cell_of_row _ _ _ _ _ _ qx
        have d1 : wr.cell? ⟨bx, 1, none⟩ = some (.slice s.sa s.sl s.sc) := cell_of_row _ _ _ _ _ _ qx
        by_cases hl2 : fr < s.sl
        · have hl3 : (fr : Int) < (s.sl : Int) := by omega
          obtain ⟨sb, so, hsa, _, _⟩ := hokw.2.2.1.pos (by omega)
          rw [hsa] at d1
          obtain ⟨te, hte⟩ : ∃ te : Nat, te = min (fr + 20) s.sl := ⟨_, rfl⟩
          have hsc := hokw.2.2.2.1
          have t1 : (fr : Int) ≤ (te : Int) := by omega
          have t2 : (te : Int) ≤ (s.sc : Int) := by omega
          have t3 : fr ≤ te := by omega
          have t4 : te ≤ s.sc := by omega
          have t5 : ¬ s.sc = fr := by omega
          have t6 : ¬ (s.sc - fr = 0) := by omega
          have HTE := hidn hte
          have JD : J pre wr.drew := hA _ _ _ none hJ1 ⟨rfl, rfl, rfl, Nat.le_refl _, fun _ _ _ => rfl⟩ (fun r e => by cases e)
          obtain ⟨x, hx1⟩ : ∃ x : Chk w, x.1 = partAt s k := ⟨⟨partAt s k, partAt_ok hokw k (by have := hfr.out; omega), hcn.1, canS_part hcn.2⟩, rfl⟩
          have hargs : x.args = #[.slice s.la s.ll s.lc, .slice (some ⟨sb, so + fr * 2, none⟩) (te - fr) (s.sc - fr)] := by
            have e := hfr.out
            unfold Chk.args
            rw [hx1]
            simp only [partAt, hsa, Option.map_some, ladd_none]
            rw [← e, show min 20 (s.sl - fr) = te - fr from by omega]
          have hplen : pre.length < (allParts ss).length := by
            have e1 := congrArg List.length hpre.out
            simp only [List.length_map, List.length_append, List.length_range] at e1
            have e2 : allParts ss = allParts (ss.take j) ++ (partsOf s ++ allParts (ss.drop (j + 1))) := by
              rw [← List.append_assoc, ← allParts_snoc, ← HT.out]
              unfold allParts
              rw [← List.flatMap_append, List.take_append_drop]
            have e3 : (partsOf s).length = (s.sl + 19) / 20 := by simp [partsOf]
            have e4 := hfr.out
            rw [e2, List.length_append, List.length_append, e3, e1]
            omega
          obtain ⟨fn, tmps, assign, body, hy, hR⟩ := hY pre x wr.drew JD hplen
          rw [hargs] at hy
          have HX1 := hidn hx1
          obtain ⟨m1, m2⟩ := min_te fr s.sl te HTE.out (by omega)
          clear hargs hplen JD hx1 hte hJ1 hsa
          gi_wp2
          clear m1 m2
          refine wpIn_region_any (by kernel_rfl) ?_
          change wpAnyIn _ _ _ _ _ _ _ _ _ (World.drew _)
          refine takeI (i := 0) (v := .func (.yield l) #[] #[]) (some 26) rfl rfl (by kernel_rfl) (by kernel_rfl) (by kernel_rfl) (fun _ _ _ h => h) ⟨Or.inl ⟨by kernel_rfl, fun wq => by go_simp⟩, fun _ => rfl⟩ ?_
          simp only [Act.put, List.setIfInBounds_toArray, List.set_cons_succ, List.set_cons_zero]
          refine takeI (i := 1) (v := .pointer (some ⟨bx, 0, none⟩)) (some 27) rfl rfl (by kernel_rfl) (by kernel_rfl) (by kernel_rfl) (fun _ _ _ h => h) ⟨Or.inl ⟨by kernel_rfl, fun wq => by go_simp⟩, fun _ => rfl⟩ ?_
          simp only [Act.put, List.setIfInBounds_toArray, List.set_cons_succ, List.set_cons_zero]
          refine takeI (i := 3) (v := .pointer (some ⟨bx, 1, none⟩)) (some 29) rfl rfl (by kernel_rfl) (by kernel_rfl) (by kernel_rfl) (fun _ _ _ h => h) ⟨Or.inl ⟨by kernel_rfl, fun wq => by go_simp⟩, fun _ => rfl⟩ ?_
          simp only [Act.put, List.setIfInBounds_toArray, List.set_cons_succ, List.set_cons_zero]
          refine takeI (i := 5) (v := .int .i64 (fr : Int)) (some 31) rfl rfl (by kernel_rfl) (by kernel_rfl) (by kernel_rfl) (fun _ _ _ h => h) ⟨Or.inl ⟨by kernel_rfl, fun wq => by go_simp⟩, fun _ => rfl⟩ ?_
          simp only [Act.put, List.setIfInBounds_toArray, List.set_cons_succ, List.set_cons_zero]
          refine takeI (i := 6) (v := .int .i64 (te : Int)) (some 32) rfl rfl (by kernel_rfl) (by kernel_rfl) (by kernel_rfl) (fun _ _ _ h => h) ⟨Or.inl ⟨by kernel_rfl, fun wq => by go_simp⟩, fun _ => rfl⟩ ?_
          simp only [Act.put, List.setIfInBounds_toArray, List.set_cons_succ, List.set_cons_zero]
          refine wpAnyIn_ready (rs := [2, 4]) (by kernel_rfl) (by simp) ?_
          refine rdyI_val (i := 2) rfl rfl (some 28) rfl (.slice s.la s.ll s.lc) (by have q9 := d0; go_simp) ?_ (rdyI_val (i := 4) rfl rfl (some 30) rfl (.slice (some ⟨sb, so, none⟩) s.sl s.sc) (by have q9 := d1; go_simp) ?_ AllReadyIn.nil)
          · simp only [Act.put, List.setIfInBounds_toArray, List.set_cons_succ, List.set_cons_zero]
            refine wpAnyIn_ready (rs := [4]) (by kernel_rfl) (by simp) ?_
            refine rdyI_val (i := 4) rfl rfl (some 30) rfl (.slice (some ⟨sb, so, none⟩) s.sl s.sc) (by have q9 := d1; go_simp) ?_ AllReadyIn.nil
            simp only [Act.put, List.setIfInBounds_toArray, List.set_cons_succ, List.set_cons_zero]
            refine takeI (i := 7) (v := .slice (some ⟨sb, so + fr * 2, none⟩) (te - fr) (s.sc - fr)) (some 33) rfl rfl (by kernel_rfl) (by kernel_rfl) (by kernel_rfl) (fun _ _ _ h => h) ⟨Or.inl ⟨by kernel_rfl, fun wq => by go_simp⟩, fun _ => rfl⟩ ?_
            simp only [Act.put, List.setIfInBounds_toArray, List.set_cons_succ, List.set_cons_zero]
            refine wpAnyIn_ready (rs := [8]) (by kernel_rfl) (by simp) ?_
            refine rdyI_round (i := 8) rfl rfl (some 34) rfl (callY_run (x := 26) (y := 28) (z := 33) (ts := #[48, 51]) (by kernel_rfl) (by kernel_rfl) (by kernel_rfl) (by kernel_rfl) hy) hR (fun e W3 hr => ?_) AllReadyIn.nil
            rcases hr with ⟨rfl, hJ3, hk3⟩ | ⟨rfl, hJx3⟩
            · refine ⟨_, rfl, ?_⟩
              simp only [Act.put, List.setIfInBounds_toArray, List.set_cons_succ, List.set_cons_zero]
              refine takeI (i := 9) (v := .bool false) (some 35) rfl rfl (by kernel_rfl) (by kernel_rfl) (by kernel_rfl) (fun _ _ _ h => h) ⟨Or.inl ⟨by kernel_rfl, fun wq => by go_simp⟩, fun _ => rfl⟩ ?_
              simp only [Act.put, List.setIfInBounds_toArray, List.set_cons_succ, List.set_cons_zero]
              refine wpAnyIn_done (by kernel_rfl) ?_ _
              have r3 := hk3.2 _ _ _ (show wr.drew.heap[bx]? = _ from qx)
              have K3 := hKx.trans (kpS_drew.trans hk3)
              gi_wp2
              go_roundw
              case rel => exact ⟨k + 1, fr + 20, pre ++ [x], hidn (by rw [hfr.out]; omega), by omega, by simp, hidn (by rw [List.map_append, hpre.out, parts_step, List.append_assoc, ← HX1.out]; rfl), hJ3, r3, K3⟩
              case measure => simp [intOf]; omega
            · refine ⟨_, rfl, ?_⟩
              simp only [Act.put, List.setIfInBounds_toArray, List.set_cons_succ, List.set_cons_zero]
              refine takeI (i := 9) (v := .bool true) (some 35) rfl rfl (by kernel_rfl) (by kernel_rfl) (by kernel_rfl) (fun _ _ _ h => h) ⟨Or.inl ⟨by kernel_rfl, fun wq => by go_simp⟩, fun _ => rfl⟩ ?_
              simp only [Act.put, List.setIfInBounds_toArray, List.set_cons_succ, List.set_cons_zero]
              refine wpAnyIn_done (by kernel_rfl) ?_ _
              gi_wp2
              refine bodyPost_ret (results_none rfl _ _ _) rfl ?_
              exact ⟨⟨_, rfl⟩, .inr ⟨_, hJx3⟩⟩
          · simp only [Act.put, List.setIfInBounds_toArray, List.set_cons_succ, List.set_cons_zero]
            refine takeI (i := 7) (v := .slice (some ⟨sb, so + fr * 2, none⟩) (te - fr) (s.sc - fr)) (some 33) rfl rfl (by kernel_rfl) (by kernel_rfl) (by kernel_rfl) (fun _ _ _ h => h) ⟨Or.inl ⟨by kernel_rfl, fun wq => by go_simp⟩, fun _ => rfl⟩ ?_
            simp only [Act.put, List.setIfInBounds_toArray, List.set_cons_succ, List.set_cons_zero]
            refine wpAnyIn_ready (rs := [2]) (by kernel_rfl) (by simp) ?_
            refine rdyI_val (i := 2) rfl rfl (some 28) rfl (.slice s.la s.ll s.lc) (by have q9 := d0; go_simp) ?_ AllReadyIn.nil
            simp only [Act.put, List.setIfInBounds_toArray, List.set_cons_succ, List.set_cons_zero]
            refine wpAnyIn_ready (rs := [8]) (by kernel_rfl) (by simp) ?_
            refine rdyI_round (i := 8) rfl rfl (some 34) rfl (callY_run (x := 26) (y := 28) (z := 33) (ts := #[48, 51]) (by kernel_rfl) (by kernel_rfl) (by kernel_rfl) (by kernel_rfl) hy) hR (fun e W3 hr => ?_) AllReadyIn.nil
            rcases hr with ⟨rfl, hJ3, hk3⟩ | ⟨rfl, hJx3⟩
            · refine ⟨_, rfl, ?_⟩
              simp only [Act.put, List.setIfInBounds_toArray, List.set_cons_succ, List.set_cons_zero]
              refine takeI (i := 9) (v := .bool false) (some 35) rfl rfl (by kernel_rfl) (by kernel_rfl) (by kernel_rfl) (fun _ _ _ h => h) ⟨Or.inl ⟨by kernel_rfl, fun wq => by go_simp⟩, fun _ => rfl⟩ ?_
              simp only [Act.put, List.setIfInBounds_toArray, List.set_cons_succ, List.set_cons_zero]
              refine wpAnyIn_done (by kernel_rfl) ?_ _
              have r3 := hk3.2 _ _ _ (show wr.drew.heap[bx]? = _ from qx)
              have K3 := hKx.trans (kpS_drew.trans hk3)
              gi_wp2
              go_roundw
              case rel => exact ⟨k + 1, fr + 20, pre ++ [x], hidn (by rw [hfr.out]; omega), by omega, by simp, hidn (by rw [List.map_append, hpre.out, parts_step, List.append_assoc, ← HX1.out]; rfl), hJ3, r3, K3⟩
              case measure => simp [intOf]; omega
            · refine ⟨_, rfl, ?_⟩
              simp only [Act.put, List.setIfInBounds_toArray, List.set_cons_succ, List.set_cons_zero]
              refine takeI (i := 9) (v := .bool true) (some 35) rfl rfl (by kernel_rfl) (by kernel_rfl) (by kernel_rfl) (fun _ _ _ h => h) ⟨Or.inl ⟨by kernel_rfl, fun wq => by go_simp⟩, fun _ => rfl⟩ ?_
              simp only [Act.put, List.setIfInBounds_toArray, List.set_cons_succ, List.set_cons_zero]
              refine wpAnyIn_done (by kernel_rfl) ?_ _
              gi_wp2
              refine bodyPost_ret (results_none rfl _ _ _) rfl ?_
              exact ⟨⟨_, rfl⟩, .inr ⟨_, hJx3⟩⟩
        · have hl3 : ¬ (fr : Int) < (s.sl : Int) := by omega
          have BW := BA.trans hKx.1
          have HE : Hid (pre.map Subtype.val = allParts (ss.take (j + 1))) := hidn (by
            rw [hpre.out, HT.out, allParts_snoc]
            have e := hfr.out
            rw [show k = (s.sl + 19) / 20 from by omega]
            rfl)
          gi_wp2
          go_roundw
          case rel => exact ⟨j + 1, pre, by omega, by simp, HE, hJ1, BW⟩
          case measure => simp [intOf]; omega
    · have hlt2 : ¬ (j : Int) < (len : Int) := by omega
      have HE : Hid (pre0.map Subtype.val = allParts ss) := hidn (by
        have e := hpre0.out
        rw [List.take_of_length_le (by rw [hlen.out]; omega)] at e
        exact e)
      gi_wp2
      go_end0
      exact ⟨⟨_, rfl⟩, .inl ⟨_, HE.out, hJ0⟩⟩
end Go.Proofs.YtfgfkifdokeefaaDoor

namespace Go.Proofs.YtfgfkifdokeefaaDoor
open Go.RowKit Go.Joins Go.Shelf
open Cd (Sam Sm canS encS samD SamOK IsPack BitsTab DbTab)
set_option linter.unusedVariables false
attribute [local go_sem] Oper.semAt_some
theorem chunks_in (n : Nat) (a : Option Addr) (len cap : Nat) (w : World) :
    CallsIn Fence.wide n Tryd.prog 30 #[.slice a len cap] w fun e w' => e = .returned (.func (.func 35) #[] #[.pointer (some ⟨w.heap.size, 0, none⟩)]) ∧ w' = w.alloc (.cells #[.slice a len cap] 54) := by
  refine callsIn_of_wp Tryd.func30 rfl trivial ?_ rfl
  simp only [Tryd.ntmps30, List.size_toArray, List.length_cons, List.length_nil, Nat.reduceAdd, Nat.reduceSub, Array.replicate_succ, Array.replicate_zero, List.push_toArray, List.append_toArray, List.nil_append, List.cons_append]
  gi_wp2
  go_ret
  exact ⟨rfl, rfl⟩
theorem chunks_stops (n : Nat) (hn : 1 ≤ n) (Bn : Nat) (w w0 : World) (hw0 : Below w.heap.size w w0) (a : Option Addr) (len cap : Nat) (ss : List Ser) (hS : Srs w a len ss) (hcan : ∀ s ∈ ss, canOK s.ls = true ∧ canS s.sm = true) (hBn : w0.cell? ⟨Bn, 0, none⟩ = some (.slice a len cap)) :
    SeqStopsK Fence.wide n Tryd.prog 35 #[.pointer (some ⟨Bn, 0, none⟩)] (fun x : Chk w => x.args) (KpS w.heap.size) (fun ys => ys.map Subtype.val = allParts ss) (fun _ => True) (allParts ss).length w0 := fun l J Jx W hW hA _ hY h0 => by
  refine (chunks1_in n hn l Bn w a len cap ss hS hcan J Jx W.heap.size hA hY W (hw0.trans (hW.mono hw0.size)) ((hW.cell (block_lt_of_cell hBn)).trans hBn) h0).mono ?_
  rintro e W' ⟨he, ⟨ys, h1, h2⟩ | ⟨pre, h⟩⟩
  · exact ⟨he, .inl ⟨ys, h1, h2⟩⟩
  · exact ⟨he, .inr ⟨pre, trivial, h⟩⟩
/-- What stands in the box of the stream, behind some chunks. -/
def StrI (w : World) (pre : List (Chk w)) (W : World) : Prop :=
  ∃ v zs, Boxed W w.heap.size 25 v ∧ W.ownsRow w.heap.size 5 1 v zs.length (vb zs) ∧ IsStream (pre.map fun x => (x.1.ls, x.1.sm)) zs ∧ zs.length ≤ 2000000 * pre.length
theorem strI_own (w : World) : Own (StrI w) := by
  rintro s X Y row ⟨v, zs, hv, hr, hG⟩ hg hrow
  refine ⟨v, zs, hv.kept hg (fun e' => ?_), hr.kept hg ?_, hG⟩
  · obtain ⟨o, ho, hc⟩ := hrow _ e'.symm
    rw [show X.heap[w.heap.size]? = _ from hv] at ho; cases ho; cases hc
  · rcases hr.2 with ⟨rfl, _⟩ | ⟨g, cap, cur, rfl, _, hgb, _⟩
    · exact .inl rfl
    · refine .inr fun e' => ?_
      obtain ⟨o, ho, hc⟩ := hrow g (by simpa [Value.ownBlock] using e'.symm)
      rw [hgb] at ho; cases ho; cases hc
theorem chunkB_len {ls : List Lab} {sm : List Sam} {p : List Nat} (hc : canOK ls = true) (hs : canS sm = true) (hp : IsPack p (encS sm)) : (chunkB ls p).length ≤ 2000000 := by
  have h1 := encTo_len ls hc ls.length (Nat.le_refl _)
  have h2 := ((canOK_iff ls).1 hc).2.1
  have h3 : (encN ls).length ≤ 1 + 66 * ls.length := h1
  have h4 := pack_len hp ((Cd.canS_iff sm).1 hs).1
  unfold chunkB
  rw [List.length_append, List.length_append, putB_length]
  omega
/-- A row of bytes of one's own, and a box, are neither of them a copy of a series. -/
theorem body_kept {w W W1 : World} {B : Nat} {v v' : Value} {zs ys : List Nat} {m : Nat} (hB : w.heap.size ≤ W.heap.size) (hv : Boxed W w.heap.size 25 v) (hr : W.ownsRow w.heap.size 5 1 v zs.length (vb zs)) (hr' : W1.ownsRow w.heap.size 5 1 v' m (vb ys)) (b1 : Below w.heap.size W W1) (k1 : ∀ k, k < W.heap.size → some k ≠ v.ownBlock → W1.heap[k]? = W.heap[k]?) :
    Boxed W1 w.heap.size 25 v ∧ Boxed (W1.setCell ⟨w.heap.size, 0, none⟩ v') w.heap.size 25 v' ∧ (W1.setCell ⟨w.heap.size, 0, none⟩ v').ownsRow w.heap.size 5 1 v' m (vb ys) ∧ KeepsFrom B W (W1.setCell ⟨w.heap.size, 0, none⟩ v') ∧ KpS w.heap.size W (W1.setCell ⟨w.heap.size, 0, none⟩ v') := by
  have hne : some w.heap.size ≠ v.ownBlock := hv.not_row (by decide) hr
  have hv1 : Boxed W1 w.heap.size 25 v := (k1 _ hv.lt hne).trans hv
  have hne2 : some w.heap.size ≠ v'.ownBlock := hv1.not_row (by decide) hr'
  have hb2 := b1.setCell (p := ⟨w.heap.size, 0, none⟩) (Nat.le_refl _) v'
  have hcel : ∀ {g c t fz}, v.ownBlock = some g → W.heap[g]? = some (Obj.cells c t fz) → t = 5 := fun {g c t fz} hg hx => by
    rcases hr.2 with ⟨rfl, _⟩ | ⟨g', cap, cur, rfl, _, hgb, _⟩
    · cases hg
    · simp [Value.ownBlock] at hg
      subst hg
      rw [hgb] at hx
      cases hx
      rfl
  refine ⟨hv1, hv1.set v', ?_, ⟨hb2.size, ?_⟩, hb2, ?_⟩
  · refine ⟨hr'.1, ?_⟩
    rcases hr'.2 with hn | ⟨g, cap, cur, hve, hbb, hgg, rest⟩
    · exact .inl hn
    · refine .inr ⟨g, cap, cur, hve, hbb, ?_, rest⟩
      rw [Below.heap_setCell W1 ⟨w.heap.size, 0, none⟩ v' g (fun e => hne2 (by rw [hve, ← show g = w.heap.size from e]; rfl))]
      exact hgg
  · intro k o _ hk ho
    have hkw : k ≠ w.heap.size := fun e => by
      rw [e, show W.heap[w.heap.size]? = _ from hv] at hk
      cases hk; cases ho
    rw [Below.heap_setCell W1 _ v' k hkw, k1 k (Array.getElem?_eq_some_iff.1 hk).1 (fun e => ?_)]
    · exact hk
    · rcases hr.2 with ⟨rfl, _⟩ | ⟨g', cap, cur, rfl, _, hgb, _⟩
      · cases e
      · simp [Value.ownBlock] at e
        rw [e, hgb] at hk
        cases hk; cases ho
  · intro k c fz hk
    have hkw : k ≠ w.heap.size := fun e => by
      rw [e, show W.heap[w.heap.size]? = _ from hv] at hk
      cases hk
    rw [Below.heap_setCell W1 _ v' k hkw, k1 k (Array.getElem?_eq_some_iff.1 hk).1 (fun e => ?_)]
    · exact hk
    · exact absurd (hcel e.symm hk) (by decide)
theorem own_lowerC {w : World} {base base' e size n : Nat} {v : Value} {xs : List Value} (h : w.ownsRow base' e size v n xs) (hb : base ≤ base') : w.ownsRow base e size v n xs := by
  refine ⟨h.1, ?_⟩
  rcases h.2 with hn | ⟨g, cap, cur, rfl, hbb, rest⟩
  · exact .inl hn
  · exact .inr ⟨g, cap, cur, rfl, by omega, rest⟩
def EncS (w : World) (l : List Ser) (e : Ending) (w' : World) : Prop :=
  ∃ v zs, e = .returned (.tuple #[v, .int .i64 0]) ∧ IsStream ((allParts l).map Ser.pl) zs ∧ w'.ownsRow w.heap.size 5 1 v zs.length (vb zs) ∧ zs.length ≤ 2000000 * (allParts l).length ∧ Below w.heap.size w w'
theorem canSr_all {l : List Ser} (h : canSr (l.map Ser.pl) = true) : ∀ s ∈ l, canOK s.ls = true ∧ canS s.sm = true := by
  intro s hs
  obtain ⟨i, hi, rfl⟩ := List.mem_iff_getElem.1 hs
  have := List.all_eq_true.1 h i (List.mem_range.2 (by rw [List.length_map]; exact hi))
  unfold serAt at this
  rw [(lsAt_map (List.getElem?_eq_getElem hi)).1, (lsAt_map (List.getElem?_eq_getElem hi)).2] at this
  simp only [Bool.and_eq_true] at this
  exact ⟨this.1, this.2.2.1⟩
set_option maxRecDepth 100000 in
set_option maxHeartbeats 4000000 in
theorem chEncode_yes (a : Option Addr) (len cap : Nat) (l : List Ser) (w : World) (h : Srs w a len l) (hc : canSr (l.map Ser.pl) = true) (hN : (allParts l).length ≤ 400000) (hT : BitsTab w) (hD : DbTab w) :
    Calls Tryd.prog 27 #[.slice a len cap] w (EncS w l) := by
  have HC := hidn (canSr_any a len cap l w h)
  have hall := canSr_all hc
  have HCC := hidn hc
  clear hc
  refine (callsIn_wide (n := 9)).1 ?_
  refine callsIn_of_wp_marks Tryd.func27 rfl trivial ?_ rfl
  simp only [Tryd.ntmps27, List.size_toArray, List.length_cons, List.length_nil, Nat.reduceAdd, Nat.reduceSub, Array.replicate_succ, Array.replicate_zero, List.push_toArray, List.append_toArray, List.nil_append, List.cons_append]
  gi_wp2_with (refine ⟨trivial, ?_⟩; gi_at_call 29; refine (callsIn_wide.2 HC.out).mono ?_; rintro e w1 ⟨rfl, b1⟩; rw [HCC.out]; clear HC)
  have hS1 := h.below b1
  have T1 := hT.below b1
  have D1 := hD.below b1
  have B1 := hidn b1
  clear b1 h hT hD
  gi_wp2_with (refine ⟨trivial, ?_⟩; gi_at_call 30; refine (chunks_in _ _ _ _ _).mono ?_; rintro e w2 ⟨rfl, rfl⟩)
  have bS := Boxed.new w1 25 (.slice none 0 0)
  have bN := Boxed.new (w1.alloc (.cells #[.slice none 0 0] 25)) 54 (.slice a len cap)
  rw [World.size_alloc] at bN
  have hB0 : Below w1.heap.size w1 ((w1.alloc (.cells #[.slice none 0 0] 25)).alloc (.cells #[.slice a len cap] 54)) := ((Below.refl _ w1).alloc (Nat.le_refl _) _).alloc (by simp) _
  refine wpIn_rangeFunc_ownG rfl (by decide) (gf := 35) (lb := #[.pointer (some ⟨w1.heap.size + 1, 0, none⟩)]) rfl trivial (enters_of Tryd.func35 (by kernel_rfl) rfl)
    (chunks_stops 8 (by decide) (w1.heap.size + 1) w1 _ hB0 a len cap l hS1 hall bN.cell) KpS.trans (kpS_b (by simp; omega)) (Below.refl _ _) (fun _ => rfl)
    (fun pre W => StrI w1 pre W ∧ Below w1.heap.size w1 W) (fun _ _ _ => False)
    (OwnFrom.and (Own.from (strI_own w1) _) (ownFrom_below (Nat.le_refl _) (by simp; omega)))
    (fun _ _ _ _ _ hs _ _ => hs)
    ⟨⟨_, [], bS.alloc _, World.ownsRow_nil _ _ _ _, rfl, Nat.zero_le _⟩, hB0⟩
    (fun x => { tmps := #[.slice a len cap, undef, .slice none 0 0, .int .i64 0, .pointer (some ⟨w1.heap.size, 0, none⟩), .slice x.1.la x.1.ll x.1.lc, .slice x.1.sa x.1.sl x.1.sc, .slice a len cap, .bool true, .bool false, .slice a len cap, .func (.func 35) #[] #[.pointer (some ⟨w1.heap.size + 1, 0, none⟩)], .slice x.1.la x.1.ll x.1.lc, .slice x.1.sa x.1.sl x.1.sc, undef, undef, undef, undef, undef], defers := [] }) ?assign ?body ?done ?stop
  case assign =>
    intro lb x W K hK
    simp only [Chk.args]
    gi_wp2
    exact hK
  case body =>
    rintro lb pre x W ⟨⟨v, zs, hv, hr, hst, hzl⟩, hB⟩ hlt
    obtain ⟨⟨la, ll, lc, ls, sa, sl, sc, sm⟩, hok, hcl, hcs⟩ := x
    simp only at hok hcl hcs
    have HP := hidn (putChunk_any w1.heap.size v zs _ W hr (by omega) hB.size (hok.below hB) hcl hcs (T1.below hB) (D1.below hB))
    have hc := hv.cell
    have HV := hidn hv
    have HR := hidn hr
    have HST := hidn hst
    have HB := hidn hB
    clear hv hr hst hB
    simp only at HP ⊢
    gi_wp2_with (refine ⟨trivial, ?_⟩; gi_at_call 31; refine (CallsIn.inRound lb (callsIn_wide.2 HP.out)).mono ?_; rintro e W1 ⟨v', p, rfl, hp, hr', b1, k1⟩; clear HP; obtain ⟨nn, hnn⟩ : ∃ nn, nn = (zs ++ chunkB ls p).length := ⟨_, rfl⟩; rw [← hnn] at hr'; obtain ⟨a', c', rfl⟩ := own_slice hr'; obtain ⟨hv1, hv2, hr2, hk2, hkp2⟩ := body_kept (B := ((w1.alloc (.cells #[.slice none 0 0] 25)).alloc (.cells #[.slice a len cap] 54)).heap.size) HB.out.size HV.out HR.out hr' b1 k1; have hc1 := hv1.cell; have hf1 := hv1.frozen; have HNN := hidn hnn; clear hr' hnn)
    refine ⟨hk2, hkp2, ⟨_, zs ++ chunkB ls p, hv2, by rw [← HNN.out]; exact hr2, ?_, ?_⟩, HB.out.trans hkp2.1⟩
    · rw [List.map_append]
      exact IsStream.snoc hp HST.out
    · have := chunkB_len hcl hcs hp
      rw [List.length_append, List.length_append]
      simp only [List.length_cons, List.length_nil]
      omega
  case done =>
    rintro D ys W hD hys ⟨⟨v, zs, hv, hrow, hst, hzl⟩, hB⟩ hK
    have hc := hv.cell
    gi_wp2
    refine ⟨by simp, .inl ⟨_, _, rfl, run_takeDeferred hK, ?_⟩⟩
    refine ⟨.tuple #[v, .int .i64 0], by simp [results, Tryd.results27, go_sem], v, zs, rfl, ?_, ?_, ?_, ?_⟩
    · have e : ys.map (fun x => (x.1.ls, x.1.sm)) = (allParts l).map Ser.pl := by rw [← hys, List.map_map]; rfl
      rw [← e]; exact hst
    · exact own_lowerC (ownsRow_putObj hrow _ hK rfl) B1.out.size
    · have e := congrArg List.length hys
      rw [List.length_map] at e
      rw [← e]; exact hzl
    · exact B1.out.trans ((hB.trans (belowK_b (w := w1) (Nat.le_refl _) W D _ _ (by simp at hD; omega) hK rfl rfl)).mono B1.out.size)
  case stop =>
    rintro D c pre W _ _ hh _
    exact hh.elim
end Go.Proofs.YtfgfkifdokeefaaDoor
