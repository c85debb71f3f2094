/- slices.Grow of nothing, slices.Concat, of bytes. -/
import Derived.Test.YthhnpajaacfapaaDoorPairBase
import Derived.Lib.AppendZerosOnto
namespace Go.Proofs.YthhnpajaacfapaaDoor
open Go.RowKit
set_option linter.unusedVariables false

theorem byInfo : ∃ i0 z, Tryd.prog.info? 5 = some i0 ∧ i0.zero = some z ∧ i0.size = 1 ∧ i0.bytes = 1 ∧ z.cells.size = 1 := by
  obtain ⟨i0, hi, hz0, hz1, hz2⟩ := info_parts Tryd.info5
  exact ⟨i0, _, hi, hz0, hz1, hz2, rfl⟩

theorem bs_cellsB {w : World} {x : Addr} {n : Nat} {l : List Nat} (h : Bs w (some x) n l) : ∀ (j : Nat) (u : Value), (vb l)[j]? = some u → w.cell? (x.add j) = some u := by
  intro j u hu
  have hj : j < l.length := by rw [← length_vb]; exact (List.getElem?_eq_some_iff.1 hu).1
  rw [vb_getD l j hj] at hu
  cases hu
  exact h.2.2.2.2 x rfl j (by rw [← h.1]; exact hj)

theorem vb_appendB (a b : List Nat) : vb (a ++ b) = vb a ++ vb b := by simp [vb]

theorem own_sliceB {w : World} {base e size n : Nat} {v : Value} {xs : List Value} (h : w.ownsRow base e size v n xs) : ∃ a c, v = .slice a n c := by
  rcases h.2 with ⟨rfl, rfl⟩ | ⟨g, cap, cur, rfl, _⟩
  · exact ⟨none, 0, rfl⟩
  · exact ⟨_, _, rfl⟩

theorem wpList_app_runM {P : Program} {w w' : World} {ops : Array Oper} {rest : List Oper} {o : Oper} {a : Act} {Q : Exit → Act → World → Prop} (hgd : o.guard = none) (s x : Operand) (t tn ty : TypeId)
    (ho : o.op = .call { callee := .builtin .append, args := #[s, x], argTypes := #[t, tn] }) (hty : o.type = ty) (v vx v' : Value) (hs : a.eval s = v) (hx : a.eval x = vx) (hr : (Builtin.append_ #[t, tn] ty #[v, vx]).run P w = .ok v' w')
    (h : wpList P ops Q rest (a.put o.dst v') w') : wpList P ops Q (o :: rest) a w :=
  wpList_plain hgd fun _ hK => by
    subst hty
    unfold Oper.wp execOp
    simp only [ho, resolve, invoke, builtin, Sem.run_bind, Sem.run_pure, Result.andThen_ok, List.map_toArray, List.map_cons, List.map_nil, hs, hx, hr]
    exact hK _ _ h

set_option maxHeartbeats 600000 in
set_option maxRecDepth 100000 in
theorem growNilB (n : Nat) (w : World) (hn : n ≤ 2000000) :
    Calls Tryd.prog 31 #[.slice none 0 0, .int .i64 (n : Int)] w fun e w' => ∃ v, e = .returned v ∧ w'.ownsRow w.heap.size 5 1 v 0 [] ∧ Below w.heap.size w w' := by
  obtain ⟨i0, z, hi, hz0, hz1, hz2, hzc⟩ := byInfo
  have h1 : ¬ ((n : Int) < 0) := by omega
  by_cases h0 : n = 0
  · subst h0
    go_enter Tryd.func31, Tryd.ntmps31
    go_wp2_with fail
    exact bodyPost_ret (v := .slice none 0 0) (by simp [results, Tryd.results31, go_sem]) rfl ⟨_, rfl, World.ownsRow_nil _ _ _ _, Below.refl _ _⟩
  · have h2 : (0 : Int) < (n : Int) := by omega
    obtain ⟨G, hG⟩ : ∃ G, G = grownCap w n 0 5 := ⟨_, rfl⟩
    obtain ⟨w1, hw1⟩ : ∃ w1, w1 = w.drew.alloc (.cells (#[] ++ Builtin.zeroCells z.cells n ++ Builtin.zeroCells z.cells (G - n)) 5) := ⟨_, rfl⟩
    have hGn : n ≤ G := by rw [hG]; exact grownCap_ge w _ _ _
    have hGm : G ≤ maxLen := by rw [hG]; exact grownCap_le_maxLen w _ _ _ (by unfold maxLen; omega)
    have hrz : ∀ ty, (Builtin.append_ #[29, 3] ty #[.slice none 0 0, .int .i64 (n : Int)]).run Tryd.prog w = .ok (.slice (some ⟨w.heap.size, 0, none⟩) n G) w1 := fun ty => by
      have h := Lib.run_append_grow_zeros (P := Tryd.prog) w 29 3 ty 5 i0 z .i64 .i64 Tryd.underlying29 Tryd.underlying3 hi hz0 none 0 0 [] (run_firstCells_none w.drew i0.size 0 0 0) n (by omega) (by omega) (by omega) (by omega) (by rw [hz2]; omega) (by rw [Nat.zero_add]; exact growslice_fits (by omega) (by rw [hz2]; omega))
      rw [Nat.zero_add, ← hG] at h
      rw [hw1]
      exact h
    have O1 : Hid (w1.ownsRow w.heap.size 5 1 (.slice (some ⟨w.heap.size, 0, none⟩) 0 G) 0 []) := hidn (by
      refine ⟨rfl, .inr ⟨w.heap.size, G, _, rfl, Nat.le_refl _, by rw [hw1]; exact heap_alloc_new w.drew _, Nat.zero_le _, hGm, ?_, by simp⟩⟩
      simp only [Array.size_append, size_zeroCells, hzc]
      simp
      omega)
    have B1 : Below w.heap.size w w1 := by rw [hw1]; exact (Below.refl _ w).drew.alloc (Nat.le_refl _) _
    have hGi : (0 : Int) ≤ (G : Int) := by omega
    have hGx : G ≤ 9223372036854775807 := by unfold maxLen at hGm; exact hGm
    have HRZ := hidn hrz
    clear hw1 hG hrz
    go_enter Tryd.func31, Tryd.ntmps31
    go_wp2_with (at_builtin; refine wpList_app_runM rfl _ _ 29 3 29 rfl rfl (.slice none 0 0) _ _ rfl rfl (HRZ.out _) ?_; clear HRZ)
    exact bodyPost_ret (v := .slice (some ⟨w.heap.size, 0, none⟩) 0 G) (by simp [results, Tryd.results31, go_sem]) rfl ⟨_, rfl, O1.out, B1⟩

/-- A list of footers that is handed on. -/
structure SgB where
  b : Nat
  off : Nat
  n : Nat
  c : Nat
  l : List Nat

def catB (ss : List SgB) : List Nat := (ss.map SgB.l).flatten

theorem catB_snoc (ss : List SgB) (s : SgB) : catB (ss ++ [s]) = catB ss ++ s.l := by simp [catB]

def CsB (w : World) (sb : Nat) (ss : List SgB) : Prop := ∀ k s, ss[k]? = some s → w.cell? ⟨sb, k, none⟩ = some (.slice (some ⟨s.b, s.off, none⟩) s.n s.c) ∧ Bs w (some ⟨s.b, s.off, none⟩) s.n s.l

theorem CsB.below {w w' : World} {sb : Nat} {ss : List SgB} (h : CsB w sb ss) (hb : Below w.heap.size w w') : CsB w' sb ss := fun k s hs => by
  obtain ⟨h1, h2⟩ := h k s hs
  exact ⟨(hb.cell (block_lt_of_cell h1)).trans h1, h2.below hb⟩

theorem catB_take_le (ss : List SgB) (k : Nat) : (catB (ss.take k)).length ≤ (catB ss).length := by
  have : catB ss = catB (ss.take k) ++ catB (ss.drop k) := by
    unfold catB
    rw [← List.flatten_append, ← List.map_append, List.take_append_drop]
  rw [this, List.length_append]
  omega

set_option maxHeartbeats 600000 in
set_option maxRecDepth 100000 in
theorem concat_bytes (sb len cap : Nat) (ss : List SgB) (w : World) (h : CsB w sb ss) (hl : ss.length = len) (hm : (catB ss).length ≤ 2000000) (hlm : len ≤ 2000000) :
    Calls Tryd.prog 16 #[.slice (some ⟨sb, 0, none⟩) len cap] w fun e w' => ∃ v, e = .returned v ∧ w'.ownsRow w.heap.size 5 1 v (catB ss).length (vb (catB ss)) ∧ Below w.heap.size w w' := by
  obtain ⟨i0, z, hi, hz0, hz1, hz2, hzc⟩ := byInfo
  have hlen := hidn hl
  have HM := hidn hm
  obtain ⟨N, hN⟩ : ∃ N, N = (catB ss).length := ⟨_, rfl⟩
  have HN := hidn hN
  rw [← hN]
  clear hl hm hN
  go_enter Tryd.func16, Tryd.ntmps16
  go_wp2_with fail
  go_loopw [3, 11] (fun sv iv wr => ∃ (k m : Nat), k ≤ len ∧ iv = .int .i64 (k : Int) ∧ sv = .int .i64 (m : Int) ∧ Hid (m = (catB (ss.take k)).length) ∧ Hid (w = wr)) (fun _ iv _ => len - (intOf iv).toNat)
  case atStart => exact ⟨0, 0, Nat.zero_le _, rfl, rfl, hidn rfl, hidn rfl⟩
  case round =>
    obtain ⟨k, m, hk, rfl, rfl, hO, hww⟩ := hrel
    obtain rfl := hww.out
    clear hww
    by_cases hlt : k < len
    · have hlt2 : (k : Int) < (len : Int) := by omega
      obtain ⟨s, hs⟩ : ∃ s, ss[k]? = some s := ⟨_, List.getElem?_eq_getElem (by rw [hlen.out]; exact hlt)⟩
      obtain ⟨c0, hF⟩ := h k s hs
      have HT : Hid (m + s.n = (catB (ss.take (k + 1))).length) := hidn (by rw [List.take_add_one, hs, Option.toList_some, catB_snoc, List.length_append, ← hO.out, hF.1])
      have hms : m + s.n ≤ 2000000 := by
        rw [HT.out]
        exact Nat.le_trans (catB_take_le ss _) HM.out
      have hm0 : ¬ ((m : Int) + (s.n : Int) < 0) := by omega
      clear hs
      go_wp2_with fail
      exact ⟨⟨k + 1, m + s.n, by omega, by simp, by simp, HT, trivial⟩, by simp [intOf]; omega⟩
    · have hlt2 : ¬ (k : Int) < (len : Int) := by omega
      have HMN : Hid (m = N) := hidn (by
        rw [HN.out, hO.out, List.take_of_length_le (by rw [hlen.out]; omega)])
      have HG := hidn (growNilB m w (by have := HM.out; have := HMN.out; have := HN.out; omega))
      go_wp2_with fail
      refine HG.out.mono ?_
      rintro e w1 ⟨v1, rfl, o1, b1⟩
      go_wp2_with fail
      go_loopw [6, 27] (fun hv iv wr => ∃ (j : Nat) (v : Value) (L : List Nat), j ≤ len ∧ iv = .int .i64 (j : Int) ∧ hv = v ∧ Hid (wr.ownsRow w.heap.size 5 1 v L.length (vb L) ∧ L = catB (ss.take j)) ∧ Below w.heap.size w wr) (fun _ iv _ => len - (intOf iv).toNat)
      case atStart => exact ⟨0, v1, [], Nat.zero_le _, rfl, rfl, hidn ⟨o1, rfl⟩, b1⟩
      case round =>
        obtain ⟨j, v, L, hj, rfl, rfl, hP, hb⟩ := hrel
        by_cases hjl : j < len
        · have hjl2 : (j : Int) < (len : Int) := by omega
          obtain ⟨s, hs⟩ : ∃ s, ss[j]? = some s := ⟨_, List.getElem?_eq_getElem (by rw [hlen.out]; exact hjl)⟩
          obtain ⟨c0, hF⟩ := (h.below hb) j s hs
          have HT : Hid (L ++ s.l = catB (ss.take (j + 1))) := hidn (by rw [List.take_add_one, hs, Option.toList_some, catB_snoc, ← hP.out.2])
          have hLs : L.length + s.n ≤ 2000000 := by
            have := catB_take_le ss (j + 1)
            rw [← HT.out, List.length_append, hF.1] at this
            have := HM.out
            omega
          have hfl : (vb s.l).length = s.n * 1 := by rw [length_vb, hF.1, Nat.mul_one]
          have hc1 := bs_cellsB hF
          have hc2 := one_vb s.l
          have hc3 : L.length + s.n ≤ maxLen := by unfold maxLen; omega
          have hc4 : (L.length + s.n) * 1 ≤ 140737488355328 := by omega
          obtain ⟨va, vc, rfl⟩ := own_sliceB hP.out.1
          have HFL := hidn hfl
          have HC1 := hidn hc1
          have HC2 := hidn hc2
          clear hs hfl hc1 hc2
          go_wp2_with (at_builtin; refine wpList_append_own _ rfl _ _ 29 rfl w.heap.size 5 i0 z 1 1 Tryd.underlying29 hi hz0 hz1 hz2 hzc (by decide) _ L.length (vb L) rfl hP.out.1 ⟨s.b, s.off, none⟩ s.n s.c (vb s.l) rfl HFL.out HC1.out HC2.out hc3 hc4 hb.size ?_)
          intro v' w5 own5 hgrow5 _
          have HO : Hid (w5.ownsRow w.heap.size 5 1 v' (L ++ s.l).length (vb (L ++ s.l)) ∧ L ++ s.l = catB (ss.take (j + 1))) := hidn ⟨by rw [vb_appendB, List.length_append, hF.1]; exact own5, HT.out⟩
          have B5 : Below w.heap.size w w5 := hb.grown hgrow5 hb.size (fun k hk => (hP.out.1.lt k hk).1)
          clear own5 hgrow5
          go_wp2_with fail
          exact ⟨⟨j + 1, _, _, by omega, by simp, rfl, HO, B5⟩, by simp [intOf]; omega⟩
        · have hjl2 : ¬ (j : Int) < (len : Int) := by omega
          have HL : Hid (L = catB ss) := hidn (by
            have := hP.out.2
            rw [List.take_of_length_le (by rw [hlen.out]; omega)] at this
            exact this)
          go_wp2_with fail
          exact bodyPost_ret (v := u6) (by simp [results, Tryd.results16, go_sem]) rfl ⟨_, rfl, by rw [HN.out, ← HL.out]; exact hP.out.1, hb⟩

end Go.Proofs.YthhnpajaacfapaaDoor
