/- Spots: slices.Clone, slices.Grow of nothing, slices.Concat. -/
import Derived.Test.YtidlogeeophogaaDoorSpE
import Derived.Lib.AppendZerosOnto
import Derived.Lib.SliceRun
namespace Go.Proofs.YtidlogeeophogaaDoor.Sp
open Go.RowKit Go.Joins
set_option linter.unusedVariables false

theorem wpList_app_runM {P : Program} {w w' : World} {ops : Array Oper} {rest : List Oper} {o : Oper} {a : Act} {Q : Exit → Act → World → Prop} (hgd : o.guard = none) (s x : Operand) (t tn ty : TypeId)
    (ho : o.op = .call { callee := .builtin .append, args := #[s, x], argTypes := #[t, tn] }) (hty : o.type = ty) (v vx v' : Value) (hs : a.eval s = v) (hx : a.eval x = vx) (hr : (Builtin.append_ #[t, tn] ty #[v, vx]).run P w = .ok v' w')
    (h : wpList P ops Q rest (a.put o.dst v') w') : wpList P ops Q (o :: rest) a w :=
  wpList_plain hgd fun _ hK => by
    subst hty
    unfold Oper.wp execOp
    simp only [ho, resolve, invoke, builtin, Sem.run_bind, Sem.run_pure, Result.andThen_ok, List.map_toArray, List.map_cons, List.map_nil, hs, hx, hr]
    exact hK _ _ h

set_option maxHeartbeats 1000000 in
set_option maxRecDepth 100000 in
theorem sclone_any (a : Option Addr) (len cap : Nat) (l : List Spt) (w : World) (h : Fls w a len l) (hm : len ≤ 1000) (hn : a = none → cap = 0) :
    Calls Tryd.prog 6 #[.slice a len cap] w fun e w' => ∃ v, e = .returned v ∧ w'.ownsRow w.heap.size 25 2 v len (fvs l) ∧ Below w.heap.size w w' := by
  have heq := fun (wx : World) (aa : Option Addr) (n c : Nat) => Lib.run_eql_slice_nil (P := Tryd.prog) wx 22 25 aa n c 0 0 Tryd.underlying22
  cases a with
  | none =>
    obtain rfl : len = 0 := h.2.2.1 rfl
    obtain rfl : l = [] := List.length_eq_zero_iff.1 h.1
    go_enter Tryd.func6, Tryd.ntmps6
    go_wp2_with fail
    go_ret
    exact ⟨_, rfl, World.ownsRow_nil _ _ _ _, Below.refl _ _⟩
  | some x =>
    obtain ⟨w1, hw1⟩ : ∃ w1, w1 = w.alloc (.cells #[] 25) := ⟨_, rfl⟩
    have b1 : Below w.heap.size w w1 := by rw [hw1]; exact (Below.refl _ w).alloc (Nat.le_refl _) _
    have q1 : w1.heap[w.heap.size]? = some (.cells #[] 25 (0, 0)) := by rw [hw1]; exact heap_alloc_new w _
    obtain ⟨a', c', w2, hr, ho, hg⟩ := appF w1 w.heap.size _ 0 0 [] (own_emptyN q1 (Nat.le_refl _)) b1.size (some x) len cap (fvs l) (h.below b1).src len (by omega) (by omega)
    have HR := hidn hr
    have HW1 := hidn hw1
    have HO := hidn ho
    have HB : Hid (Below w.heap.size w w2) := hidn (b1.grown hg b1.size (fun k hk => by simp [Value.ownBlock] at hk; omega))
    clear hr hw1 ho hg b1 q1 h
    go_enter Tryd.func6, Tryd.ntmps6
    go_wp2_with (at_builtin; rw [← HW1.out]; refine wpList_app_runM rfl (.tmp 5) (.tmp 6) 22 22 22 rfl rfl (.slice (some ⟨w.heap.size, 0, none⟩) 0 0) (.slice (some x) len cap) _ rfl rfl HR.out ?_)
    go_ret
    exact ⟨_, rfl, by simpa using HO.out, HB.out⟩

set_option maxHeartbeats 600000 in
set_option maxRecDepth 100000 in
theorem growNil (n : Nat) (w : World) (hn : n ≤ 1000) :
    Calls Tryd.prog 38 #[.slice none 0 0, .int .i64 (n : Int)] w fun e w' => ∃ v, e = .returned v ∧ w'.ownsRow w.heap.size 25 2 v 0 [] ∧ Below w.heap.size w w' := by
  obtain ⟨i0, z, hi, hz0, hz1, hz2, hzc⟩ := foInfo
  have h1 : ¬ ((n : Int) < 0) := by omega
  by_cases h0 : n = 0
  · subst h0
    go_enter Tryd.func38, Tryd.ntmps38
    go_wp2_with fail
    exact bodyPost_ret (v := .slice none 0 0) (by simp [results, Tryd.results38, go_sem]) rfl ⟨_, rfl, World.ownsRow_nil _ _ _ _, Below.refl _ _⟩
  · have h2 : (0 : Int) < (n : Int) := by omega
    obtain ⟨G, hG⟩ : ∃ G, G = grownCap w n 0 25 := ⟨_, rfl⟩
    obtain ⟨w1, hw1⟩ : ∃ w1, w1 = w.drew.alloc (.cells (#[] ++ Builtin.zeroCells z.cells n ++ Builtin.zeroCells z.cells (G - n)) 25) := ⟨_, rfl⟩
    have hGn : n ≤ G := by rw [hG]; exact grownCap_ge w _ _ _
    have hGm : G ≤ maxLen := by rw [hG]; exact grownCap_le_maxLen w _ _ _ (by unfold maxLen; omega)
    have hrz : ∀ ty, (Builtin.append_ #[22, 3] ty #[.slice none 0 0, .int .i64 (n : Int)]).run Tryd.prog w = .ok (.slice (some ⟨w.heap.size, 0, none⟩) n G) w1 := fun ty => by
      have h := Lib.run_append_grow_zeros (P := Tryd.prog) w 22 3 ty 25 i0 z .i64 .i64 Tryd.underlying22 Tryd.underlying3 hi hz0 none 0 0 [] (run_firstCells_none w.drew i0.size 0 0 0) n (by omega) (by omega) (by omega) (by omega) (by rw [hz2]; omega) (by rw [Nat.zero_add]; exact growslice_fits (by omega) (by rw [hz2]; omega))
      rw [Nat.zero_add, ← hG] at h
      rw [hw1]
      exact h
    have O1 : Hid (w1.ownsRow w.heap.size 25 2 (.slice (some ⟨w.heap.size, 0, none⟩) 0 G) 0 []) := hidn (by
      refine ⟨rfl, .inr ⟨w.heap.size, G, _, rfl, Nat.le_refl _, by rw [hw1]; exact heap_alloc_new w.drew _, Nat.zero_le _, hGm, ?_, by simp⟩⟩
      simp only [Array.size_append, size_zeroCells, hzc]
      simp
      omega)
    have B1 : Below w.heap.size w w1 := by rw [hw1]; exact (Below.refl _ w).drew.alloc (Nat.le_refl _) _
    have hGi : (0 : Int) ≤ (G : Int) := by omega
    have hGx : G ≤ 9223372036854775807 := by unfold maxLen at hGm; exact hGm
    have HRZ := hidn hrz
    clear hw1 hG hrz
    go_enter Tryd.func38, Tryd.ntmps38
    go_wp2_with (at_builtin; refine wpList_app_runM rfl _ _ 22 3 22 rfl rfl (.slice none 0 0) _ _ rfl rfl (HRZ.out _) ?_; clear HRZ)
    exact bodyPost_ret (v := .slice (some ⟨w.heap.size, 0, none⟩) 0 G) (by simp [results, Tryd.results38, go_sem]) rfl ⟨_, rfl, O1.out, B1⟩

/-- A list of spots that is handed on. -/
structure Sg where
  a : Option Addr
  n : Nat
  c : Nat
  l : List Spt

def catL (ss : List Sg) : List Spt := (ss.map Sg.l).flatten

theorem catL_snoc (ss : List Sg) (s : Sg) : catL (ss ++ [s]) = catL ss ++ s.l := by simp [catL]

def Cs (w : World) (sb : Nat) (ss : List Sg) : Prop := ∀ k s, ss[k]? = some s → w.cell? ⟨sb, k, none⟩ = some (.slice s.a s.n s.c) ∧ Fls w s.a s.n s.l

theorem Cs.below {w w' : World} {sb : Nat} {ss : List Sg} (h : Cs w sb ss) (hb : Below w.heap.size w w') : Cs w' sb ss := fun k s hs => by
  obtain ⟨h1, h2⟩ := h k s hs
  exact ⟨(hb.cell (block_lt_of_cell h1)).trans h1, h2.below hb⟩

theorem catL_take_le (ss : List Sg) (k : Nat) : (catL (ss.take k)).length ≤ (catL ss).length := by
  have : catL ss = catL (ss.take k) ++ catL (ss.drop k) := by
    unfold catL
    rw [← List.flatten_append, ← List.map_append, List.take_append_drop]
  rw [this, List.length_append]
  omega

set_option maxHeartbeats 600000 in
set_option maxRecDepth 100000 in
theorem concat_any (sb len cap : Nat) (ss : List Sg) (w : World) (h : Cs w sb ss) (hl : ss.length = len) (hm : (catL ss).length ≤ 1000) (hlm : len ≤ 1000) :
    Calls Tryd.prog 16 #[.slice (some ⟨sb, 0, none⟩) len cap] w fun e w' => ∃ v, e = .returned v ∧ w'.ownsRow w.heap.size 25 2 v (catL ss).length (fvs (catL ss)) ∧ Below w.heap.size w w' := by
  obtain ⟨i0, z, hi, hz0, hz1, hz2, hzc⟩ := foInfo
  have hlen := hidn hl
  have HM := hidn hm
  obtain ⟨N, hN⟩ : ∃ N, N = (catL ss).length := ⟨_, rfl⟩
  have HN := hidn hN
  rw [← hN]
  clear hl hm hN
  go_enter Tryd.func16, Tryd.ntmps16
  go_wp2_with fail
  go_loopw [3, 11] (fun sv iv wr => ∃ (k m : Nat), k ≤ len ∧ iv = .int .i64 (k : Int) ∧ sv = .int .i64 (m : Int) ∧ Hid (m = (catL (ss.take k)).length) ∧ Hid (w = wr)) (fun _ iv _ => len - (intOf iv).toNat)
  case atStart => exact ⟨0, 0, Nat.zero_le _, rfl, rfl, hidn rfl, hidn rfl⟩
  case round =>
    obtain ⟨k, m, hk, rfl, rfl, hO, hww⟩ := hrel
    obtain rfl := hww.out
    clear hww
    by_cases hlt : k < len
    · have hlt2 : (k : Int) < (len : Int) := by omega
      obtain ⟨s, hs⟩ : ∃ s, ss[k]? = some s := ⟨_, List.getElem?_eq_getElem (by rw [hlen.out]; exact hlt)⟩
      obtain ⟨c0, hF⟩ := h k s hs
      have HT : Hid (m + s.n = (catL (ss.take (k + 1))).length) := hidn (by rw [List.take_add_one, hs, Option.toList_some, catL_snoc, List.length_append, ← hO.out, hF.1])
      have hms : m + s.n ≤ 1000 := by
        rw [HT.out]
        exact Nat.le_trans (catL_take_le ss _) HM.out
      have hm0 : ¬ ((m : Int) + (s.n : Int) < 0) := by omega
      clear hs
      go_wp2_with fail
      exact ⟨⟨k + 1, m + s.n, by omega, by simp, by simp, HT, trivial⟩, by simp [intOf]; omega⟩
    · have hlt2 : ¬ (k : Int) < (len : Int) := by omega
      have HMN : Hid (m = N) := hidn (by
        rw [HN.out, hO.out, List.take_of_length_le (by rw [hlen.out]; omega)])
      have HG := hidn (growNil m w (by have := HM.out; have := HMN.out; have := HN.out; omega))
      go_wp2_with fail
      refine HG.out.mono ?_
      rintro e w1 ⟨v1, rfl, o1, b1⟩
      go_wp2_with fail
      go_loopw [6, 27] (fun hv iv wr => ∃ (j : Nat) (v : Value) (L : List Spt), j ≤ len ∧ iv = .int .i64 (j : Int) ∧ hv = v ∧ Hid (wr.ownsRow w.heap.size 25 2 v L.length (fvs L) ∧ L = catL (ss.take j)) ∧ Below w.heap.size w wr) (fun _ iv _ => len - (intOf iv).toNat)
      case atStart => exact ⟨0, v1, [], Nat.zero_le _, rfl, rfl, hidn ⟨o1, rfl⟩, b1⟩
      case round =>
        obtain ⟨j, v, L, hj, rfl, rfl, hP, hb⟩ := hrel
        by_cases hjl : j < len
        · have hjl2 : (j : Int) < (len : Int) := by omega
          obtain ⟨s, hs⟩ : ∃ s, ss[j]? = some s := ⟨_, List.getElem?_eq_getElem (by rw [hlen.out]; exact hjl)⟩
          obtain ⟨c0, hF⟩ := (h.below hb) j s hs
          have HT : Hid (L ++ s.l = catL (ss.take (j + 1))) := hidn (by rw [List.take_add_one, hs, Option.toList_some, catL_snoc, ← hP.out.2])
          have hLs : L.length + s.n ≤ 1000 := by
            have := catL_take_le ss (j + 1)
            rw [← HT.out, List.length_append, hF.1] at this
            have := HM.out
            omega
          obtain ⟨va, vc, rfl⟩ := own_slice hP.out.1
          obtain ⟨a', c', w5, hr, own5, hgrow5⟩ := appF wr w.heap.size va L.length vc (fvs L) hP.out.1 hb.size s.a s.n s.c (fvs s.l) hF.src (L.length + s.n) rfl hLs
          have HR := hidn hr
          have HO : Hid (w5.ownsRow w.heap.size 25 2 (.slice a' (L.length + s.n) c') (L ++ s.l).length (fvs (L ++ s.l)) ∧ L ++ s.l = catL (ss.take (j + 1))) := hidn ⟨by rw [fvs_append, List.length_append, hF.1]; exact own5, HT.out⟩
          have B5 : Below w.heap.size w w5 := hb.grown hgrow5 hb.size (fun k hk => (hP.out.1.lt k hk).1)
          clear hs hr own5 hgrow5
          go_wp2_with (at_builtin; refine wpList_app_runM rfl (.tmp 31) (.tmp 32) 22 22 22 rfl rfl (.slice va L.length vc) (.slice s.a s.n s.c) _ rfl rfl HR.out ?_)
          go_wp2_with fail
          exact ⟨⟨j + 1, _, _, by omega, by simp, rfl, HO, B5⟩, by simp [intOf]; omega⟩
        · have hjl2 : ¬ (j : Int) < (len : Int) := by omega
          have HL : Hid (L = catL ss) := hidn (by
            have := hP.out.2
            rw [List.take_of_length_le (by rw [hlen.out]; omega)] at this
            exact this)
          go_wp2_with fail
          exact bodyPost_ret (v := u6) (by simp [results, Tryd.results16, go_sem]) rfl ⟨_, rfl, by rw [HN.out, ← HL.out]; exact hP.out.1, hb⟩

end Go.Proofs.YtidlogeeophogaaDoor.Sp
