/- match: Can, One, All. -/
import Derived.Test.YtdgkjiiegmnjfaaMatB
import Derived.Test.YtdgkjiiegmnjfaaLabCanMore
namespace Go.Proofs.Ytdgkjiiegmnjfaa
open Go.RowKit Go.Joins
set_option linter.unusedVariables false
set_option maxHeartbeats 2000000 in
set_option maxRecDepth 100000 in
theorem canM_any (a : Option Addr) (len cap : Nat) (ms : List Mat) (w : World) (h : Mss w a len ms) :
    Calls Try.prog 23 #[.slice a len cap] w fun e w' => e = .returned (.bool (canL ms)) ∧ Below w.heap.size w w' := by
  have hlen := h.1
  have hlm := h.2.1
  unfold maxLen at hlm
  obtain ⟨Z, hZ⟩ : ∃ Z, Z = canL ms := ⟨_, rfl⟩
  rw [← hZ]
  have HZ := hidn hZ
  have HL := hidn hlen
  clear hZ
  by_cases l6 : 6 < len
  · have g1 : (6 : Int) < (len : Int) := by omega
    have hS : Hid (Z = false) := hidn (by rw [HZ.out]; unfold canL; rw [decide_eq_false (by omega)]; rfl)
    go_enter Try.func23, Try.ntmps23
    go_wp2_with fail
    exact bodyPost_ret (v := .bool false) (by simp [results, Try.results23, go_sem]) rfl ⟨by rw [hS.out], Below.refl _ _⟩
  · have g1 : ¬ (6 : Int) < (len : Int) := by omega
    have hS0 : Hid (Z = ms.all canM) := hidn (by rw [HZ.out]; unfold canL; rw [decide_eq_true (by omega)]; rfl)
    clear hlen
    go_enter Try.func23, Try.ntmps23
    go_wp2_with fail
    go_loopw [10] (fun iv wr => ∃ j : Nat, iv = .int .i64 (j : Int) ∧ j ≤ len ∧ Below w.heap.size w wr ∧ Hid ((ms.take j).all canM = true)) (fun iv _ => len - (intOf iv).toNat)
    case atStart => exact ⟨0, rfl, Nat.zero_le _, Below.refl _ _, hidn rfl⟩
    case round =>
      obtain ⟨j, rfl, hj, hb, hall⟩ := hrel
      by_cases hlt : j < len
      · have hlt2 : (j : Int) < (len : Int) := by omega
        obtain ⟨m, hm⟩ : ∃ m, ms[j]? = some m := ⟨_, List.getElem?_eq_getElem (by rw [HL.out]; exact hlt)⟩
        obtain ⟨b, off, rfl, c0, c1, c2, s1, s2⟩ := (h.below hb).at hm
        have hnext : Hid ((ms.take (j + 1)).all canM = canM m) := hidn (by rw [List.take_add_one, hm, List.all_append, hall.out]; simp)
        have hno : Hid (canM m = false → Z = false) := hidn (fun e => by
          rw [hS0.out, ← List.take_append_drop (j + 1) ms, List.all_append, hnext.out, e]; rfl)
        have hmm : Hid (canM m = (nameOK m.n && valM m.k m.v)) := hidn rfl
        obtain ⟨mk, mn, mv⟩ := m
        simp only at c0 c1 c2 s1 s2 hmm
        obtain ⟨wA, hwA⟩ : ∃ wA, wA = wr.alloc (.cells #[.int .i64 mk, .string mn, .string mv] 37) := ⟨_, rfl⟩
        have bA : Below wr.heap.size wr wA := by rw [hwA]; exact (Below.refl _ wr).alloc (Nat.le_refl _) _
        have qA : wA.heap[wr.heap.size]? = some (.cells #[.int .i64 mk, .string mn, .string mv] 37 (0, 0)) := by rw [hwA]; exact heap_alloc_new wr _
        have BA := hb.trans (bA.mono hb.size)
        have HWA := hidn hwA
        clear hwA hm
        go_wp2_with fail
        rw [← HWA.out]
        refine (name_any mn _ s1).mono ?_
        rintro e w2 ⟨rfl, b2⟩
        have q2 := (b2.block _ (Array.getElem?_eq_some_iff.1 qA).1).trans qA
        have B2 := BA.trans (b2.mono BA.size)
        have d0 : w2.cell? ⟨wr.heap.size, 0, none⟩ = some (.int .i64 mk) := cell_of_row _ _ _ _ _ _ q2
        have d1 : w2.cell? ⟨wr.heap.size, 1, none⟩ = some (.string mn) := cell_of_row _ _ _ _ _ _ q2
        have d2 : w2.cell? ⟨wr.heap.size, 2, none⟩ = some (.string mv) := cell_of_row _ _ _ _ _ _ q2
        cases hn : nameOK mn with
        | false =>
          have hZf : Hid (Z = false) := hidn (hno.out (by rw [hmm.out, hn]; rfl))
          go_wp2_with fail
          exact bodyPost_ret (v := .bool false) (by simp [results, Try.results23, go_sem]) rfl ⟨by rw [hZf.out], B2⟩
        | true =>
          go_wp2_with fail
          refine (canValue_any ⟨mk, mn, mv⟩ _ s2).mono ?_
          rintro e w3 ⟨rfl, b3⟩
          have B3 := B2.trans (b3.mono B2.size)
          cases hv : valM mk mv with
          | false =>
            have hZf : Hid (Z = false) := hidn (hno.out (by rw [hmm.out, hn, hv]; rfl))
            go_wp2_with fail
            exact bodyPost_ret (v := .bool false) (by simp [results, Try.results23, go_sem]) rfl ⟨by rw [hZf.out], B3⟩
          | true =>
            have hA2 : Hid ((ms.take (j + 1)).all canM = true) := hidn (by rw [hnext.out, hmm.out, hn, hv]; rfl)
            go_wp2_with fail
            exact ⟨⟨j + 1, by simp, by omega, B3, hA2⟩, by simp [intOf]; omega⟩
      · have hlt2 : ¬ (j : Int) < (len : Int) := by omega
        have hZt : Hid (Z = true) := hidn (by
          have e := hall.out
          rw [List.take_of_length_le (by rw [HL.out]; omega)] at e
          rw [hS0.out, e])
        go_wp2_with fail
        exact bodyPost_ret (v := .bool true) (by simp [results, Try.results23, go_sem]) rfl ⟨by rw [hZt.out], hb⟩

/-- Whether a value, as a pattern, fits a text. -/
def likeS (p t : ByteArray) : Bool := decide ((matchS p t).2 = 0) && (matchS p t).1
/-- Whether a matcher fits labels. -/
def oneM (m : Mat) (ls : List Lab) : Bool := if m.k = 1 then ((getL ls m.n).toList == m.v.toList) else if m.k = 2 then !((getL ls m.n).toList == m.v.toList)
  else if m.k = 3 then likeS m.v (getL ls m.n) else if m.k = 4 then !likeS m.v (getL ls m.n) else false
set_option maxHeartbeats 2000000 in
set_option maxRecDepth 100000 in
theorem isLike_any (p t : ByteArray) (w : World) (hp : p.size ≤ maxLen) (ht : t.size ≤ 140737488355328) :
    Calls Try.prog 27 #[.string p, .string t] w fun e w' => e = .returned (.bool (likeS p t)) ∧ Below w.heap.size w w' := by
  obtain ⟨Z, hZ⟩ : ∃ Z, Z = likeS p t := ⟨_, rfl⟩
  rw [← hZ]
  have HZ : Hid (Z = (decide ((matchS p t).2 = 0) && (matchS p t).1)) := hidn hZ
  clear hZ
  have HC := hidn (match_any p t w hp ht)
  generalize matchS p t = r at *
  obtain ⟨rb, re⟩ := r
  simp only at HC HZ
  by_cases r0 : re = 0
  · subst r0
    have hS : Hid (Z = rb) := hidn (by rw [HZ.out]; rfl)
    go_enter Try.func27, Try.ntmps27
    go_wp2_with fail
    refine HC.out.mono ?_
    rintro e w2 ⟨rfl, b2⟩
    go_wp2_with fail
    exact bodyPost_ret (v := .bool rb) (by simp [results, Try.results27, go_sem]) rfl ⟨by rw [hS.out], b2⟩
  · have hS : Hid (Z = false) := hidn (by rw [HZ.out]; simp [r0])
    have r1 : (re == 0) = false := beq_eq_false_iff_ne.2 r0
    clear r0
    go_enter Try.func27, Try.ntmps27
    go_wp2_with fail
    refine HC.out.mono ?_
    rintro e w2 ⟨rfl, b2⟩
    go_wp2_with fail
    exact bodyPost_ret (v := .bool false) (by simp [results, Try.results27, go_sem]) rfl ⟨by rw [hS.out], b2⟩
set_option maxHeartbeats 2000000 in
set_option maxRecDepth 100000 in
theorem one_is (m : Mat) (la : Option Addr) (llen lcap : Nat) (ls : List Lab) (w : World) (hL : Ls w la llen ls) (hr : llen ≤ 140737488355328) (hk : m.k = 1) :
    Calls Try.prog 22 #[.agg #[.int .i64 m.k, .string m.n, .string m.v], .slice la llen lcap] w fun e w' => e = .returned (.bool (oneM m ls)) ∧ Below w.heap.size w w' := by
  obtain ⟨k, n, v⟩ := m
  simp only at hk
  subst hk
  obtain ⟨Z, hZ⟩ : ∃ Z, Z = oneM ⟨1, n, v⟩ ls := ⟨_, rfl⟩
  rw [← hZ]
  have HZ : Hid (Z = ((getL ls n).toList == v.toList)) := hidn (by rw [hZ]; rfl)
  clear hZ
  have bA : Below w.heap.size w (w.alloc (.cells #[.int .i64 1, .string n, .string v] 37)) := (Below.refl _ w).alloc (Nat.le_refl _) _
  have qA : (w.alloc (.cells #[.int .i64 1, .string n, .string v] 37)).heap[w.heap.size]? = some (.cells #[.int .i64 1, .string n, .string v] 37 (0, 0)) := heap_alloc_new w _
  go_enter Try.func22, Try.ntmps22
  go_wp2_with fail
  refine (get_any la llen lcap ls n _ (hL.below bA) hr).mono ?_
  rintro e w1 ⟨rfl, b1⟩
  have q1 := (b1.block _ (Array.getElem?_eq_some_iff.1 qA).1).trans qA
  have B1 := below_al b1
  have d0 : w1.cell? ⟨w.heap.size, 0, none⟩ = some (.int .i64 1) := cell_of_row _ _ _ _ _ _ q1
  have d2 : w1.cell? ⟨w.heap.size, 2, none⟩ = some (.string v) := cell_of_row _ _ _ _ _ _ q1
  generalize getL ls n = G at *
  go_wp2_with fail
  exact bodyPost_ret (v := .bool (G.toList == v.toList)) (by simp [results, Try.results22, go_sem]) rfl ⟨by rw [HZ.out], B1⟩
set_option maxHeartbeats 2000000 in
set_option maxRecDepth 100000 in
theorem one_not (m : Mat) (la : Option Addr) (llen lcap : Nat) (ls : List Lab) (w : World) (hL : Ls w la llen ls) (hr : llen ≤ 140737488355328) (hk : m.k = 2) :
    Calls Try.prog 22 #[.agg #[.int .i64 m.k, .string m.n, .string m.v], .slice la llen lcap] w fun e w' => e = .returned (.bool (oneM m ls)) ∧ Below w.heap.size w w' := by
  obtain ⟨k, n, v⟩ := m
  simp only at hk
  subst hk
  obtain ⟨Z, hZ⟩ : ∃ Z, Z = oneM ⟨2, n, v⟩ ls := ⟨_, rfl⟩
  rw [← hZ]
  have HZ : Hid (Z = !((getL ls n).toList == v.toList)) := hidn (by rw [hZ]; rfl)
  clear hZ
  have bA : Below w.heap.size w (w.alloc (.cells #[.int .i64 2, .string n, .string v] 37)) := (Below.refl _ w).alloc (Nat.le_refl _) _
  have qA : (w.alloc (.cells #[.int .i64 2, .string n, .string v] 37)).heap[w.heap.size]? = some (.cells #[.int .i64 2, .string n, .string v] 37 (0, 0)) := heap_alloc_new w _
  go_enter Try.func22, Try.ntmps22
  go_wp2_with fail
  refine (get_any la llen lcap ls n _ (hL.below bA) hr).mono ?_
  rintro e w1 ⟨rfl, b1⟩
  have q1 := (b1.block _ (Array.getElem?_eq_some_iff.1 qA).1).trans qA
  have B1 := below_al b1
  have d0 : w1.cell? ⟨w.heap.size, 0, none⟩ = some (.int .i64 2) := cell_of_row _ _ _ _ _ _ q1
  have d2 : w1.cell? ⟨w.heap.size, 2, none⟩ = some (.string v) := cell_of_row _ _ _ _ _ _ q1
  generalize getL ls n = G at *
  go_wp2_with fail
  exact bodyPost_ret (v := .bool (!(G.toList == v.toList))) (by simp [results, Try.results22, go_sem]) rfl ⟨by rw [HZ.out], B1⟩
set_option maxHeartbeats 2000000 in
set_option maxRecDepth 100000 in
theorem one_like (m : Mat) (la : Option Addr) (llen lcap : Nat) (ls : List Lab) (w : World) (hL : Ls w la llen ls) (hr : llen ≤ 140737488355328) (hk : m.k = 3) (hG : (getL ls m.n).size ≤ 140737488355328) (hv : m.v.size ≤ maxLen) :
    Calls Try.prog 22 #[.agg #[.int .i64 m.k, .string m.n, .string m.v], .slice la llen lcap] w fun e w' => e = .returned (.bool (oneM m ls)) ∧ Below w.heap.size w w' := by
  obtain ⟨k, n, v⟩ := m
  simp only at hk
  subst hk
  obtain ⟨Z, hZ⟩ : ∃ Z, Z = oneM ⟨3, n, v⟩ ls := ⟨_, rfl⟩
  rw [← hZ]
  have HZ : Hid (Z = likeS v (getL ls n)) := hidn (by rw [hZ]; rfl)
  clear hZ
  have bA : Below w.heap.size w (w.alloc (.cells #[.int .i64 3, .string n, .string v] 37)) := (Below.refl _ w).alloc (Nat.le_refl _) _
  have qA : (w.alloc (.cells #[.int .i64 3, .string n, .string v] 37)).heap[w.heap.size]? = some (.cells #[.int .i64 3, .string n, .string v] 37 (0, 0)) := heap_alloc_new w _
  go_enter Try.func22, Try.ntmps22
  go_wp2_with fail
  refine (get_any la llen lcap ls n _ (hL.below bA) hr).mono ?_
  rintro e w1 ⟨rfl, b1⟩
  have q1 := (b1.block _ (Array.getElem?_eq_some_iff.1 qA).1).trans qA
  have B1 := below_al b1
  have d0 : w1.cell? ⟨w.heap.size, 0, none⟩ = some (.int .i64 3) := cell_of_row _ _ _ _ _ _ q1
  have d2 : w1.cell? ⟨w.heap.size, 2, none⟩ = some (.string v) := cell_of_row _ _ _ _ _ _ q1
  generalize getL ls n = G at *
  have HC := hidn (isLike_any v G w1 hv hG)
  generalize likeS v G = r at *
  go_wp2_with fail
  refine HC.out.mono ?_
  rintro e w2 ⟨rfl, b2⟩
  have B2 := B1.trans (b2.mono B1.size)
  go_wp2_with fail
  exact bodyPost_ret (v := .bool r) (by simp [results, Try.results22, go_sem]) rfl ⟨by rw [HZ.out], B2⟩
set_option maxHeartbeats 2000000 in
set_option maxRecDepth 100000 in
theorem one_notlike (m : Mat) (la : Option Addr) (llen lcap : Nat) (ls : List Lab) (w : World) (hL : Ls w la llen ls) (hr : llen ≤ 140737488355328) (hk : m.k = 4) (hG : (getL ls m.n).size ≤ 140737488355328) (hv : m.v.size ≤ maxLen) :
    Calls Try.prog 22 #[.agg #[.int .i64 m.k, .string m.n, .string m.v], .slice la llen lcap] w fun e w' => e = .returned (.bool (oneM m ls)) ∧ Below w.heap.size w w' := by
  obtain ⟨k, n, v⟩ := m
  simp only at hk
  subst hk
  obtain ⟨Z, hZ⟩ : ∃ Z, Z = oneM ⟨4, n, v⟩ ls := ⟨_, rfl⟩
  rw [← hZ]
  have HZ : Hid (Z = !likeS v (getL ls n)) := hidn (by rw [hZ]; rfl)
  clear hZ
  have bA : Below w.heap.size w (w.alloc (.cells #[.int .i64 4, .string n, .string v] 37)) := (Below.refl _ w).alloc (Nat.le_refl _) _
  have qA : (w.alloc (.cells #[.int .i64 4, .string n, .string v] 37)).heap[w.heap.size]? = some (.cells #[.int .i64 4, .string n, .string v] 37 (0, 0)) := heap_alloc_new w _
  go_enter Try.func22, Try.ntmps22
  go_wp2_with fail
  refine (get_any la llen lcap ls n _ (hL.below bA) hr).mono ?_
  rintro e w1 ⟨rfl, b1⟩
  have q1 := (b1.block _ (Array.getElem?_eq_some_iff.1 qA).1).trans qA
  have B1 := below_al b1
  have d0 : w1.cell? ⟨w.heap.size, 0, none⟩ = some (.int .i64 4) := cell_of_row _ _ _ _ _ _ q1
  have d2 : w1.cell? ⟨w.heap.size, 2, none⟩ = some (.string v) := cell_of_row _ _ _ _ _ _ q1
  generalize getL ls n = G at *
  have HC := hidn (isLike_any v G w1 hv hG)
  generalize likeS v G = r at *
  go_wp2_with fail
  refine HC.out.mono ?_
  rintro e w2 ⟨rfl, b2⟩
  have B2 := B1.trans (b2.mono B1.size)
  go_wp2_with fail
  exact bodyPost_ret (v := .bool (!r)) (by simp [results, Try.results22, go_sem]) rfl ⟨by rw [HZ.out], B2⟩
def allM (ms : List Mat) (ls : List Lab) : Bool := ms.all fun m => oneM m ls
set_option maxHeartbeats 2000000 in
set_option maxRecDepth 100000 in
theorem all_any (a : Option Addr) (len cap : Nat) (ms : List Mat) (la : Option Addr) (llen lcap : Nat) (ls : List Lab) (w : World) (h : Mss w a len ms) (hL : Ls w la llen ls)
    (H : ∀ m ∈ ms, ∀ w1, Ls w1 la llen ls → Calls Try.prog 22 #[.agg #[.int .i64 m.k, .string m.n, .string m.v], .slice la llen lcap] w1 fun e w' => e = .returned (.bool (oneM m ls)) ∧ Below w1.heap.size w1 w') :
    Calls Try.prog 17 #[.slice a len cap, .slice la llen lcap] w fun e w' => e = .returned (.bool (allM ms ls)) ∧ Below w.heap.size w w' := by
  have hlen := h.1
  have hlm := h.2.1
  unfold maxLen at hlm
  obtain ⟨Z, hZ⟩ : ∃ Z, Z = allM ms ls := ⟨_, rfl⟩
  rw [← hZ]
  have HZ : Hid (Z = ms.all fun m => oneM m ls) := hidn hZ
  have HL := hidn hlen
  clear hZ hlen
  go_enter Try.func17, Try.ntmps17
  go_wp2_with fail
  go_loopw [9] (fun iv wr => ∃ j : Nat, iv = .int .i64 (j : Int) ∧ j ≤ len ∧ Below w.heap.size w wr ∧ Hid ((ms.take j).all (fun m => oneM m ls) = true)) (fun iv _ => len - (intOf iv).toNat)
  case atStart => exact ⟨0, rfl, Nat.zero_le _, Below.refl _ _, hidn rfl⟩
  case round =>
    obtain ⟨j, rfl, hj, hb, hall⟩ := hrel
    by_cases hlt : j < len
    · have hlt2 : (j : Int) < (len : Int) := by omega
      obtain ⟨m, hm⟩ : ∃ m, ms[j]? = some m := ⟨_, List.getElem?_eq_getElem (by rw [HL.out]; exact hlt)⟩
      obtain ⟨b, off, rfl, c0, c1, c2, s1, s2⟩ := (h.below hb).at hm
      have hnext : Hid ((ms.take (j + 1)).all (fun m => oneM m ls) = oneM m ls) := hidn (by rw [List.take_add_one, hm, List.all_append, hall.out]; simp)
      have hno : Hid (oneM m ls = false → Z = false) := hidn (fun e => by
        rw [HZ.out, ← List.take_append_drop (j + 1) ms, List.all_append, hnext.out, e]; rfl)
      obtain ⟨wA, hwA⟩ : ∃ wA, wA = wr.alloc (.cells #[.int .i64 m.k, .string m.n, .string m.v] 37) := ⟨_, rfl⟩
      have bA : Below wr.heap.size wr wA := by rw [hwA]; exact (Below.refl _ wr).alloc (Nat.le_refl _) _
      have BA := hb.trans (bA.mono hb.size)
      have HC := hidn (H m (List.mem_of_getElem? hm) wA (hL.below BA))
      generalize oneM m ls = ob at *
      obtain ⟨mk, mn, mv⟩ := m
      simp only at c0 c1 c2 s1 s2 hwA HC
      have HWA := hidn hwA
      clear hwA hm
      go_wp2_with fail
      rw [← HWA.out]
      refine HC.out.mono ?_
      rintro e w2 ⟨rfl, b2⟩
      have B2 := BA.trans (b2.mono BA.size)
      cases ob with
      | false =>
        have hZf : Hid (Z = false) := hidn (hno.out rfl)
        go_wp2_with fail
        exact bodyPost_ret (v := .bool false) (by simp [results, Try.results17, go_sem]) rfl ⟨by rw [hZf.out], B2⟩
      | true =>
        go_wp2_with fail
        exact ⟨⟨j + 1, by simp, by omega, B2, hnext⟩, by simp [intOf]; omega⟩
    · have hlt2 : ¬ (j : Int) < (len : Int) := by omega
      have hZt : Hid (Z = true) := hidn (by
        have e := hall.out
        rw [List.take_of_length_le (by rw [HL.out]; omega)] at e
        rw [HZ.out, e])
      go_wp2_with fail
      exact bodyPost_ret (v := .bool true) (by simp [results, Try.results17, go_sem]) rfl ⟨by rw [hZt.out], hb⟩
end Go.Proofs.Ytdgkjiiegmnjfaa
