/- merge: samples in memory: Clone, Equal. -/
import Derived.Test.YtccjgciknaooaaaBytes
import Derived.Test.YtccjgciknaooaaaDrawn
import Derived.Test.YtccjgciknaooaaaLabMath
import Derived.Test.YtccjgciknaooaaaAppA
import Derived.Test.YtccjgciknaooaaaAppK
import Derived.Lib.SmallJoins
import Derived.BigQuiet
import Derived.Deep.QuietTactic
import Derived.Laws.StructEq
namespace Go.Proofs.Ytccjgciknaooaaa
open Go.RowKit Go.Joins
set_option linter.unusedVariables false
set_option linter.unusedSimpArgs false

structure Sam where
  t : Int
  v : Nat
def SamOK (s : Sam) : Prop := -9223372036854775808 ≤ s.t ∧ s.t ≤ 9223372036854775807 ∧ s.v < 18446744073709551616
def samD (l : List Sam) (k : Nat) : Sam := l.getD k ⟨0, 0⟩
def Sm (w : World) (a : Option Addr) (len : Nat) (l : List Sam) : Prop :=
  l.length = len ∧ len ≤ maxLen ∧ (∀ i, SamOK (samD l i)) ∧ (a = none → len = 0) ∧
    ∀ x, a = some x → ∀ j, j < len → w.cell? (x.add (j * 2)) = some (.int .i64 (samD l j).t) ∧ w.cell? (x.add (j * 2 + 1)) = some (.int .u64 (samD l j).v)
theorem samOK_zero : SamOK ⟨0, 0⟩ := ⟨by decide, by decide, by decide⟩
theorem Sm.nil (w : World) : Sm w none 0 [] := ⟨rfl, Nat.zero_le _, fun i => samOK_zero, fun _ => rfl, by simp⟩
theorem Sm.pos {w : World} {a : Option Addr} {len : Nat} {l : List Sam} (h : Sm w a len l) (h0 : 0 < len) :
    ∃ b off, a = some ⟨b, off, none⟩ ∧ b < w.heap.size ∧ ∀ j, j < len → w.cell? ⟨b, off + j * 2, none⟩ = some (.int .i64 (samD l j).t) ∧ w.cell? ⟨b, off + j * 2 + 1, none⟩ = some (.int .u64 (samD l j).v) := by
  obtain ⟨hl, hm, hz, hn, hc⟩ := h
  cases a with
  | none => have := hn rfl; omega
  | some x =>
    obtain ⟨b, off, spot⟩ := x
    have hc0 := (hc _ rfl 0 h0).1
    have hspot : spot = none := by simpa [Addr.add] using World.cell?_spot hc0
    subst hspot
    have hb := block_lt_of_cell hc0
    refine ⟨b, off, rfl, by simpa [Addr.add] using hb, fun j hj => ?_⟩
    have := hc _ rfl j hj
    rw [add_none, add_none] at this
    exact this
theorem Sm.below {w w' : World} {a : Option Addr} {len : Nat} {l : List Sam} (h : Sm w a len l) (hb : Below w.heap.size w w') : Sm w' a len l := by
  obtain ⟨hl, hm, hz, hn, hc⟩ := h
  refine ⟨hl, hm, hz, hn, fun x hx j hj => ?_⟩
  have h1 := (hc x hx j hj).1
  have h2 := (hc x hx j hj).2
  rw [hb.cell (block_lt_of_cell h1), hb.cell (block_lt_of_cell h2)]; exact ⟨h1, h2⟩

theorem Try.infoSam : (Try.prog.info? 36).map (fun i => (i.zero, i.size, i.bytes)) = some (some (.agg #[.int .i64 0, .int .u64 0]), 2, 16) := by kernel_rfl
/-- Samples as cells. -/
def vsm : List Sam → List Value
  | [] => []
  | s :: t => [.int .i64 s.t, .int .u64 (s.v : Int)] ++ vsm t
theorem vsm_app (l m : List Sam) : vsm (l ++ m) = vsm l ++ vsm m := by
  induction l with
  | nil => rfl
  | cons s t ih => simp [vsm, ih]
theorem vsm_len (l : List Sam) : (vsm l).length = l.length * 2 := by
  induction l with
  | nil => rfl
  | cons s t ih => simp [vsm, ih]; omega
theorem vsm_get (l : List Sam) : ∀ j, j < l.length → (vsm l)[j * 2]? = some (.int .i64 (samD l j).t) ∧ (vsm l)[j * 2 + 1]? = some (.int .u64 ((samD l j).v : Int)) := by
  induction l with
  | nil => intro j hj; simp at hj
  | cons s t ih =>
    intro j hj
    cases j with
    | zero => exact ⟨rfl, rfl⟩
    | succ j =>
      have := ih j (by simpa using hj)
      have e1 : (vsm (s :: t))[(j + 1) * 2]? = (vsm t)[j * 2]? := by
        rw [show (j + 1) * 2 = j * 2 + 2 from by omega]; rfl
      have e2 : (vsm (s :: t))[(j + 1) * 2 + 1]? = (vsm t)[j * 2 + 1]? := by
        rw [show (j + 1) * 2 + 1 = j * 2 + 1 + 2 from by omega]; rfl
      rw [e1, e2]
      exact this
theorem sm_of_own {w : World} {base n : Nat} {v : Value} {l : List Sam} (h : w.ownsRow base 36 2 v n (vsm l)) (hz : ∀ i, SamOK (samD l i)) :
    ∃ a cap, v = .slice a n cap ∧ n ≤ cap ∧ Sm w a n l := by
  have h' := h
  obtain ⟨hl, h1⟩ := h
  have hn : l.length = n := by rw [vsm_len] at hl; omega
  rcases h1 with ⟨rfl, rfl⟩ | ⟨g, cap, cur, rfl, hg, hh, hnc, hcm, hcs, htk⟩
  · obtain rfl : l = [] := List.length_eq_zero_iff.1 hn
    exact ⟨none, 0, rfl, Nat.le_refl _, Sm.nil w⟩
  · refine ⟨_, cap, rfl, hnc, hn, by omega, hz, (fun h => by simp at h), fun x hx j hj => ?_⟩
    cases hx
    obtain ⟨g1, g2⟩ := vsm_get l j (by omega)
    have c1 := h'.cellAt (j * 2) (by omega)
    have c2 := h'.cellAt (j * 2 + 1) (by omega)
    rw [g1] at c1
    rw [g2] at c2
    rw [add_none, add_none, Nat.zero_add, Nat.zero_add]
    exact ⟨c1, c2⟩
theorem one_vsm (l : List Sam) : ∀ u ∈ vsm l, u.oneCell' = true := by
  induction l with
  | nil => intro u hu; simp [vsm] at hu
  | cons s t ih =>
    intro u hu
    simp only [vsm, List.mem_append, List.mem_cons, List.not_mem_nil, or_false] at hu
    rcases hu with (rfl | rfl) | hu
    · rfl
    · rfl
    · exact ih u hu
theorem Sm.take {w : World} {a : Option Addr} {len : Nat} {l : List Sam} (h : Sm w a len l) (m : Nat) (hm : m ≤ len) : Sm w a m (l.take m) := by
  obtain ⟨h1, h2, h3, h4, h5⟩ := h
  have hd : ∀ i, i < m → samD (l.take m) i = samD l i := by
    intro i hi
    simp [samD, List.getD_eq_getElem?_getD, hi]
  refine ⟨by rw [List.length_take]; omega, by omega, fun i => ?_, fun h => by have := h4 h; omega, fun x hx j hj => ?_⟩
  · by_cases hi : i < m
    · rw [hd i hi]; exact h3 i
    · have : samD (l.take m) i = ⟨0, 0⟩ := by
        unfold samD
        rw [List.getD_eq_getElem?_getD, List.getElem?_eq_none (by rw [List.length_take]; omega)]
        rfl
      rw [this]; exact samOK_zero
  · rw [hd j hj]; exact h5 x hx j (by omega)

theorem below_drewN {n : Nat} {w w' : World} (h : Below n w w') (k : Nat) : Below n w (w'.drewN k) := h.trans ⟨rfl, rfl, rfl, Nat.le_refl _, fun _ _ => rfl⟩

noncomputable def dcd (P : Prop) : Bool := @decide P (Classical.propDecidable P)

theorem dcd_true {P : Prop} (h : P) : dcd P = true := by unfold dcd; exact @decide_eq_true P (Classical.propDecidable P) h

theorem dcd_false {P : Prop} (h : ¬ P) : dcd P = false := by unfold dcd; exact @decide_eq_false P (Classical.propDecidable P) h

theorem sam_drop (l : List Sam) (k : Nat) (h : k < l.length) : l.drop k = samD l k :: l.drop (k + 1) := by
  rw [List.drop_eq_getElem_cons h]
  simp [samD, List.getD_eq_getElem?_getD, h]

theorem run_neq_sam (t1 t2 : Int) (v1 v2 : Nat) (w : World) : (binOp .neq 36 (.agg #[.int .i64 t1, .int .u64 (v1 : Int)]) (.agg #[.int .i64 t2, .int .u64 (v2 : Int)])).run Try.prog w = .ok (.bool (!dcd ((⟨t1, v1⟩ : Sam) = ⟨t2, v2⟩))) w := by
  have e : dcd ((⟨t1, v1⟩ : Sam) = ⟨t2, v2⟩) = (t1 == t2 && (v1 : Int) == (v2 : Int)) := by
    by_cases h : (⟨t1, v1⟩ : Sam) = ⟨t2, v2⟩
    · rw [dcd_true h]
      injection h with h1 h2
      subst h1 h2
      simp
    · rw [dcd_false h]
      symm
      rw [Bool.eq_false_iff]
      intro hh
      simp only [Bool.and_eq_true, beq_iff_eq] at hh
      obtain ⟨h1, h2⟩ := hh
      exact h (by rw [h1, show v1 = v2 from by omega])
  rw [run_neq_struct, e]
  cases hx : (t1 == t2) <;> cases hy : ((v1 : Int) == (v2 : Int)) <;> simp [go_sem, Try.underlying36, hx, hy]

set_option maxHeartbeats 4000000 in
set_option maxRecDepth 100000 in
theorem seq_any (a b : Option Addr) (len cap len' cap' : Nat) (la lb : List Sam) (w : World) (h : Sm w a len la) (h' : Sm w b len' lb) :
    Calls Try.prog 10 #[.slice a len cap, .slice b len' cap'] w fun e w' => e = .returned (.bool (dcd (la = lb))) ∧ Below w.heap.size w w' := by
  have hm := h.2.1
  have hm' := h'.2.1
  unfold maxLen at hm hm'
  have hl := hidn h.1
  have hl' := hidn h'.1
  obtain ⟨dd, hdd⟩ : ∃ dd, dd = dcd (la = lb) := ⟨_, rfl⟩
  rw [← hdd]
  have HDD := hidn hdd
  clear hdd
  by_cases hne : len = len'
  · subst hne
    go_enter Try.func10, Try.ntmps10
    go_wp2
    go_loopw [13] (fun i wr => ∃ k : Nat, k ≤ len ∧ i = .int .i64 (k : Int) ∧ Below w.heap.size w wr ∧ Hid (la = lb ↔ la.drop k = lb.drop k)) (fun i wr => len - (intOf i).toNat)
    case atStart => exact ⟨0, Nat.zero_le _, rfl, Below.refl _ _, hidn Iff.rfl⟩
    case round =>
      obtain ⟨k, hk, rfl, hbl, hn⟩ := hrel
      by_cases hlt : k < len
      · obtain ⟨ba, offa, rfl, hba, hca⟩ := h.pos (by omega)
        obtain ⟨bb, offb, rfl, hbb, hcb⟩ := h'.pos (by omega)
        have hki : (k : Int) < (len : Int) := by omega
        obtain ⟨c0, c1⟩ := hca k hlt
        have c0' := (hbl.cell (p := ⟨ba, offa + k * 2, none⟩) hba).trans c0
        have c1' := (hbl.cell (p := ⟨ba, offa + k * 2 + 1, none⟩) hba).trans c1
        obtain ⟨d0, d1⟩ := hcb k hlt
        have d0' := (hbl.cell (p := ⟨bb, offb + k * 2, none⟩) hbb).trans d0
        have d1' := (hbl.cell (p := ⟨bb, offb + k * 2 + 1, none⟩) hbb).trans d1
        have HST : Hid (la = lb ↔ samD la k = samD lb k ∧ la.drop (k + 1) = lb.drop (k + 1)) := hidn (hn.out.trans (by rw [sam_drop la k (by rw [hl.out]; exact hlt), sam_drop lb k (by rw [hl'.out]; exact hlt)]; simp))
        clear c0 c1 d0 d1 hca hcb hn
        generalize samD la k = x at *
        generalize samD lb k = y at *
        obtain ⟨x1, x2⟩ := x
        obtain ⟨y1, y2⟩ := y
        dsimp only at c0' c1' d0' d1'
        have hrun := fun w => run_neq_sam x1 y1 x2 y2 w
        by_cases hxy : (⟨x1, x2⟩ : Sam) = ⟨y1, y2⟩
        · have hd : dcd ((⟨x1, x2⟩ : Sam) = ⟨y1, y2⟩) = true := dcd_true hxy
          have hrun2 : ∀ w, (binOp .neq 36 (.agg #[.int .i64 x1, .int .u64 (x2 : Int)]) (.agg #[.int .i64 y1, .int .u64 (y2 : Int)])).run Try.prog w = .ok (.bool false) w := fun w => by rw [hrun w, hd]; rfl
          have HC : Hid (la = lb ↔ la.drop (k + 1) = lb.drop (k + 1)) := hidn (HST.out.trans ⟨fun h => h.2, fun h => ⟨hxy, h⟩⟩)
          clear hrun hd hxy HST
          go_wp2
          go_quiet (fail)
          go_wp2
          exact ⟨⟨k + 1, by omega, by go_num, below_drewN hbl _, HC⟩, by simp [intOf]; omega⟩
        · have hd : dcd ((⟨x1, x2⟩ : Sam) = ⟨y1, y2⟩) = false := dcd_false hxy
          have hrun2 : ∀ w, (binOp .neq 36 (.agg #[.int .i64 x1, .int .u64 (x2 : Int)]) (.agg #[.int .i64 y1, .int .u64 (y2 : Int)])).run Try.prog w = .ok (.bool true) w := fun w => by rw [hrun w, hd]; rfl
          have HC : Hid (¬ la = lb) := hidn (fun h => hxy (HST.out.1 h).1)
          clear hrun hd hxy HST
          go_wp2
          go_quiet (fail)
          go_wp2
          go_ret
          rw [HDD.out, dcd_false HC.out]
          exact ⟨rfl, below_drewN hbl _⟩
      · obtain rfl : k = len := by omega
        have HC : Hid (la = lb) := hidn (hn.out.2 (by rw [List.drop_of_length_le (by rw [hl.out]; omega), List.drop_of_length_le (by rw [hl'.out]; omega)]))
        clear hn
        go_wp2
        go_ret
        rw [HDD.out, dcd_true HC.out]
        exact ⟨rfl, hbl⟩
  · have hne' : ((len : Int) == (len' : Int)) = false := beq_eq_false_iff_ne.2 (by omega)
    have hne2 : ((len : Int) != (len' : Int)) = true := by rw [bne_iff_ne]; omega
    have HC : Hid (¬ la = lb) := hidn (fun h => hne (by rw [← hl.out, ← hl'.out, h]))
    clear hne
    go_enter Try.func10, Try.ntmps10
    go_wp2
    go_ret
    rw [HDD.out, dcd_false HC.out]
    exact ⟨rfl, Below.refl _ _⟩

theorem vsm_at {w : World} {x : Addr} {len : Nat} {l : List Sam} (h : Sm w (some x) len l) : ∀ j u, (vsm l)[j]? = some u → w.cell? (x.add j) = some u := by
  intro j u hj
  have hjl : j < l.length * 2 := by rw [← vsm_len]; exact (List.getElem?_eq_some_iff.1 hj).1
  have hk : j / 2 < l.length := by omega
  obtain ⟨g1, g2⟩ := vsm_get l (j / 2) hk
  obtain ⟨c1, c2⟩ := h.2.2.2.2 x rfl (j / 2) (by rw [← h.1]; exact hk)
  by_cases hp : j % 2 = 0
  · have e : j / 2 * 2 = j := by omega
    rw [e] at g1 c1
    rw [hj] at g1
    rw [c1, ← g1]
  · have e : j / 2 * 2 + 1 = j := by omega
    rw [e] at g2 c2
    rw [hj] at g2
    rw [c2, ← g2]
set_option maxHeartbeats 1000000 in
theorem samClone_any (a : Option Addr) (len cap : Nat) (l : List Sam) (w : World) (h : Sm w a len l) (hm : len ≤ 1000000) :
    Calls Try.prog 25 #[.slice a len cap] w fun e w' => ∃ v, e = .returned v ∧ w'.ownsRow w.heap.size 36 2 v len (vsm l) ∧ Below w.heap.size w w' := by
  obtain ⟨i0, hi, hz0, hz1, hz2⟩ := info_parts Try.infoSam
  have heq := fun (wx : World) (aa : Option Addr) (n c : Nat) => Lib.run_eql_slice_nil (P := Try.prog) wx 25 36 aa n c 0 0 Try.underlying25
  cases a with
  | none =>
    obtain rfl := h.2.2.2.1 rfl
    obtain rfl : l = [] := List.length_eq_zero_iff.1 h.1
    go_enter Try.func25, Try.ntmps25
    go_wp2
    go_ret
    exact ⟨_, rfl, World.ownsRow_nil _ _ _ _, Below.refl _ _⟩
  | some x =>
    have hl : (vsm l).length = len * 2 := by rw [vsm_len, h.1]
    have hown := World.ownsRow_lit (base := w.heap.size) (e := 36) (size := 2) w #[] 0 (Nat.le_refl _) (Nat.zero_le _) rfl
    have HC := hidn (vsm_at h)
    have H1 := hidn (one_vsm l)
    go_enter Try.func25, Try.ntmps25
    go_wp2_with (at_builtin; refine wpList_append_own _ rfl _ _ 25 rfl w.heap.size 36 i0 (.agg #[.int .i64 0, .int .u64 0]) 2 16 Try.underlying25 hi hz0 hz1 hz2 rfl (by decide) _ 0 [] rfl hown x len cap (vsm l) rfl hl ?c1 H1.out (by unfold maxLen; omega) (by omega) (by simp) ?_)
    case c1 =>
      intro j u hj
      exact Lib.cell?_alloc_some _ (HC.out j u hj)
    intro v' w1 hown1 hgrow1 _
    clear hown
    go_wp2
    go_ret
    refine ⟨_, rfl, by simpa using hown1, ?_⟩
    refine ((Below.refl _ _).alloc (Nat.le_refl _) _).grown hgrow1 (by simp) ?_
    intro k hk
    simp [Value.ownBlock] at hk
    omega
end Go.Proofs.Ytccjgciknaooaaa
