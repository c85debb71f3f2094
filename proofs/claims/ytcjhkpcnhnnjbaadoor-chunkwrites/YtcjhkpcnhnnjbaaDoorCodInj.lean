/- Samples with the same bytes are the same; slices.Equal of samples. -/
import Derived.Test.YtcjhkpcnhnnjbaaDoorCodDec
import Derived.Laws.StructEq
namespace Go.Proofs.YtcjhkpcnhnnjbaaDoor.Cd
open Go.RowKit Go.Joins
set_option linter.unusedVariables false
set_option linter.unusedSimpArgs false

/-- Whether it is so. -/
noncomputable def dcd (P : Prop) : Bool := @decide P (Classical.propDecidable P)
theorem dcd_true {P : Prop} (h : P) : dcd P = true := by unfold dcd; exact @decide_eq_true P (Classical.propDecidable P) h
theorem dcd_false {P : Prop} (h : ¬ P) : dcd P = false := by unfold dcd; exact @decide_eq_false P (Classical.propDecidable P) h
theorem one_uniq {zs : List Nat} {N q : Nat} {f : Bool} {a s s' : Sam} {st : Int} (hcan : canB zs N = true) (ha : SamOK a) (hst : -9223372036854775808 ≤ st ∧ st ≤ 9223372036854775807) (hs : SamOK s) (hs' : SamOK s') (h : At zs N q (oneOf f a st s)) (h' : At zs N q (oneOf f a st s')) : s' = s := by
  cases f with
  | true => rw [(first_uniq hs h).2, (first_uniq hs' h').2]
  | false =>
    obtain ⟨d, x, d1, x1, a1, t1, e1⟩ := next_uniq ha hst hs h
    obtain ⟨d', x', d2, x2, a2, t2, e2⟩ := next_uniq ha hst hs' h'
    have hd := int_uniq hcan d1.1 d1.2 d2.1 d2.2 a1 a2
    subst hd
    have hx := turned_uniq x1 x2 t1 t2
    subst hx
    rw [e1, e2]
theorem uniq_of_at {zs : List Nat} {N : Nat} {l : List Sam} (hcan : canB zs N = true) (hl : SamsOK l) (h : At zs N 0 (bodyTo l l.length)) : Uniq zs N l := by
  have key : ∀ k, k ≤ l.length → Uniq zs N (l.take k) := by
    intro k
    induction k with
    | zero => intro _; exact uniq_nil zs N
    | succ k ih =>
      intro hk
      have hlen : (l.take k).length = k := by rw [List.length_take]; omega
      have hsame : ∀ i, i < k → samD l i = samD (l.take k) i := fun i hi => (samD_take hi).symm
      obtain ⟨e1, e2⟩ := same_ahead hsame
      have hat : At zs N 0 (bodyTo l k ++ encOne l k) := at_body_le h hk
      have h1 := (at_app.1 hat).2
      rw [Nat.zero_add, encOne_oneOf, e1, e2, same_body hsame] at h1
      have et : l.take (k + 1) = l.take k ++ [samD l k] := by
        rw [List.take_succ_eq_append_getElem (by omega)]
        simp [samD, List.getD_eq_getElem?_getD, show k < l.length from by omega]
      rw [et]
      refine uniq_snoc (ih (by omega)) (fun s' hs' h' => ?_)
      rw [hlen] at h'
      have hok : SamsOK (l.take k) := by
        intro i
        by_cases hi : i < k
        · rw [samD_take hi]; exact hl i
        · have : samD (l.take k) i = ⟨0, 0⟩ := by
            unfold samD
            rw [List.getD_eq_getElem?_getD, List.getElem?_eq_none (by rw [hlen]; omega)]
            rfl
          rw [this]; exact samOK_zero
      exact one_uniq hcan (aheadS_ok hok k) (pstepS_rng _ k) (hl k) hs' h1 h'
  have := key l.length (Nat.le_refl _)
  rwa [List.take_of_length_le (Nat.le_refl _)] at this
/-- Samples with the same bytes are the same. -/
theorem pack_inj {zs : List Nat} {l m : List Sam} (hl : SamsOK l) (hm : SamsOK m) (cl : canS l = true) (cm : canS m = true) (h1 : IsPack zs (encS l)) (h2 : IsPack zs (encS m)) : m = l := by
  have c1 := (canS_iff l).1 cl
  have c2 := (canS_iff m).1 cm
  have hz : 2 ≤ zs.length := by
    have := encS_len16 l
    have := h1.1
    unfold nb at this
    omega
  obtain ⟨g1, g2⟩ := (pack_split h1.2.1 c1.1 hz).1 h1
  obtain ⟨k1, k2⟩ := (pack_split h1.2.1 c2.1 hz).1 h2
  have hll : l.length = m.length := by rw [← g1, k1]
  have hU := uniq_of_at can_full hl (pack_at g2).1
  have := hU m hm c2.2 (by omega) (by rw [hll]; exact (pack_at k2).1)
  rwa [hll, List.take_of_length_le (Nat.le_refl _)] at this
theorem sam_drop (l : List Sam) (k : Nat) (h : k < l.length) : l.drop k = samD l k :: l.drop (k + 1) := by
  rw [List.drop_eq_getElem_cons h]
  simp [samD, List.getD_eq_getElem?_getD, h]
theorem run_neq_sam (t1 t2 : Int) (v1 v2 : Nat) (w : World) : (binOp .neq 49 (.agg #[.int .i64 t1, .int .u64 (v1 : Int)]) (.agg #[.int .i64 t2, .int .u64 (v2 : Int)])).run Tryd.prog w = .ok (.bool (!dcd ((⟨t1, v1⟩ : Sam) = ⟨t2, v2⟩))) w := by
  have e : dcd ((⟨t1, v1⟩ : Sam) = ⟨t2, v2⟩) = (t1 == t2 && (v1 : Int) == (v2 : Int)) := by
    by_cases h : (⟨t1, v1⟩ : Sam) = ⟨t2, v2⟩
    · rw [dcd_true h]
      injection h with h1 h2
      subst h1 h2
      simp
    · rw [dcd_false h]
      symm
      rw [Bool.eq_false_iff]
      intro hh
      simp only [Bool.and_eq_true, beq_iff_eq] at hh
      obtain ⟨h1, h2⟩ := hh
      exact h (by rw [h1, show v1 = v2 from by omega])
  rw [run_neq_struct, e]
  cases hx : (t1 == t2) <;> cases hy : ((v1 : Int) == (v2 : Int)) <;> simp [go_sem, Tryd.underlying49, hx, hy]
set_option maxHeartbeats 4000000 in
set_option maxRecDepth 100000 in
theorem seq_any (a b : Option Addr) (len cap len' cap' : Nat) (la lb : List Sam) (w : World) (h : Sm w a len la) (h' : Sm w b len' lb) :
    Calls Tryd.prog 22 #[.slice a len cap, .slice b len' cap'] w fun e w' => e = .returned (.bool (dcd (la = lb))) ∧ Below w.heap.size w w' := by
  have hm := h.2.1
  have hm' := h'.2.1
  unfold maxLen at hm hm'
  have hl := hidn h.1
  have hl' := hidn h'.1
  obtain ⟨dd, hdd⟩ : ∃ dd, dd = dcd (la = lb) := ⟨_, rfl⟩
  rw [← hdd]
  have HDD := hidn hdd
  clear hdd
  by_cases hne : len = len'
  · subst hne
    go_enter Tryd.func22, Tryd.ntmps22
    go_wp2
    go_loopw [13] (fun i wr => ∃ k : Nat, k ≤ len ∧ i = .int .i64 (k : Int) ∧ Below w.heap.size w wr ∧ Hid (la = lb ↔ la.drop k = lb.drop k)) (fun i wr => len - (intOf i).toNat)
    case atStart => exact ⟨0, Nat.zero_le _, rfl, Below.refl _ _, hidn Iff.rfl⟩
    case round =>
      obtain ⟨k, hk, rfl, hbl, hn⟩ := hrel
      by_cases hlt : k < len
      · obtain ⟨ba, offa, rfl, hba, hca⟩ := h.pos (by omega)
        obtain ⟨bb, offb, rfl, hbb, hcb⟩ := h'.pos (by omega)
        have hki : (k : Int) < (len : Int) := by omega
        obtain ⟨c0, c1⟩ := hca k hlt
        have c0' := (hbl.cell (p := ⟨ba, offa + k * 2, none⟩) hba).trans c0
        have c1' := (hbl.cell (p := ⟨ba, offa + k * 2 + 1, none⟩) hba).trans c1
        obtain ⟨d0, d1⟩ := hcb k hlt
        have d0' := (hbl.cell (p := ⟨bb, offb + k * 2, none⟩) hbb).trans d0
        have d1' := (hbl.cell (p := ⟨bb, offb + k * 2 + 1, none⟩) hbb).trans d1
        have HST : Hid (la = lb ↔ samD la k = samD lb k ∧ la.drop (k + 1) = lb.drop (k + 1)) := hidn (hn.out.trans (by rw [sam_drop la k (by rw [hl.out]; exact hlt), sam_drop lb k (by rw [hl'.out]; exact hlt)]; simp))
        clear c0 c1 d0 d1 hca hcb hn
        generalize samD la k = x at *
        generalize samD lb k = y at *
        obtain ⟨x1, x2⟩ := x
        obtain ⟨y1, y2⟩ := y
        dsimp only at c0' c1' d0' d1'
        have hrun := fun w => run_neq_sam x1 y1 x2 y2 w
        by_cases hxy : (⟨x1, x2⟩ : Sam) = ⟨y1, y2⟩
        · have hd : dcd ((⟨x1, x2⟩ : Sam) = ⟨y1, y2⟩) = true := dcd_true hxy
          have hrun2 : ∀ w, (binOp .neq 49 (.agg #[.int .i64 x1, .int .u64 (x2 : Int)]) (.agg #[.int .i64 y1, .int .u64 (y2 : Int)])).run Tryd.prog w = .ok (.bool false) w := fun w => by rw [hrun w, hd]; rfl
          have HC : Hid (la = lb ↔ la.drop (k + 1) = lb.drop (k + 1)) := hidn (HST.out.trans ⟨fun h => h.2, fun h => ⟨hxy, h⟩⟩)
          clear hrun hd hxy HST
          go_wp2
          go_quiet (fail)
          go_wp2
          exact ⟨⟨k + 1, by omega, by go_num, below_drewN hbl _, HC⟩, by simp [intOf]; omega⟩
        · have hd : dcd ((⟨x1, x2⟩ : Sam) = ⟨y1, y2⟩) = false := dcd_false hxy
          have hrun2 : ∀ w, (binOp .neq 49 (.agg #[.int .i64 x1, .int .u64 (x2 : Int)]) (.agg #[.int .i64 y1, .int .u64 (y2 : Int)])).run Tryd.prog w = .ok (.bool true) w := fun w => by rw [hrun w, hd]; rfl
          have HC : Hid (¬ la = lb) := hidn (fun h => hxy (HST.out.1 h).1)
          clear hrun hd hxy HST
          go_wp2
          go_quiet (fail)
          go_wp2
          go_ret
          rw [HDD.out, dcd_false HC.out]
          exact ⟨rfl, below_drewN hbl _⟩
      · obtain rfl : k = len := by omega
        have HC : Hid (la = lb) := hidn (hn.out.2 (by rw [List.drop_of_length_le (by rw [hl.out]; omega), List.drop_of_length_le (by rw [hl'.out]; omega)]))
        clear hn
        go_wp2
        go_ret
        rw [HDD.out, dcd_true HC.out]
        exact ⟨rfl, hbl⟩
  · have hne' : ((len : Int) == (len' : Int)) = false := beq_eq_false_iff_ne.2 (by omega)
    have hne2 : ((len : Int) != (len' : Int)) = true := by rw [bne_iff_ne]; omega
    have HC : Hid (¬ la = lb) := hidn (fun h => hne (by rw [← hl.out, ← hl'.out, h]))
    clear hne
    go_enter Tryd.func22, Tryd.ntmps22
    go_wp2
    go_ret
    rw [HDD.out, dcd_false HC.out]
    exact ⟨rfl, Below.refl _ _⟩
end Go.Proofs.YtcjhkpcnhnnjbaaDoor.Cd
