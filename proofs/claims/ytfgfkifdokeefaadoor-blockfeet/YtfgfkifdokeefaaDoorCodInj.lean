/- Samples with the same bytes are the same; slices.Equal of samples. -/
import Derived.Test.YtfgfkifdokeefaaDoorCodDec
import Derived.Laws.StructEq
namespace Go.Proofs.YtfgfkifdokeefaaDoor.Cd
open Go.RowKit Go.Joins
set_option linter.unusedVariables false
set_option linter.unusedSimpArgs false

/-- Whether it is so. -/
noncomputable def dcd (P : Prop) : Bool := @decide P (Classical.propDecidable P)

theorem dcd_true {P : Prop} (h : P) : dcd P = true := by unfold dcd; exact @decide_eq_true P (Classical.propDecidable P) h

theorem dcd_false {P : Prop} (h : ¬ P) : dcd P = false := by unfold dcd; exact @decide_eq_false P (Classical.propDecidable P) h

theorem one_uniq {zs : List Nat} {N q : Nat} {f : Bool} {a s s' : Sam} {st : Int} (hcan : canB zs N = true) (ha : SamOK a) (hst : -9223372036854775808 ≤ st ∧ st ≤ 9223372036854775807) (hs : SamOK s) (hs' : SamOK s') (h : At zs N q (oneOf f a st s)) (h' : At zs N q (oneOf f a st s')) : s' = s := by
  cases f with
  | true => rw [(first_uniq hs h).2, (first_uniq hs' h').2]
  | false =>
    obtain ⟨d, x, d1, x1, a1, t1, e1⟩ := next_uniq ha hst hs h
    obtain ⟨d', x', d2, x2, a2, t2, e2⟩ := next_uniq ha hst hs' h'
    have hd := int_uniq hcan d1.1 d1.2 d2.1 d2.2 a1 a2
    subst hd
    have hx := turned_uniq x1 x2 t1 t2
    subst hx
    rw [e1, e2]

theorem uniq_of_at {zs : List Nat} {N : Nat} {l : List Sam} (hcan : canB zs N = true) (hl : SamsOK l) (h : At zs N 0 (bodyTo l l.length)) : Uniq zs N l := by
  have key : ∀ k, k ≤ l.length → Uniq zs N (l.take k) := by
    intro k
    induction k with
    | zero => intro _; exact uniq_nil zs N
    | succ k ih =>
      intro hk
      have hlen : (l.take k).length = k := by rw [List.length_take]; omega
      have hsame : ∀ i, i < k → samD l i = samD (l.take k) i := fun i hi => (samD_take hi).symm
      obtain ⟨e1, e2⟩ := same_ahead hsame
      have hat : At zs N 0 (bodyTo l k ++ encOne l k) := at_body_le h hk
      have h1 := (at_app.1 hat).2
      rw [Nat.zero_add, encOne_oneOf, e1, e2, same_body hsame] at h1
      have et : l.take (k + 1) = l.take k ++ [samD l k] := by
        rw [List.take_succ_eq_append_getElem (by omega)]
        simp [samD, List.getD_eq_getElem?_getD, show k < l.length from by omega]
      rw [et]
      refine uniq_snoc (ih (by omega)) (fun s' hs' h' => ?_)
      rw [hlen] at h'
      have hok : SamsOK (l.take k) := by
        intro i
        by_cases hi : i < k
        · rw [samD_take hi]; exact hl i
        · have : samD (l.take k) i = ⟨0, 0⟩ := by
            unfold samD
            rw [List.getD_eq_getElem?_getD, List.getElem?_eq_none (by rw [hlen]; omega)]
            rfl
          rw [this]; exact samOK_zero
      exact one_uniq hcan (aheadS_ok hok k) (pstepS_rng _ k) (hl k) hs' h1 h'
  have := key l.length (Nat.le_refl _)
  rwa [List.take_of_length_le (Nat.le_refl _)] at this

/-- Samples with the same bytes are the same. -/
theorem pack_inj {zs : List Nat} {l m : List Sam} (hl : SamsOK l) (hm : SamsOK m) (cl : canS l = true) (cm : canS m = true) (h1 : IsPack zs (encS l)) (h2 : IsPack zs (encS m)) : m = l := by
  have c1 := (canS_iff l).1 cl
  have c2 := (canS_iff m).1 cm
  have hz : 2 ≤ zs.length := by
    have := encS_len16 l
    have := h1.1
    unfold nb at this
    omega
  obtain ⟨g1, g2⟩ := (pack_split h1.2.1 c1.1 hz).1 h1
  obtain ⟨k1, k2⟩ := (pack_split h1.2.1 c2.1 hz).1 h2
  have hll : l.length = m.length := by rw [← g1, k1]
  have hU := uniq_of_at can_full hl (pack_at g2).1
  have := hU m hm c2.2 (by omega) (by rw [hll]; exact (pack_at k2).1)
  rwa [hll, List.take_of_length_le (Nat.le_refl _)] at this

theorem sam_drop (l : List Sam) (k : Nat) (h : k < l.length) : l.drop k = samD l k :: l.drop (k + 1) := by
  rw [List.drop_eq_getElem_cons h]
  simp [samD, List.getD_eq_getElem?_getD, h]

theorem run_neq_sam (t1 t2 : Int) (v1 v2 : Nat) (w : World) : (binOp .neq 50 (.agg #[.int .i64 t1, .int .u64 (v1 : Int)]) (.agg #[.int .i64 t2, .int .u64 (v2 : Int)])).run Tryd.prog w = .ok (.bool (!dcd ((⟨t1, v1⟩ : Sam) = ⟨t2, v2⟩))) w := by
  have e : dcd ((⟨t1, v1⟩ : Sam) = ⟨t2, v2⟩) = (t1 == t2 && (v1 : Int) == (v2 : Int)) := by
    by_cases h : (⟨t1, v1⟩ : Sam) = ⟨t2, v2⟩
    · rw [dcd_true h]
      injection h with h1 h2
      subst h1 h2
      simp
    · rw [dcd_false h]
      symm
      rw [Bool.eq_false_iff]
      intro hh
      simp only [Bool.and_eq_true, beq_iff_eq] at hh
      obtain ⟨h1, h2⟩ := hh
      exact h (by rw [h1, show v1 = v2 from by omega])
  rw [run_neq_struct, e]
  cases hx : (t1 == t2) <;> cases hy : ((v1 : Int) == (v2 : Int)) <;> simp [go_sem, Tryd.underlying50, hx, hy]

end Go.Proofs.YtfgfkifdokeefaaDoor.Cd
