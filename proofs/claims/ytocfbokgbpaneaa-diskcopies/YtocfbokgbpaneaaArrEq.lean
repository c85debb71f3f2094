/- Two arrays of bytes, held against each other as values. -/
import Derived.Test.YtocfbokgbpaneaaMa
import Derived.ChangeKeysEq
import Derived.Laws.StructEq
namespace Go.Proofs.Ytocfbokgbpaneaa
open Go.RowKit
set_option linter.unusedVariables false

theorem part_vb (w : World) (xs : List Nat) (i : Nat) (hi : i < xs.length) : (part 5 (vb xs).toArray i).run Try.prog w = .ok (.int .u8 ((xs.getD i 0 : Nat) : Int)) w := by
  exact run_part_plain w (show Try.prog.plainKey 5 = true by kernel_rfl) (by rw [List.getElem?_toArray]; exact vb_getD xs i hi)

theorem eqItems_vb (w : World) (d : Nat) (xs ys : List Nat) : ∀ is : List Nat, (∀ i ∈ is, i < xs.length ∧ i < ys.length) →
    (Op.eqItems (d + 1) 5 1 (vb xs).toArray (vb ys).toArray is).run Try.prog w = .ok (is.all fun i => xs.getD i 0 == ys.getD i 0) w
  | [], _ => by simp [Op.eqItems]
  | i :: is, h => by
    obtain ⟨h1, h2⟩ := h i (by simp)
    have ih := eqItems_vb w d xs ys is (fun j hj => h j (by simp [hj]))
    have p1 := part_vb w xs i h1
    have p2 := part_vb w ys i h2
    have p3 := run_equalIn_int (P := Try.prog) w d 5 .u8 .u8 ((xs.getD i 0 : Nat) : Int) ((ys.getD i 0 : Nat) : Int) Try.underlying5
    simp only [Op.eqItems, Sem.run_bind, Nat.mul_one, p1, p2, p3, Result.andThen_ok]
    have e : (((xs.getD i 0 : Nat) : Int) == ((ys.getD i 0 : Nat) : Int)) = (xs.getD i 0 == ys.getD i 0) := by
      rw [Bool.eq_iff_iff, beq_iff_eq, beq_iff_eq]; omega
    rw [e]
    cases hb : (xs.getD i 0 == ys.getD i 0)
    · simp only [Bool.not_false, if_true, List.all_cons, hb, Bool.false_and]; rfl
    · simp only [Bool.not_true, Bool.false_eq_true, if_false, List.all_cons, hb, Bool.true_and]
      exact ih

theorem all_getD (xs ys : List Nat) (n : Nat) (hx : xs.length = n) (hy : ys.length = n) : ((List.range n).all fun i => xs.getD i 0 == ys.getD i 0) = decide (xs = ys) := by
  rw [Bool.eq_iff_iff, List.all_eq_true, decide_eq_true_iff]
  constructor
  · intro h
    apply List.ext_getElem (by omega)
    intro i h1 h2
    have := h i (by simp; omega)
    simpa [h1, h2] using this
  · rintro rfl i _
    simp

end Go.Proofs.Ytocfbokgbpaneaa
