/- The walk of bits.TakeInt. -/
import Derived.Test.YtfgfkifdokeefaaDoorTakeInt
import Derived.Test.YtfgfkifdokeefaaDoorLaw2
namespace Go.Proofs.YtfgfkifdokeefaaDoor.Cd
open Go.RowKit
set_option linter.unusedVariables false

/-- What taking a number answers, whatever it is given. -/
def TI (zs : List Nat) (x at_ : Int) (v to e : Int) : Prop :=
  (¬ (canB zs x = true ∧ 0 ≤ at_ ∧ at_ ≤ x) ∧ v = 0 ∧ to = 0 ∧ e = 1) ∨
  ((canB zs x = true ∧ 0 ≤ at_ ∧ at_ ≤ x) ∧ ∃ k er, CAt zs x.toNat at_.toNat k er ∧
    ((er ≠ 0 ∧ v = 0 ∧ to = 0 ∧ e = er) ∨ (er = 0 ∧
      ((x.toNat < at_.toNat + clsMarks k + clsWidth k ∧ v = 0 ∧ to = 0 ∧ e = 3) ∨
       (at_.toNat + clsMarks k + clsWidth k ≤ x.toNat ∧
         ((cls (sgn (numOf (win zs (at_.toNat + clsMarks k) (clsWidth k))) (clsWidth k)) ≠ k ∧ v = 0 ∧ to = 0 ∧ e = 5) ∨
          (cls (sgn (numOf (win zs (at_.toNat + clsMarks k) (clsWidth k))) (clsWidth k)) = k ∧ v = sgn (numOf (win zs (at_.toNat + clsMarks k) (clsWidth k))) (clsWidth k) ∧ to = ((at_.toNat + clsMarks k + clsWidth k : Nat) : Int) ∧ e = 0)))))))

theorem TI.unique {zs : List Nat} {x at_ v v' to to' e e' : Int} (h : TI zs x at_ v to e) (h' : TI zs x at_ v' to' e') : v = v' ∧ to = to' ∧ e = e' := by
  rcases h with ⟨g, rfl, rfl, rfl⟩ | ⟨g, k, er, hc, h⟩ <;> rcases h' with ⟨g', rfl, rfl, rfl⟩ | ⟨g', k', er', hc', h'⟩
  · exact ⟨rfl, rfl, rfl⟩
  · exact absurd g' g
  · exact absurd g g'
  · obtain ⟨rfl, rfl⟩ := hc.unique hc'
    rcases h with ⟨g1, rfl, rfl, rfl⟩ | ⟨g1, h⟩ <;> rcases h' with ⟨g1', rfl, rfl, rfl⟩ | ⟨g1', h'⟩
    · exact ⟨rfl, rfl, rfl⟩
    · exact absurd g1' g1
    · exact absurd g1 g1'
    · rcases h with ⟨g2, rfl, rfl, rfl⟩ | ⟨g2, h⟩ <;> rcases h' with ⟨g2', rfl, rfl, rfl⟩ | ⟨g2', h'⟩
      · exact ⟨rfl, rfl, rfl⟩
      · omega
      · omega
      · rcases h with ⟨g3, rfl, rfl, rfl⟩ | ⟨g3, rfl, rfl, rfl⟩ <;> rcases h' with ⟨g3', rfl, rfl, rfl⟩ | ⟨g3', rfl, rfl, rfl⟩
        · exact ⟨rfl, rfl, rfl⟩
        · exact absurd g3' g3
        · exact absurd g3 g3'
        · exact ⟨rfl, rfl, rfl⟩

theorem CAt.marks {zs : List Nat} {n at_ k : Nat} (h : CAt zs n at_ k 0) : k ≤ 4 ∧ at_ + clsMarks k ≤ n := by
  rcases h with ⟨_, h4, ho, hz⟩ | ⟨h, _⟩
  · refine ⟨h4, ?_⟩
    have hk5 : k = 0 ∨ k = 1 ∨ k = 2 ∨ k = 3 ∨ k = 4 := by omega
    rcases hk5 with rfl | rfl | rfl | rfl | rfl
    · have := hz (by omega); simp [clsMarks]; omega
    · have := hz (by omega); simp [clsMarks]; omega
    · have := hz (by omega); simp [clsMarks]; omega
    · have := hz (by omega); simp [clsMarks]; omega
    · have := ho 3 (by omega); simp [clsMarks]; omega
  · cases h

theorem sgn_bounds (word k : Nat) (hk : k ≤ 4) (hw : word < 2 ^ clsWidth k) : -9223372036854775808 ≤ sgn word (clsWidth k) ∧ sgn word (clsWidth k) ≤ 9223372036854775807 := by
  have hk5 : k = 0 ∨ k = 1 ∨ k = 2 ∨ k = 3 ∨ k = 4 := by omega
  rcases hk5 with rfl | rfl | rfl | rfl | rfl <;> simp [clsWidth] at hw ⊢ <;> unfold sgn <;> split <;> omega

end Go.Proofs.YtfgfkifdokeefaaDoor.Cd
