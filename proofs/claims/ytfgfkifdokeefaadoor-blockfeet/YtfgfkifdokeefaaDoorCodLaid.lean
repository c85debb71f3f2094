/- The two tables, as the row lists them, are what the walks read. -/
import Derived.Test.YtfgfkifdokeefaaDoorBitsLaid
import Derived.Test.YtfgfkifdokeefaaDoorCodZ
namespace Go.Proofs.YtfgfkifdokeefaaDoor.Cd
open Go.ChangeShapes Go.WideShapes Go.ChangeAt Go.RowKit Go.Deep
set_option linter.unusedVariables false
theorem gDb : Tryd.prog.globalNamed "math/bits.deBruijn64tab" = some 1 := by kernel_rfl
theorem gDbType : (Tryd.prog.globals[1]?).map (·.type) = some 102 := by kernel_rfl
theorem cellsDb : Tryd.prog.cellsOf 102 = 64 := by kernel_rfl
theorem cellsU8 : Tryd.prog.cellsOf 5 = 1 := by kernel_rfl
theorem laid_tail {P : Program} {x : String × DataW Unit} {rest : List (String × DataW Unit)} {W : World} (h : laidMet P (x :: rest) W) : laidMet P rest W := by
  obtain ⟨ps, ⟨g', t', cs, fuel, p, q, hg', ht', hvar, hd, hr, he⟩, hn, hk⟩ := h
  subst he
  exact ⟨q, hr, (List.nodup_append.1 hn).2.1, fun b off hm => hk b off (List.mem_append_right _ hm)⟩
theorem codTab_of_laid {W : World} (h : laidMet Tryd.prog [("math/bits.deBruijn64tab", Rows.laid_math_bits_deBruijn64tab), ("dryrot/bits.classes", Rows.laid_dryrot_bits_classes)] W) : BitsTab W ∧ DbTab W := by
  refine ⟨bitsTab_of_laid (laid_tail h), fun j hj => ?_⟩
  have hh : Lib.TabIs Tryd.prog W "math/bits.deBruijn64tab" .u8 (Lib.deBruijn64tab.map Int.ofNat) :=
    Lib.tabIs_of_head (rest := [("dryrot/bits.classes", Rows.laid_dryrot_bits_classes)]) gDb gDbType Tryd.underlying102 Tryd.underlying5 cellsU8 cellsDb h
  have := hh.cell gDb j (by simpa using hj)
  rw [this]
  simp [List.getD_eq_getElem?_getD, hj]
end Go.Proofs.YtfgfkifdokeefaaDoor.Cd
